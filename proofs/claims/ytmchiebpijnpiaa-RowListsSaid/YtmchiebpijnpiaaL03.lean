/- RowLists: any versions' bytes (the first 6, few bytes) are the document's, and are read as they, or they are refused. No conditions. -/
import Derived.Test.YtmchiebpijnpiaaRt
import Derived.Test.YtmchiebpijnpiaaRm
import Derived.Test.YtmchiebpijnpiaaRn
import Derived.Test.YtmchiebpijnpiaaRq
import Derived.Test.YtmchiebpijnpiaaRr
namespace Go.Proofs.Ytmchiebpijnpiaa.L03
open Go.RowKit Go.ChangeShapes Go.WideShapes Go.ChangeAt
set_option linter.unusedVariables false

def cuts (l : List Ver) : List Ver := l.map cutV
theorem cuts_snoc (l : List Ver) (k : Nat) (h : k < l.length) : cuts (l.take (k + 1)) = cuts (l.take k) ++ [cutV l[k]] := by
  unfold cuts; rw [List.take_succ_eq_append_getElem h, List.map_append]; rfl
theorem cuts_key (l : List Ver) : ∀ v ∈ cuts l, v.key.size ≤ 110 := by
  intro v hv
  obtain ⟨x, _, rfl⟩ := List.mem_map.1 hv
  exact cut_key x

set_option maxHeartbeats 8000000 in
theorem walk (va : Value) (l : List Ver) (w : World) (h : RdVr w w.heap.size va l) :
    Calls Try.prog 5 #[va] w fun e w' => e = .returned (.bool true) ∧ Below w.heap.size w w' := by
  have R := Lib.hid h
  obtain ⟨A, ca, rfl, hla, hca, -⟩ := h
  have T1 := Lib.hid ref6_cut
  have MR := Lib.hid ref6_may
  go_enter Try.func5, Try.ntmps5
  go_wp2_with fail
  go_loopw [3, 4, 5] (fun x m i wr => ∃ k : Nat, i = .int .i64 k ∧ k ≤ l.length ∧ k ≤ 6 ∧ m = .bool ((cuts (l.take k)).all mayV) ∧ OwnVr wr w.heap.size x (cuts (l.take k)) ∧ Below w.heap.size w wr) (fun _ _ i _ => 6 - (intOf i).toNat)
  case atStart => exact ⟨0, rfl, Nat.zero_le _, by omega, rfl, OwnX.nil _ _, Below.refl _ _⟩
  case round =>
    obtain ⟨k, rfl, hk, hk6, rfl, ho, hb⟩ := hrel
    have O := Lib.hid ho
    have G := Lib.hid hb
    clear ho hb
    by_cases hlt : k < l.length ∧ k < 6
    · obtain ⟨hlt, hlt6⟩ := hlt
      have z1 : decide ((k : Int) < (l.length : Int)) = true := by simp; omega
      have z2 : decide ((k : Int) < 6) = true := by simp; omega
      obtain ⟨ba, oa, rfl, hba, c0, c1, c2, c3, c4, c5, c6, c7⟩ := RdVr.here (R.out.below G.out) k hlt
      have FS := Lib.hid (cuts_snoc l k hlt)
      have TK := Lib.hid (T1.out l[k])
      have hck := cut_key l[k]
      have MK := Lib.hid (fun w => MR.out (cutV l[k]) w (by omega))
      have FA := Lib.hid (show (cuts (l.take (k + 1))).all mayV = ((cuts (l.take k)).all mayV && mayV (cutV l[k])) from by rw [FS.out, List.all_append]; simp)
      have hlen : (cuts (l.take k)).length ≤ 6 := by unfold cuts; rw [List.length_map, List.length_take]; omega
      clear hck
      generalize cutV l[k] = cv at *
      generalize mayV cv = mk at *
      generalize l[k] = p at *
      generalize cuts (l.take k) = acc at *
      generalize acc.all mayV = ma at *
      have hal1 := Lib.hid (show acc.length + 1 ≤ 1000000000 from by omega)
      clear hlen
      obtain ⟨k0, b0, e0, s0, ⟨x0, y0⟩, u0, g0⟩ := p
      obtain ⟨kk, b, e, s, ⟨x, y⟩, u, g⟩ := cv
      unfold verV at TK MK
      simp only at TK MK c0 c1 c2 c3 c4 c5 c6 c7
      go_wp2_with fail
      refine (TK.out _).mono ?_
      rintro z w1 ⟨rfl, hb⟩
      have hgz := G.out.size
      have O := Lib.hid (O.out.on hb)
      have G := Lib.hid (G.out.trans (hb.mono hgz))
      clear hb hgz c0 c1 c2 c3 c4 c5 c6 c7
      have BX := Lib.hid (Box.new w1 #[.string kk, .int .i64 b, .int .i64 e, .int .i64 s, .int .i64 x, .int .i64 y, .string u, .bool g] 27 _ rfl)
      have O := Lib.hid (O.out.on (alloc_below w1 (.cells #[.string kk, .int .i64 b, .int .i64 e, .int .i64 s, .int .i64 x, .int .i64 y, .string u, .bool g] 27)))
      have G := Lib.hid (G.out.trans ((alloc_below w1 (.cells #[.string kk, .int .i64 b, .int .i64 e, .int .i64 s, .int .i64 x, .int .i64 y, .string u, .bool g] 27)).mono G.out.size))
      go_wp2_with fail
      generalize w1.heap.size = nx at *
      generalize w1.alloc (.cells #[.string kk, .int .i64 b, .int .i64 e, .int .i64 s, .int .i64 x, .int .i64 y, .string u, .bool g] 27) = w2 at *
      refine (MK.out _).mono ?_
      rintro z w3 ⟨rfl, hb⟩
      have hgz := G.out.size
      have BX := Lib.hid (BX.out.later hb)
      have O := Lib.hid (O.out.on hb)
      have G := Lib.hid (G.out.trans (hb.mono hgz))
      clear hb hgz
      have d0 := BX.out.cell 0 (.string kk) rfl
      have d1 := BX.out.cell 1 (.int .i64 b) rfl
      have d2 := BX.out.cell 2 (.int .i64 e) rfl
      have d3 := BX.out.cell 3 (.int .i64 s) rfl
      have d4 := BX.out.cell 4 (.int .i64 x) rfl
      have d5 := BX.out.cell 5 (.int .i64 y) rfl
      have d6 := BX.out.cell 6 (.string u) rfl
      have d7 := BX.out.cell 7 (.bool g) rfl
      have hsz := Lib.hid G.out.size
      cases ma
      all_goals
        cases mk
        all_goals
          go_wp2_with (at_builtin; refine wpl_appX rfl (.tmp 34) (.tmp 36) rfl Try.underlying46 ver_info rfl w.heap.size _ acc [(⟨kk, b, e, s, (x, y), u, g⟩ : Ver)] _ _ _ rfl rfl rfl rfl O.out hsz.out hal1.out (by decide) ?_; intro v5 w5 ho5 hg5 hb5)
          have OZ := Lib.hid (show OwnVr w5 w.heap.size v5 (cuts (l.take (k + 1))) from by rw [FS.out]; exact ho5)
          have GZ := Lib.hid (G.out.trans hb5)
          clear ho5 hg5 hb5
          go_roundw
          case rel => exact ⟨k + 1, by go_num, by omega, by omega, by rw [FA.out]; rfl, OZ.out, GZ.out⟩
          case measure => simp [intOf]; omega
    · have hke : l.take k = l.take 6 := by
        by_cases h6 : k < 6
        · have hkl : k = l.length := by
            rcases Nat.lt_or_ge k l.length with h | h
            · exact absurd ⟨h, h6⟩ hlt
            · omega
          rw [List.take_of_length_le (by omega), List.take_of_length_le (by omega)]
        · rw [show k = 6 from by omega]
      have hz : (k < l.length ∧ k = 6) ∨ k = l.length := by
        rcases Nat.lt_or_ge k l.length with h | h
        · left; exact ⟨h, by rcases Nat.lt_or_ge k 6 with h2 | h2; exact absurd ⟨h, h2⟩ hlt; omega⟩
        · right; omega
      rw [hke] at O ⊢
      have HK := cuts_key (l.take 6)
      have hlen : (cuts (l.take 6)).length ≤ 6 := by unfold cuts; rw [List.length_map, List.length_take]; omega
      clear hke hlt
      generalize cuts (l.take 6) = L at *
      have LI := Lib.hid (fun v W h => row_list v L W h (fun x hx => by have := HK x hx; omega) (by omega))
      have RL := Lib.hid (fun (hm : L.all mayV = true) v W h => ref6_list v L W h (fun x hx => ⟨List.all_eq_true.1 hm x hx, by have := HK x hx; omega⟩) (by omega))
      have AE := Lib.hid (fun (hm : L.all mayV = true) => allV_enc L (List.all_eq_true.1 hm) (by omega))
      have HL := Lib.hid (fun (hm : L.all mayV = true) => show (encN L.length ++ encVs L).length ≤ 100000 from by
        have h1 := encN_nine L.length (by omega)
        have h2 := encVs_len L (fun x hx => ⟨List.all_eq_true.1 hm x hx, by have := HK x hx; omega⟩)
        rw [List.length_append]; omega)
      have LA := Lib.hid (fun v n W h (hn : n.length ≤ 100000) => row_all v n W h hn)
      clear HK hlen
      generalize encN L.length ++ encVs L = n at *
      generalize hma : L.all mayV = ma at *
      generalize hf1 : (if ma = true then (0 : Int) else 1) = f1 at LI
      have F1 := Lib.hid hf1
      clear hf1 hma
      rcases hz with ⟨z0, hk0⟩ | hk0
      case' inl =>
        subst hk0
        have z1 : decide ((6 : Int) < (l.length : Int)) = true := by rw [decide_eq_true_iff]; omega
        clear hk hk6 z0
      case' inr =>
        subst hk0
        clear hk hk6
      all_goals
        go_wp2_with fail
        refine (LI.out _ _ O.out.rd).mono ?_
        rintro z w1 ⟨v1, rfl, ho1, hb⟩
        have hgz := G.out.size
        have O := Lib.hid (O.out.on hb)
        have G := Lib.hid (G.out.trans (hb.mono hgz))
        have P1 := Lib.hid ho1.rd
        clear hb hgz ho1
        cases ma
        · have t1 : f1 = 1 := F1.out.symm
          subst t1
          simp only [Bool.false_eq_true, if_false] at P1
          obtain ⟨A1, c1, e1, -⟩ := id P1.out
          subst e1
          go_wp2_with fail
          refine (lives_any _).mono ?_
          rintro z w8 ⟨rfl, hb⟩
          have G := Lib.hid (G.out.trans (hb.mono G.out.size))
          clear hb
          go_wp2_with fail
          go_ret
          exact ⟨rfl, G.out⟩
        · have t1 : f1 = 0 := F1.out.symm
          subst t1
          simp only [if_true] at P1
          have P1 := P1
          have LB := Lib.hid (fun v W h => LA.out v n W h (HL.out rfl))
          rw [AE.out rfl] at LB
          have RM := Lib.hid (RL.out rfl)
          clear LA LI AE HL RL
          have PO := O
          obtain ⟨A1, c1, e1, -⟩ := id P1.out
          subst e1
          go_wp2_with fail
          refine (LB.out _ _ P1.out).mono ?_
          rintro z w2 ⟨v2, rfl, ho2, hb⟩
          have hgz := G.out.size
          have O := Lib.hid (O.out.on hb)
          have Q1 := Lib.hid (P1.out.on hb)
          have G := Lib.hid (G.out.trans (hb.mono hgz))
          have O2 := Lib.hid ho2.rd
          clear hb hgz ho2 P1 LB PO
          go_wp2_with fail
          refine (ref6_same _ _ _ _ _ O2.out O.out.rd).mono ?_
          rintro z w3 ⟨r, rfl, hr, hb⟩
          have hr1 : r = true := hr.2 rfl
          subst hr1
          have hgz := G.out.size
          have O3 := Lib.hid (show RdVr w3.drew w3.drew.heap.size u3 L from (O.out.on hb.drew).rd)
          have S1 := Lib.hid (show RdB w3.drew w3.drew.heap.size (.slice A1 n.length c1) n from Q1.out.on hb.drew)
          have G := Lib.hid (G.out.trans (hb.mono hgz)).drew
          obtain ⟨A3, c3, e3, -⟩ := id O3.out
          subst e3
          clear hb hgz hr Q1 O O2
          go_wp2_with fail
          refine reg_start (by kernel_rfl) ?_
          refine reg_take2 0 63 (v := ?_) (T' := ?_) (Later.refl _) (by kernel_rfl) (by kernel_rfl) (by kernel_rfl) (fun _ _ _ h => h) (fun o ho => ?_) ?_ ?_
          rotate_left 2
          · cases ho
            refine ⟨rfl, rfl, fun W hW => ?_⟩
            go_simp; (try with_reducible rfl)
          · simp only [List.setIfInBounds_toArray, List.set_cons_succ, List.set_cons_zero]; exact rfl
          refine reg_take2 1 64 (v := ?_) (T' := ?_) (Later.refl _) (by kernel_rfl) (by kernel_rfl) (by kernel_rfl) (fun _ _ _ h => h) (fun o ho => ?_) ?_ ?_
          rotate_left 2
          · cases ho
            refine ⟨rfl, rfl, fun W hW => ?_⟩
            have hcv := RdB.str (RdB.below S1.out hW)
            go_simp; (try with_reducible rfl)
          · simp only [List.setIfInBounds_toArray, List.set_cons_succ, List.set_cons_zero]; exact rfl
          refine reg_take2 2 65 (v := ?_) (T' := ?_) (Later.refl _) (by kernel_rfl) (by kernel_rfl) (by kernel_rfl) (fun _ _ _ h => h) (fun o ho => ?_) ?_ ?_
          rotate_left 2
          · cases ho
            refine ⟨rfl, rfl, fun W hW => ?_⟩
            go_simp; (try with_reducible rfl)
          · simp only [List.setIfInBounds_toArray, List.set_cons_succ, List.set_cons_zero]; exact rfl
          refine reg_call2 3 66 (Later.refl _) (by kernel_rfl) 22 #[.slice A3 L.length c3] (fun o ho => by cases ho; exact ⟨rfl, rfl, fun W => by go_simp⟩) ?_
          refine (RM.out _ _ O3.out).mono ?_
          rintro z x1 ⟨y1, rfl, hy1, hb1⟩
          have Y1 := Lib.hid hy1.rd
          have G := Lib.hid (G.out.trans (hb1.mono G.out.size))
          refine ⟨_, _, rfl, hb1, (by simp only [List.setIfInBounds_toArray, List.set_cons_succ, List.set_cons_zero]; exact rfl), ?_⟩
          clear hy1 hb1
          refine reg_take2 4 67 (v := ?_) (T' := ?_) (Later.refl _) (by kernel_rfl) (by kernel_rfl) (by kernel_rfl) (fun _ _ _ h => h) (fun o ho => ?_) ?_ ?_
          rotate_left 2
          · cases ho
            refine ⟨rfl, rfl, fun W hW => ?_⟩
            have hcv := RdB.str (RdB.below Y1.out hW)
            go_simp; (try with_reducible rfl)
          · simp only [List.setIfInBounds_toArray, List.set_cons_succ, List.set_cons_zero]; exact rfl
          refine reg_take2 5 68 (v := ?_) (T' := ?_) (Later.refl _) (by kernel_rfl) (by kernel_rfl) (by kernel_rfl) (fun _ _ _ h => h) (fun o ho => ?_) ?_ ?_
          rotate_left 2
          · cases ho
            refine ⟨rfl, rfl, fun W hW => ?_⟩
            refine exec_eql_str (u := n) (v := n) (r := true) (t2 := 9) (.tmp 64) (.tmp 67) ?_ ?_ ?_ (decide_eq_true rfl)
            all_goals rfl
          · simp only [List.setIfInBounds_toArray, List.set_cons_succ, List.set_cons_zero]; exact rfl
          refine reg_take2 6 69 (v := ?_) (T' := ?_) (Later.refl _) (by kernel_rfl) (by kernel_rfl) (by kernel_rfl) (fun _ _ _ h => h) (fun o ho => ?_) ?_ ?_
          rotate_left 2
          · cases ho
            refine ⟨rfl, rfl, fun W hW => ?_⟩
            go_simp; (try with_reducible rfl)
          · simp only [List.setIfInBounds_toArray, List.set_cons_succ, List.set_cons_zero]; exact rfl
          refine reg_take2 7 70 (v := ?_) (T' := ?_) (Later.refl _) (by kernel_rfl) (by kernel_rfl) (by kernel_rfl) (fun _ _ _ h => h) (fun o ho => ?_) ?_ ?_
          rotate_left 2
          · cases ho
            refine ⟨rfl, rfl, fun W hW => ?_⟩
            go_simp; (try with_reducible rfl)
          · simp only [List.setIfInBounds_toArray, List.set_cons_succ, List.set_cons_zero]; exact rfl
          refine reg_take2 8 71 (v := ?_) (T' := ?_) (Later.refl _) (by kernel_rfl) (by kernel_rfl) (by kernel_rfl) (fun _ _ _ h => h) (fun o ho => ?_) ?_ ?_
          rotate_left 2
          · cases ho
            refine ⟨rfl, rfl, fun W hW => ?_⟩
            go_simp; (try with_reducible rfl)
          · simp only [List.setIfInBounds_toArray, List.set_cons_succ, List.set_cons_zero]; exact rfl
          refine reg_take2 9 72 (v := ?_) (T' := ?_) (Later.refl _) (by kernel_rfl) (by kernel_rfl) (by kernel_rfl) (fun _ _ _ h => h) (fun o ho => ?_) ?_ ?_
          rotate_left 2
          · cases ho
            refine ⟨rfl, rfl, fun W hW => ?_⟩
            go_simp; (try with_reducible rfl)
          · simp only [List.setIfInBounds_toArray, List.set_cons_succ, List.set_cons_zero]; exact rfl
          refine reg_take2 10 73 (v := ?_) (T' := ?_) (Later.refl _) (by kernel_rfl) (by kernel_rfl) (by kernel_rfl) (fun _ _ _ h => h) (fun o ho => ?_) ?_ ?_
          rotate_left 2
          · cases ho
            refine ⟨rfl, rfl, fun W hW => ?_⟩
            go_simp; (try with_reducible rfl)
          · simp only [List.setIfInBounds_toArray, List.set_cons_succ, List.set_cons_zero]; exact rfl
          refine reg_take2 11 74 (v := ?_) (T' := ?_) (Later.refl _) (by kernel_rfl) (by kernel_rfl) (by kernel_rfl) (fun _ _ _ h => h) (fun o ho => ?_) ?_ ?_
          rotate_left 2
          · cases ho
            refine ⟨rfl, rfl, fun W hW => ?_⟩
            go_simp; (try with_reducible rfl)
          · simp only [List.setIfInBounds_toArray, List.set_cons_succ, List.set_cons_zero]; exact rfl
          refine reg_take2 12 75 (v := ?_) (T' := ?_) (Later.refl _) (by kernel_rfl) (by kernel_rfl) (by kernel_rfl) (fun _ _ _ h => h) (fun o ho => ?_) ?_ ?_
          rotate_left 2
          · cases ho
            refine ⟨rfl, rfl, fun W hW => ?_⟩
            go_simp; (try with_reducible rfl)
          · simp only [List.setIfInBounds_toArray, List.set_cons_succ, List.set_cons_zero]; exact rfl
          refine reg_take2 13 76 (v := ?_) (T' := ?_) (Later.refl _) (by kernel_rfl) (by kernel_rfl) (by kernel_rfl) (fun _ _ _ h => h) (fun o ho => ?_) ?_ ?_
          rotate_left 2
          · cases ho
            refine ⟨rfl, rfl, fun W hW => ?_⟩
            go_simp; (try with_reducible rfl)
          · simp only [List.setIfInBounds_toArray, List.set_cons_succ, List.set_cons_zero]; exact rfl
          refine reg_take2 14 77 (v := ?_) (T' := ?_) (Later.refl _) (by kernel_rfl) (by kernel_rfl) (by kernel_rfl) (fun _ _ _ h => h) (fun o ho => ?_) ?_ ?_
          rotate_left 2
          · cases ho
            refine ⟨rfl, rfl, fun W hW => ?_⟩
            go_simp; (try with_reducible rfl)
          · simp only [List.setIfInBounds_toArray, List.set_cons_succ, List.set_cons_zero]; exact rfl
          refine reg_take2 15 78 (v := ?_) (T' := ?_) (Later.refl _) (by kernel_rfl) (by kernel_rfl) (by kernel_rfl) (fun _ _ _ h => h) (fun o ho => ?_) ?_ ?_
          rotate_left 2
          · cases ho
            refine ⟨rfl, rfl, fun W hW => ?_⟩
            go_simp; (try with_reducible rfl)
          · simp only [List.setIfInBounds_toArray, List.set_cons_succ, List.set_cons_zero]; exact rfl
          refine reg_take2 16 79 (v := ?_) (T' := ?_) (Later.refl _) (by kernel_rfl) (by kernel_rfl) (by kernel_rfl) (fun _ _ _ h => h) (fun o ho => ?_) ?_ ?_
          rotate_left 2
          · cases ho
            refine ⟨rfl, rfl, fun W hW => ?_⟩
            go_simp; (try with_reducible rfl)
          · simp only [List.setIfInBounds_toArray, List.set_cons_succ, List.set_cons_zero]; exact rfl
          refine reg_take2 17 80 (v := ?_) (T' := ?_) (Later.refl _) (by kernel_rfl) (by kernel_rfl) (by kernel_rfl) (fun _ _ _ h => h) (fun o ho => ?_) ?_ ?_
          rotate_left 2
          · cases ho
            refine ⟨rfl, rfl, fun W hW => ?_⟩
            go_simp; (try with_reducible rfl)
          · simp only [List.setIfInBounds_toArray, List.set_cons_succ, List.set_cons_zero]; exact rfl
          refine reg_call2 18 81 (Later.refl _) (by kernel_rfl) 15 #[] (fun o ho => by cases ho; exact ⟨rfl, rfl, fun W => by go_simp⟩) ?_
          refine (lives_any _).mono ?_
          rintro z x8 ⟨rfl, hb8⟩
          have G := Lib.hid (G.out.trans (hb8.mono G.out.size))
          refine ⟨.bool true, _, rfl, hb8, (by simp only [List.setIfInBounds_toArray, List.set_cons_succ, List.set_cons_zero]; exact rfl), ?_⟩
          clear hb8
          refine reg_take2 19 82 (v := ?_) (T' := ?_) (Later.refl _) (by kernel_rfl) (by kernel_rfl) (by kernel_rfl) (fun _ _ _ h => h) (fun o ho => ?_) ?_ ?_
          rotate_left 2
          · cases ho
            refine ⟨rfl, rfl, fun W hW => ?_⟩
            go_simp; (try with_reducible rfl)
          · simp only [List.setIfInBounds_toArray, List.set_cons_succ, List.set_cons_zero]; exact rfl
          refine reg_take2 20 2 (v := ?_) (T' := ?_) (Later.refl _) (by kernel_rfl) (by kernel_rfl) (by kernel_rfl) (fun _ _ _ h => h) (fun o ho => ?_) ?_ ?_
          rotate_left 2
          · cases ho
            refine ⟨rfl, rfl, fun W hW => ?_⟩
            go_simp; (try with_reducible rfl)
          · simp only [List.setIfInBounds_toArray, List.set_cons_succ, List.set_cons_zero]; exact rfl
          refine reg_done (by kernel_rfl) ?_
          go_wp2_with fail
          go_ret
          exact ⟨rfl, G.out⟩
-- END
set_option maxRecDepth 100000 in
theorem lifted (os : Os) (started : os.Started) (H : Type) (enc : TypeId × Value → H) :
    ReturnsInHanded {} Try.checked os 5 .any (Rows.rowListsSpec.pre6 enc Try.prog Try.f5 Rows.rowListsRow.domain false) (Rows.rowListsSpec.post enc Try.prog Try.f5 false true false false) := by
  refine returnsInHanded_of_change (C := Try.checked) Try.own started (by kernel_rfl) Try.func5
    (ChangeSpec.witness6 (enc := enc) (C := Try.checked) false ⟨#[], #[.slice none 0 0], []⟩ 8 (by kernel_rfl) (by kernel_rfl) (by kernel_rfl) (by kernel_rfl)) ?_
  intro W base args ds gs before hval0 hW _ _
  have hval : ∀ (j : Nat) t v, Try.f5.params[j]? = some t → args[j]? = some v → Value.okWide Try.prog W .any base t v := hval0
  have hW' := hW
  obtain ⟨p, q, hA0, hV, rfl, _, _⟩ := hW
  have hA : DataW.TrodAll enc Try.prog W 0 (fun _ => true) true Try.f5.params.toList args.toList ds p := hA0
  rw [Try.params5] at hA hval
  obtain ⟨v0, d0, rfl, rfl, h0⟩ := trodAll_one hA
  obtain ⟨rfl, rfl⟩ := trodVars_none hV
  have hlt : ∀ x ∈ p, x.block < W.heap.size := fun x hx => by simpa using hW'.lt x (by simpa using hx)
  obtain ⟨a0, r0, b0⟩ := open_vers (hval 0 _ v0 rfl rfl) h0 (fun x hx => by simpa using hlt x (by simp [hx]))
  refine (walk v0 a0 _ r0).mono fun e W' ⟨he, hb⟩ => ⟨_, he, ?_⟩
  exact law_post Try.laidOut (by decide +kernel) rfl Try.underlying4 rfl hW' rfl hb

theorem holds : Rows.RowListsSaid :=
  OpenClaim.holds_of_wide 5 Try.f5 rfl rfl rfl rfl rfl rfl rfl ⟨rfl, rfl, rfl, rfl, rfl⟩ rfl rfl rfl rfl rfl (by kernel_rfl) Try.func5 (by kernel_rfl)
    (of_decide_eq_true (by kernel_rfl)) (by unfold Func.isWrapper; first | (rw [if_pos (by decide +kernel)]; kernel_rfl) | (rw [if_neg (by decide +kernel)]; exact ⟨rfl, rfl⟩))
    (fun os started H enc _ => lifted os started H enc)
end Go.Proofs.Ytmchiebpijnpiaa.L03
