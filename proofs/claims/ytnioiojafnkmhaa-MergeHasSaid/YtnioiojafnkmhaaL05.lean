/- MergeHas: what is merged is sorted, and has just the things that the lists have: any lists (the first 5, the first 12 of each, sorted), any one of them. No conditions. -/
import Derived.Test.YtnioiojafnkmhaaNk
import Derived.Test.YtnioiojafnkmhaaMo
import Derived.Test.YtnioiojafnkmhaaMb
import Derived.ChangeMaps5
namespace Go.Proofs.Ytnioiojafnkmhaa.L05
open Go.RowKit Go.ChangeShapes Go.WideShapes Go.ChangeAt
set_option linter.unusedVariables false

theorem lists_asc (ls : List (List Ver)) : ∀ l ∈ listsV ls, Asc lessV l := fun l hl => by
  obtain ⟨m, -, rfl⟩ := List.mem_map.1 hl
  exact sortR_asc ver_ahead _
theorem lists_len (ls : List (List Ver)) : ∀ l ∈ listsV ls, l.length ≤ 12 := fun l hl => by
  obtain ⟨m, -, rfl⟩ := List.mem_map.1 hl
  exact listV_len m
theorem lists_flat (ls : List (List Ver)) : (listsV (ls.take 5)).flatten.length ≤ 60 := by
  have key : ∀ L : List (List Ver), (∀ l ∈ L, l.length ≤ 12) → L.flatten.length ≤ L.length * 12 := by
    intro L
    induction L with
    | nil => intro _; simp
    | cons a L ih =>
      intro h
      rw [List.flatten_cons, List.length_append, List.length_cons]
      have h1 := h a List.mem_cons_self
      have h2 := ih fun l hl => h l (List.mem_cons_of_mem _ hl)
      omega
  have h1 := key _ (lists_len (ls.take 5))
  have h2 : (listsV (ls.take 5)).length ≤ 5 := by simp only [listsV, List.length_map, List.length_take]; omega
  omega
theorem asc_at {l : List Ver} (h : Asc lessV l) (j : Nat) (h1 : j - 1 < l.length) (h2 : j < l.length) (h0 : 0 < j) : ¬ 0 < cmpV l[j - 1] l[j] := by
  have := List.pairwise_iff_getElem.1 h (j - 1) j h1 h2 (by omega)
  rw [lessV_iff, decide_eq_false_iff_not] at this
  have h3 := ver_tells.anti l[j - 1] l[j]
  omega

set_option maxHeartbeats 8000000 in
set_option maxRecDepth 100000 in
theorem walk0 (KN : NumK) (KA : AllK) (v : Value) (ls : List (List Ver)) (i k : Int) (w : World) (h : RdXX verL w w.heap.size v ls) :
    Calls Try.prog 7 #[v, .int .i64 i, .int .i64 k] w fun e w' => e = .returned (.bool true) ∧ Below w.heap.size w w' := by
  have R := Lib.hid h
  have LV := Lib.hid (law10_lives KN)
  have KA := Lib.hid KA
  clear KN
  have FLN := Lib.hid (lists_flat ls)
  have ASC := Lib.hid (lists_asc (ls.take 5))
  have LEN := Lib.hid (lists_len (ls.take 5))
  have hl5 : (listsV (ls.take 5)).length ≤ 5 := by simp only [listsV, List.length_map, List.length_take]; omega
  have HL := Lib.hid (law10_lists v ls w h)
  obtain ⟨A, ca, rfl, -⟩ := h.form
  clear h
  generalize listsV (ls.take 5) = LS at *
  go_enter Try.func7, Try.ntmps7
  go_wp2_with fail
  refine HL.out.mono ?_
  rintro z w1 ⟨v1, rfl, ho1, hb1⟩
  have O1 := Lib.hid ho1
  have G := Lib.hid hb1
  obtain ⟨A1, c1, e1, hc1a, hc1b⟩ := ho1.rd.form
  subst e1
  clear ho1 hb1 HL
  go_wp2_with fail
  refine (KA.out _ LS _ O1.out.rd ASC.out (Nat.le_trans FLN.out (by decide))).mono ?_
  rintro z w2 ⟨v2, rfl, ho2, hb2⟩
  have O1 := Lib.hid (O1.out.on hb2)
  have O2 := Lib.hid ho2
  have G := Lib.hid (G.out.trans (hb2.mono G.out.size))
  obtain ⟨A2, c2, e2, hc2a, hc2b, -⟩ := ho2.rd
  subst e2
  clear ho2 hb2
  have XA := Lib.hid (sortR_asc ver_ahead LS.flatten)
  have XP := Lib.hid (sortR_perm (lt := lessV) LS.flatten)
  have XL := Lib.hid (sortR_len (lt := lessV) LS.flatten)
  generalize sortR lessV LS.flatten = X at *
  have hX60 : X.length ≤ 60 := by rw [XL.out]; exact FLN.out
  go_wp2_with fail
  go_loopw [9, 10] (fun x q wr => ∃ j n : Nat, x = .int .i64 n ∧ q = .int .i64 j ∧ j ≤ LS.length ∧ n = (LS.take j).flatten.length ∧ wr = w2) (fun _ q _ => LS.length - (intOf q).toNat)
  case atStart => exact ⟨0, 0, rfl, rfl, Nat.zero_le _, rfl, rfl⟩
  case round =>
    obtain ⟨j, n, rfl, rfl, hj, hn, rfl⟩ := hrel
    by_cases hjl : j < LS.length
    · have zl : decide ((j : Int) < (LS.length : Int)) = true := by simp; omega
      obtain ⟨b, o, a1, m1, e1, hbb, c0, r1⟩ := RdXX.at O1.out.rd j hjl
      subst e1
      have hfl := flat_len LS j hjl
      have hft := congrArg List.length (flat_take LS j hjl)
      rw [List.length_append] at hft
      have HF := Lib.hid hft
      have HN := Lib.hid hn
      have hnb : (n : Int) ≤ 60 := by have := FLN.out; omega
      have hmb : ((LS[j]).length : Int) ≤ 60 := by have := FLN.out; omega
      clear hfl hft hn r1
      go_wp2_with fail
      go_roundw
      case rel => exact ⟨j + 1, n + LS[j].length, by go_num, by go_num, by omega, by rw [HF.out, HN.out], trivial⟩
      case measure => simp [intOf]; omega
    · have zl : decide ((j : Int) < (LS.length : Int)) = false := by rw [decide_eq_false_iff_not]; omega
      have hjn : n = X.length := by rw [hn, XL.out, show j = LS.length from by omega, List.take_length]
      subst hjn
      clear hn
      have O1 := Lib.hid O1.out
      go_wp2_with fail
      go_loopw [11] (fun q wr => ∃ j : Nat, q = .int .i64 j ∧ 1 ≤ j ∧ j ≤ X.length + 1 ∧ OwnXX verL 24 33 wr w.heap.size (.slice A1 LS.length c1) LS ∧ (∃ base, OwnVr wr base (.slice A2 X.length c2) X) ∧ Below w.heap.size w wr) (fun q _ => X.length + 1 - (intOf q).toNat)
      case atStart => exact ⟨1, rfl, by omega, by omega, O1.out, ⟨_, O2.out⟩, G.out⟩
      case round =>
        obtain ⟨j, rfl, hj1x, hj, ho1, ⟨base, ho2⟩, hbw⟩ := hrel
        rename World => wo
        have O1 := Lib.hid ho1
        have O2 := Lib.hid ho2
        have G := Lib.hid hbw
        clear ho1 ho2 hbw
        by_cases hjl : j < X.length
        · have zl : decide ((j : Int) < (X.length : Int)) = true := by simp; omega
          have hj1 : j - 1 < X.length := by omega
          have hsub : (j : Int) - 1 = ((j - 1 : Nat) : Int) := by omega
          have hw64 : IntKind.i64.wrap ((j - 1 : Nat) : Int) = ((j - 1 : Nat) : Int) := by rw [IntKind.wrap_i64]; omega
          have hi1 : ((j - 1 : Nat) : Int) < (X.length : Int) := by omega
          have hi0 : (j : Int) < (X.length : Int) := by omega
          have hng := asc_at XA.out j hj1 hjl (by omega)
          obtain ⟨b, o, e2, -⟩ := RdVr.here O2.out.rd j hjl
          subst e2
          obtain ⟨p, hp⟩ : ∃ p, X[j - 1] = p := ⟨_, rfl⟩
          obtain ⟨q, hq⟩ : ∃ q, X[j] = q := ⟨_, rfl⟩
          have CMP := Lib.hid (fun w => row_compare X[j - 1] X[j] w)
          rw [hp, hq] at hng CMP
          generalize cmpV p q = cv at *
          have zg : decide (0 < cv) = false := by rw [decide_eq_false_iff_not]; exact hng
          obtain ⟨kk, bb, ee, ss, ⟨xx, yy⟩, uu, gg⟩ := p
          obtain ⟨kk', bb', ee', ss', ⟨xx', yy'⟩, uu', gg'⟩ := q
          have PP := Lib.hid hp
          have QQ := Lib.hid hq
          unfold verV at CMP
          simp only at CMP
          clear hp hq hng
          go_wp2_with fail
          refine reg_start (by kernel_rfl) ?_
          refine reg_take2 0 41 (v := ?_) (T' := ?_) (Later.refl _) (by kernel_rfl) (by kernel_rfl) (by kernel_rfl) (fun _ _ _ h => h) (fun o ho => ?_) ?_ ?_
          rotate_left 2
          · cases ho
            refine ⟨rfl, rfl, fun W hW => ?_⟩
            go_simp; (try with_reducible rfl)
          · simp only [List.setIfInBounds_toArray, List.set_cons_succ, List.set_cons_zero]; exact rfl
          refine reg_take2 1 42 (v := ?_) (T' := ?_) (Later.refl _) (by kernel_rfl) (by kernel_rfl) (by kernel_rfl) (fun _ _ _ h => h) (fun o ho => ?_) ?_ ?_
          rotate_left 2
          · cases ho
            refine ⟨rfl, rfl, fun W hW => ?_⟩
            go_simp; (try with_reducible rfl)
          · simp only [List.setIfInBounds_toArray, List.set_cons_succ, List.set_cons_zero]; exact rfl
          refine reg_take2 2 43 (v := ?_) (T' := ?_) (Later.refl _) (by kernel_rfl) (by kernel_rfl) (by kernel_rfl) (fun _ _ _ h => h) (fun o ho => ?_) ?_ ?_
          rotate_left 2
          · cases ho
            refine ⟨rfl, rfl, fun W hW => ?_⟩
            go_simp; (try with_reducible rfl)
          · simp only [List.setIfInBounds_toArray, List.set_cons_succ, List.set_cons_zero]; exact rfl
          refine reg_take2 3 44 (v := ?_) (T' := ?_) (Later.refl _) (by kernel_rfl) (by kernel_rfl) (by kernel_rfl) (fun _ _ _ h => h) (fun o ho => ?_) ?_ ?_
          rotate_left 2
          · cases ho
            refine ⟨rfl, rfl, fun W hW => ?_⟩
            go_simp; (try with_reducible rfl)
          · simp only [List.setIfInBounds_toArray, List.set_cons_succ, List.set_cons_zero]; exact rfl
          refine reg_take2 4 45 (v := ?_) (T' := ?_) (Later.refl _) (by kernel_rfl) (by kernel_rfl) (by kernel_rfl) (fun _ _ _ h => h) (fun o ho => ?_) ?_ ?_
          rotate_left 2
          · cases ho
            refine ⟨rfl, rfl, fun W hW => ?_⟩
            obtain ⟨-, d0, d1, d2, d3, d4, d5, d6, d7⟩ := RdVr.cells1 (RdX.on O2.out.rd ((Below.refl _ wo).drew.trans hW)) (j - 1) hj1 PP.out
            go_simp; (try with_reducible rfl)
          · simp only [List.setIfInBounds_toArray, List.set_cons_succ, List.set_cons_zero]; exact rfl
          refine reg_take2 5 46 (v := ?_) (T' := ?_) (Later.refl _) (by kernel_rfl) (by kernel_rfl) (by kernel_rfl) (fun _ _ _ h => h) (fun o ho => ?_) ?_ ?_
          rotate_left 2
          · cases ho
            refine ⟨rfl, rfl, fun W hW => ?_⟩
            go_simp; (try with_reducible rfl)
          · simp only [List.setIfInBounds_toArray, List.set_cons_succ, List.set_cons_zero]; exact rfl
          refine reg_take2 6 47 (v := ?_) (T' := ?_) (Later.refl _) (by kernel_rfl) (by kernel_rfl) (by kernel_rfl) (fun _ _ _ h => h) (fun o ho => ?_) ?_ ?_
          rotate_left 2
          · cases ho
            refine ⟨rfl, rfl, fun W hW => ?_⟩
            go_simp; (try with_reducible rfl)
          · simp only [List.setIfInBounds_toArray, List.set_cons_succ, List.set_cons_zero]; exact rfl
          refine reg_take2 7 48 (v := ?_) (T' := ?_) (Later.refl _) (by kernel_rfl) (by kernel_rfl) (by kernel_rfl) (fun _ _ _ h => h) (fun o ho => ?_) ?_ ?_
          rotate_left 2
          · cases ho
            refine ⟨rfl, rfl, fun W hW => ?_⟩
            go_simp; (try with_reducible rfl)
          · simp only [List.setIfInBounds_toArray, List.set_cons_succ, List.set_cons_zero]; exact rfl
          refine reg_take2 8 49 (v := ?_) (T' := ?_) (Later.refl _) (by kernel_rfl) (by kernel_rfl) (by kernel_rfl) (fun _ _ _ h => h) (fun o ho => ?_) ?_ ?_
          rotate_left 2
          · cases ho
            refine ⟨rfl, rfl, fun W hW => ?_⟩
            obtain ⟨-, d0, d1, d2, d3, d4, d5, d6, d7⟩ := RdVr.cells1 (RdX.on O2.out.rd ((Below.refl _ wo).drew.trans hW)) (j) hjl QQ.out
            go_simp; (try with_reducible rfl)
          · simp only [List.setIfInBounds_toArray, List.set_cons_succ, List.set_cons_zero]; exact rfl
          refine reg_call2 9 50 (Later.refl _) (by kernel_rfl) 13 #[.agg #[.string kk, .int .i64 bb, .int .i64 ee, .int .i64 ss, .int .i64 xx, .int .i64 yy, .string uu, .bool gg], .agg #[.string kk', .int .i64 bb', .int .i64 ee', .int .i64 ss', .int .i64 xx', .int .i64 yy', .string uu', .bool gg']] (fun o ho => by cases ho; exact ⟨rfl, rfl, fun W => by go_simp⟩) ?_
          refine (CMP.out _).mono ?_
          rintro e x1 ⟨rfl, hb1⟩
          have O2 := Lib.hid (O2.out.on ((Below.refl _ wo).drew.trans hb1))
          have O1 := Lib.hid (O1.out.on ((Below.refl _ wo).drew.trans hb1))
          have G := Lib.hid (G.out.trans (((Below.refl _ wo).drew.trans hb1).mono G.out.size))
          refine ⟨_, _, rfl, hb1, (by simp only [List.setIfInBounds_toArray, List.set_cons_succ, List.set_cons_zero]; exact rfl), ?_⟩
          clear hb1
          refine reg_take2 10 51 (v := ?_) (T' := ?_) (Later.refl _) (by kernel_rfl) (by kernel_rfl) (by kernel_rfl) (fun _ _ _ h => h) (fun o ho => ?_) ?_ ?_
          rotate_left 2
          · cases ho
            refine ⟨rfl, rfl, fun W hW => ?_⟩
            go_simp; (try with_reducible rfl)
          · simp only [List.setIfInBounds_toArray, List.set_cons_succ, List.set_cons_zero]; exact rfl
          refine reg_done (by kernel_rfl) ?_
          go_wp2_with fail
          go_roundw
          case rel => exact ⟨j + 1, by go_num, by omega, by omega, O1.out, ⟨_, O2.out⟩, G.out⟩
          case measure => simp [intOf]; omega
        · have zl : decide ((j : Int) < (X.length : Int)) = false := by rw [decide_eq_false_iff_not]; omega
          have zn : ((X.length : Int) != (X.length : Int)) = false := by simp
          have ze : ((X.length : Int) == (X.length : Int)) = true := by simp
          have zl2 : decide (j < X.length) = false := by rw [decide_eq_false_iff_not]; exact hjl
          clear hj1x hj hjl
          rcases Int.lt_or_le i 0 with hi | hi
          · have zi : decide (i < 0) = true := by rw [decide_eq_true_iff]; exact hi
            go_wp2_with fail
            refine (LV.out _).mono ?_
            rintro z w9 ⟨rfl, hb⟩
            have G := Lib.hid (G.out.trans (hb.mono G.out.size))
            clear hb
            go_wp2_with fail
            go_ret
            exact ⟨rfl, G.out⟩
          obtain ⟨ii, rfl⟩ : ∃ ii : Nat, i = (ii : Int) := ⟨i.toNat, by omega⟩
          have zi : decide ((ii : Int) < 0) = false := by rw [decide_eq_false_iff_not]; omega
          by_cases hil : LS.length ≤ ii
          · have zj : decide ((LS.length : Int) ≤ (ii : Int)) = true := by rw [decide_eq_true_iff]; omega
            have zj2 : decide (LS.length ≤ ii) = true := by rw [decide_eq_true_iff]; omega
            go_wp2_with fail
            refine (LV.out _).mono ?_
            rintro z w9 ⟨rfl, hb⟩
            have G := Lib.hid (G.out.trans (hb.mono G.out.size))
            clear hb
            go_wp2_with fail
            go_ret
            exact ⟨rfl, G.out⟩
          have zj : decide ((LS.length : Int) ≤ (ii : Int)) = false := by rw [decide_eq_false_iff_not]; omega
          have zj2 : decide (LS.length ≤ ii) = false := by rw [decide_eq_false_iff_not]; omega
          rcases Int.lt_or_le k 0 with hk | hk
          · have zk : decide (k < 0) = true := by rw [decide_eq_true_iff]; exact hk
            go_wp2_with fail
            refine (LV.out _).mono ?_
            rintro z w9 ⟨rfl, hb⟩
            have G := Lib.hid (G.out.trans (hb.mono G.out.size))
            clear hb
            go_wp2_with fail
            go_ret
            exact ⟨rfl, G.out⟩
          obtain ⟨ki, rfl⟩ : ∃ ki : Nat, k = (ki : Int) := ⟨k.toNat, by omega⟩
          have zk : decide ((ki : Int) < 0) = false := by rw [decide_eq_false_iff_not]; omega
          have hil' : ii < LS.length := by omega
          have hile : (ii : Int) < (LS.length : Int) := by omega
          obtain ⟨b, o, a1, m1, e1, hbb, c0, r1⟩ := RdXX.at O1.out.rd ii hil'
          subst e1
          have R1 := Lib.hid r1
          clear r1
          by_cases hkl : LS[ii].length ≤ ki
          · have zm : decide ((LS[ii].length : Int) ≤ (ki : Int)) = true := by rw [decide_eq_true_iff]; omega
            have zm2 : decide (LS[ii].length ≤ ki) = true := by rw [decide_eq_true_iff]; omega
            go_wp2_with fail
            refine (LV.out _).mono ?_
            rintro z w9 ⟨rfl, hb⟩
            have G := Lib.hid (G.out.trans (hb.mono G.out.size))
            clear hb
            go_wp2_with fail
            go_ret
            exact ⟨rfl, G.out⟩
          have zm : decide ((LS[ii].length : Int) ≤ (ki : Int)) = false := by rw [decide_eq_false_iff_not]; omega
          have zm2 : decide (LS[ii].length ≤ ki) = false := by rw [decide_eq_false_iff_not]; omega
          have hkl' : ki < LS[ii].length := by omega
          have hkle : (ki : Int) < (LS[ii].length : Int) := by omega
          obtain ⟨b1, o1, e1, hb1, d0, d1, d2, d3, d4, d5, d6, d7⟩ := RdVr.here R1.out ki hkl'
          subst e1
          generalize LS[ii][ki] = V at d0 d1 d2 d3 d4 d5 d6 d7
          have FL60 := Lib.hid (show LS.flatten.length ≤ 60 from FLN.out)
          have MP := Lib.hid (many_perm V XP.out)
          obtain ⟨kk, bb, ee, ss, ⟨xx, yy⟩, uu, gg⟩ := V
          simp only at d0 d1 d2 d3 d4 d5 d6 d7
          clear hil hi hkl hk
          go_wp2_with fail
          go_loopw [13, 15] (fun x q wr => ∃ j n : Nat, x = .int .i64 n ∧ q = .int .i64 j ∧ j ≤ X.length ∧ n = manyV ⟨kk, bb, ee, ss, (xx, yy), uu, gg⟩ (X.take j) ∧ Box wr wo.heap.size #[.string kk, .int .i64 bb, .int .i64 ee, .int .i64 ss, .int .i64 xx, .int .i64 yy, .string uu, .bool gg] 33 ∧ Below w.heap.size w wr ∧ Below wo.heap.size wo wr) (fun _ q _ => X.length - (intOf q).toNat)
          case atStart => exact ⟨0, 0, rfl, rfl, Nat.zero_le _, rfl, Box.new _ _ _ _ rfl, G.out.alloc G.out.size _, (Below.refl _ wo).alloc (Nat.le_refl _) _⟩
          case round =>
            obtain ⟨j, n, rfl, rfl, hj, hn, hbx, hbw, hbo⟩ := hrel
            rename World => wp
            have GP := Lib.hid hbw
            have GO := Lib.hid hbo
            have BX := Lib.hid hbx
            have NE := Lib.hid hn
            have e0 := hbx.cell 0 _ rfl
            have e1 := hbx.cell 1 _ rfl
            have e2 := hbx.cell 2 _ rfl
            have e3 := hbx.cell 3 _ rfl
            have e4 := hbx.cell 4 _ rfl
            have e5 := hbx.cell 5 _ rfl
            have e6 := hbx.cell 6 _ rfl
            have e7 := hbx.cell 7 _ rfl
            have hnb : (n : Int) ≤ 60 := by have h1 := many_le ⟨kk, bb, ee, ss, (xx, yy), uu, gg⟩ (X.take j); rw [← NE.out, List.length_take] at h1; omega
            clear hn hbw hbx hbo
            by_cases hjl : j < X.length
            · have zl : decide ((j : Int) < (X.length : Int)) = true := by simp; omega
              have hi0 : (j : Int) < (X.length : Int) := by omega
              obtain ⟨b9, o9, e9, hb9, f0, f1, f2, f3, f4, f5, f6, f7⟩ := RdVr.here (RdX.on O2.out.rd GO.out) j hjl
              subst e9
              have TS := Lib.hid (show X.take (j + 1) = X.take j ++ [X[j]] from List.take_succ_eq_append_getElem hjl)
              generalize X[j] = q at *
              by_cases hpq : q = ⟨kk, bb, ee, ss, (xx, yy), uu, gg⟩
              · subst hpq
                have heq := fun W => ver_eql_same W ⟨kk, bb, ee, ss, (xx, yy), uu, gg⟩
                unfold verV at heq
                simp only at heq f0 f1 f2 f3 f4 f5 f6 f7
                have NS := Lib.hid (many_same ⟨kk, bb, ee, ss, (xx, yy), uu, gg⟩ (X.take j) ⟨kk, bb, ee, ss, (xx, yy), uu, gg⟩ rfl)
                go_wp2_with fail
                go_quiet (fail)
                go_wp2_with fail
                go_roundw
                case rel => exact ⟨j + 1, n + 1, by go_num, by go_num, by omega, by rw [TS.out, NS.out, NE.out], BX.out, GP.out.drewN _, GO.out.drewN _⟩
                case measure => simp [intOf]; omega
              · have heq := fun W => ver_eql_diff W q ⟨kk, bb, ee, ss, (xx, yy), uu, gg⟩ hpq
                have NS := Lib.hid (many_diff ⟨kk, bb, ee, ss, (xx, yy), uu, gg⟩ (X.take j) q hpq)
                unfold verV at heq
                clear hpq
                go_wp2_with fail
                go_quiet (fail)
                go_wp2_with fail
                go_roundw
                case rel => exact ⟨j + 1, n, by go_num, by go_num, by omega, by rw [TS.out, NS.out, NE.out], BX.out, GP.out.drewN _, GO.out.drewN _⟩
                case measure => simp [intOf]; omega
            · have zl : decide ((j : Int) < (X.length : Int)) = false := by rw [decide_eq_false_iff_not]; omega
              have hnX : n = manyV ⟨kk, bb, ee, ss, (xx, yy), uu, gg⟩ LS.flatten := by rw [NE.out, show j = X.length from by omega, List.take_length, MP.out]
              have NX := Lib.hid hnX
              have zl2 : decide (j < X.length) = false := by rw [decide_eq_false_iff_not]; exact hjl
              clear hnX NE hj hjl
              go_wp2_with fail
              go_loopw [14, 16] (fun x q wr => ∃ j m : Nat, x = .int .i64 m ∧ q = .int .i64 j ∧ j ≤ LS.length ∧ m = manyV ⟨kk, bb, ee, ss, (xx, yy), uu, gg⟩ (LS.take j).flatten ∧ Box wr wo.heap.size #[.string kk, .int .i64 bb, .int .i64 ee, .int .i64 ss, .int .i64 xx, .int .i64 yy, .string uu, .bool gg] 33 ∧ Below w.heap.size w wr ∧ Below wo.heap.size wo wr) (fun _ q _ => LS.length - (intOf q).toNat)
              case atStart => exact ⟨0, 0, rfl, rfl, Nat.zero_le _, rfl, BX.out, GP.out, GO.out⟩
              case round =>
                obtain ⟨j, m, rfl, rfl, hj, hn, hbx, hbw, hbo⟩ := hrel
                rename World => wq
                have GP := Lib.hid hbw
                have GO := Lib.hid hbo
                have BX := Lib.hid hbx
                have NE := Lib.hid hn
                clear hn hbw hbx hbo
                by_cases hjl : j < LS.length
                · have zl : decide ((j : Int) < (LS.length : Int)) = true := by simp; omega
                  have FT := Lib.hid (flat_take LS j hjl)
                  have FN := Lib.hid (Nat.le_trans (flat_len LS j hjl) FL60.out)
                  go_wp2_with fail
                  go_loopw [14, 17] (fun x q wr => ∃ t m : Nat, x = .int .i64 m ∧ q = .int .i64 t ∧ t ≤ LS[j].length ∧ m = manyV ⟨kk, bb, ee, ss, (xx, yy), uu, gg⟩ ((LS.take j).flatten ++ LS[j].take t) ∧ Box wr wo.heap.size #[.string kk, .int .i64 bb, .int .i64 ee, .int .i64 ss, .int .i64 xx, .int .i64 yy, .string uu, .bool gg] 33 ∧ Below w.heap.size w wr ∧ Below wo.heap.size wo wr) (fun _ q _ => LS[j].length - (intOf q).toNat)
                  case atStart => exact ⟨0, m, rfl, rfl, Nat.zero_le _, by rw [List.take_zero, List.append_nil]; exact NE.out, BX.out, GP.out, GO.out⟩
                  case round =>
                    clear NE BX GP GO
                    obtain ⟨t, m, rfl, rfl, ht, hn, hbx, hbw, hbo⟩ := hrel
                    rename World => wt
                    have GP := Lib.hid hbw
                    have GO := Lib.hid hbo
                    have BX := Lib.hid hbx
                    have NE := Lib.hid hn
                    have e0 := hbx.cell 0 _ rfl
                    have e1 := hbx.cell 1 _ rfl
                    have e2 := hbx.cell 2 _ rfl
                    have e3 := hbx.cell 3 _ rfl
                    have e4 := hbx.cell 4 _ rfl
                    have e5 := hbx.cell 5 _ rfl
                    have e6 := hbx.cell 6 _ rfl
                    have e7 := hbx.cell 7 _ rfl
                    have hnb : (m : Int) ≤ 60 := by have h1 := many_le ⟨kk, bb, ee, ss, (xx, yy), uu, gg⟩ ((LS.take j).flatten ++ LS[j].take t); rw [← NE.out, List.length_append, List.length_take] at h1; have := FN.out; omega
                    have htb : (t : Int) ≤ 60 := by have := FN.out; omega
                    obtain ⟨b8, o8, a8, m8, e8, hb8, g0, r8⟩ := RdXX.at (RdXX.on O1.out.rd GO.out) j hjl
                    cases e8
                    have R8 := Lib.hid r8
                    clear hn hbw hbx hbo r8
                    by_cases htl : t < LS[j].length
                    · have zt : decide ((t : Int) < (LS[j].length : Int)) = true := by simp; omega
                      have hi0 : (t : Int) < (LS[j].length : Int) := by omega
                      have hi9 : (j : Int) < (LS.length : Int) := by omega
                      obtain ⟨b9, o9, e9, hb9, f0, f1, f2, f3, f4, f5, f6, f7⟩ := RdVr.here R8.out t htl
                      subst e9
                      have TS := Lib.hid (show (LS.take j).flatten ++ LS[j].take (t + 1) = ((LS.take j).flatten ++ LS[j].take t) ++ [LS[j][t]] from by rw [List.take_succ_eq_append_getElem htl, List.append_assoc])
                      generalize LS[j][t] = q at TS f0 f1 f2 f3 f4 f5 f6 f7
                      by_cases hpq : q = ⟨kk, bb, ee, ss, (xx, yy), uu, gg⟩
                      · subst hpq
                        have heq := fun W => ver_eql_same W ⟨kk, bb, ee, ss, (xx, yy), uu, gg⟩
                        unfold verV at heq
                        simp only at heq f0 f1 f2 f3 f4 f5 f6 f7
                        have NS := Lib.hid (many_same ⟨kk, bb, ee, ss, (xx, yy), uu, gg⟩ ((LS.take j).flatten ++ LS[j].take t) ⟨kk, bb, ee, ss, (xx, yy), uu, gg⟩ rfl)
                        go_wp2_with fail
                        go_quiet (fail)
                        go_wp2_with fail
                        go_roundw
                        case rel => exact ⟨t + 1, m + 1, by go_num, by go_num, by omega, by rw [TS.out, NS.out, NE.out], BX.out, GP.out.drewN _, GO.out.drewN _⟩
                        case measure => simp [intOf]; omega
                      · have heq := fun W => ver_eql_diff W q ⟨kk, bb, ee, ss, (xx, yy), uu, gg⟩ hpq
                        have NS := Lib.hid (many_diff ⟨kk, bb, ee, ss, (xx, yy), uu, gg⟩ ((LS.take j).flatten ++ LS[j].take t) q hpq)
                        unfold verV at heq
                        clear hpq
                        go_wp2_with fail
                        go_quiet (fail)
                        go_wp2_with fail
                        go_roundw
                        case rel => exact ⟨t + 1, m, by go_num, by go_num, by omega, by rw [TS.out, NS.out, NE.out], BX.out, GP.out.drewN _, GO.out.drewN _⟩
                        case measure => simp [intOf]; omega
                    · have zt : decide ((t : Int) < (LS[j].length : Int)) = false := by rw [decide_eq_false_iff_not]; omega
                      have NE := Lib.hid (show m = manyV ⟨kk, bb, ee, ss, (xx, yy), uu, gg⟩ (LS.take (j + 1)).flatten from by rw [NE.out, FT.out, show t = LS[j].length from by omega, List.take_length])
                      go_wp2_with fail
                      go_roundw
                      case rel => exact ⟨j + 1, m, by go_num, by go_num, by omega, NE.out, BX.out, GP.out, GO.out⟩
                      case measure => simp [intOf]; omega
                · have zl : decide ((j : Int) < (LS.length : Int)) = false := by rw [decide_eq_false_iff_not]; omega
                  have hnm : n = m := by rw [NX.out, NE.out, show j = LS.length from by omega, List.take_length]
                  subst hnm
                  have zz : ((n : Int) == (n : Int)) = true := by simp
                  go_wp2_with fail
                  refine (LV.out _).mono ?_
                  rintro z w9 ⟨rfl, hb⟩
                  have GP := Lib.hid (GP.out.trans (hb.mono GP.out.size))
                  clear hb
                  go_wp2_with fail
                  go_ret
                  exact ⟨rfl, GP.out⟩
-- END
set_option maxRecDepth 100000 in
theorem lifted (os : Os) (started : os.Started) (H : Type) (enc : TypeId × Value → H) :
    ReturnsInHanded {} Try.checked os 7 .any (Rows.mergeHasSpec.pre6 enc Try.prog Try.f7 Rows.mergeHasRow.domain false) (Rows.mergeHasSpec.post enc Try.prog Try.f7 false true false false) := by
  refine returnsInHanded_of_change (C := Try.checked) Try.own started (by kernel_rfl) Try.func7
    (ChangeSpec.witness6 (enc := enc) (C := Try.checked) false ⟨#[], #[.slice none 0 0, .int .i64 0, .int .i64 0], []⟩ 8 (by kernel_rfl) (by kernel_rfl) (by kernel_rfl) (by kernel_rfl)) ?_
  intro W base args ds gs before hval0 hW _ _
  have hval : ∀ (j : Nat) t v, Try.f7.params[j]? = some t → args[j]? = some v → Value.okWide Try.prog W .any base t v := hval0
  have hW' := hW
  obtain ⟨p, q, hA0, hV, rfl, _, _⟩ := hW
  have hA : DataW.TrodAll enc Try.prog W 0 (fun _ => true) true Try.f7.params.toList args.toList ds p := hA0
  rw [Try.params7] at hA hval
  obtain ⟨v0, v1, v2, d0, d1, d2, p0, p1, p2, rfl, rfl, rfl, h0, h1, h2⟩ := trodAll_three hA
  obtain ⟨rfl, rfl⟩ := trodVars_none hV
  have hlt := fun x hx => hW'.lt x hx
  obtain ⟨a0, r0, b0⟩ := open_vvs (hval 0 _ v0 rfl rfl) h0 (fun x hx => by simpa using hlt x (by simp [hx]))
  obtain ⟨a1, rfl, rfl, rfl, w1⟩ := open_int Try.underlying3 (hval 1 _ v1 rfl rfl) h1
  have w1 := wf_int w1
  obtain ⟨a2, rfl, rfl, rfl, w2⟩ := open_int Try.underlying3 (hval 2 _ v2 rfl rfl) h2
  have w2 := wf_int w2
  refine (walk0 num_k all_k v0 a0 a1 a2 _ r0).mono fun e W' ⟨he, hb⟩ => ⟨_, he, ?_⟩
  exact law_post Try.laidOut (by decide +kernel) rfl Try.underlying4 rfl hW' rfl hb

theorem holds : Rows.MergeHasSaid :=
  OpenClaim.holds_of_wide 7 Try.f7 rfl rfl rfl rfl rfl rfl rfl ⟨rfl, rfl, rfl, rfl, rfl⟩ rfl rfl rfl rfl rfl (by kernel_rfl) Try.func7 (by kernel_rfl)
    (of_decide_eq_true (by kernel_rfl)) (by unfold Func.isWrapper; first | (rw [if_pos (by decide +kernel)]; kernel_rfl) | (rw [if_neg (by decide +kernel)]; exact ⟨rfl, rfl⟩))
    (fun os started H enc _ => lifted os started H enc)
end Go.Proofs.Ytnioiojafnkmhaa.L05
