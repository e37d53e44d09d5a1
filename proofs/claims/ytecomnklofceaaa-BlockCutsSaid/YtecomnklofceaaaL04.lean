/- BlockCuts: pieces are of eight versions, but the last one, and are all of them, in their order: any versions (the first 40, few bytes). No conditions. -/
import Derived.Test.YtecomnklofceaaaUm
import Derived.Test.YtecomnklofceaaaRr
namespace Go.Proofs.Ytecomnklofceaaa.L04
open Go.RowKit Go.ChangeShapes Go.WideShapes Go.ChangeAt
set_option linter.unusedVariables false

theorem pcs8_get (l : List Ver) (k : Nat) (hk : k < (pcs8 l).length) : (pcs8 l)[k] = pc8 l k := by simp [pcs8]

set_option maxHeartbeats 4000000 in
set_option maxRecDepth 100000 in
theorem walk (v : Value) (l : List Ver) (w : World) (h : RdVr w w.heap.size v l) :
    Calls Try.prog 6 #[v] w fun e w' => e = .returned (.bool true) ∧ Below w.heap.size w w' := by
  have R := Lib.hid h
  obtain ⟨A, ca, rfl, hla, hca, -⟩ := h
  have T1 := Lib.hid ref6_cut
  go_enter Try.func6, Try.ntmps6
  go_wp2_with fail
  go_loopw [3, 4] (fun x i wr => ∃ k : Nat, i = .int .i64 k ∧ k ≤ l.length ∧ k ≤ 40 ∧ OwnVr wr w.heap.size x (cuts (l.take k)) ∧ Below w.heap.size w wr) (fun _ i _ => 40 - (intOf i).toNat)
  case atStart => exact ⟨0, rfl, Nat.zero_le _, by omega, OwnX.nil _ _, Below.refl _ _⟩
  case round =>
    obtain ⟨k, rfl, hk, hkN, ho, hb⟩ := hrel
    have O := Lib.hid ho
    have G := Lib.hid hb
    clear ho hb
    by_cases hlt : k < l.length ∧ k < 40
    · obtain ⟨hlt, hltN⟩ := hlt
      have z1 : decide ((k : Int) < (l.length : Int)) = true := by simp; omega
      have z2 : decide ((k : Int) < 40) = true := by simp; omega
      obtain ⟨ba, oa, rfl, hba, c0, c1, c2, c3, c4, c5, c6, c7⟩ := RdVr.here (R.out.below G.out) k hlt
      have FS := Lib.hid (cuts_snoc l k hlt)
      have TK := Lib.hid (T1.out l[k])
      have hlen := cuts_len l k
      generalize cutV l[k] = cv at *
      generalize l[k] = p at *
      generalize cuts (l.take k) = acc at *
      have hal1 := Lib.hid (show acc.length + 1 ≤ 1000000000 from by omega)
      clear hlen
      obtain ⟨k0, b0, e0, s0, ⟨x0, y0⟩, u0, g0⟩ := p
      obtain ⟨kk, b, e, s, ⟨x, y⟩, u, g⟩ := cv
      unfold verV at TK
      simp only at TK c0 c1 c2 c3 c4 c5 c6 c7
      go_wp2_with fail
      refine (TK.out _).mono ?_
      rintro z w1 ⟨rfl, hb⟩
      have hgz := G.out.size
      have O := Lib.hid (O.out.on hb)
      have G := Lib.hid (G.out.trans (hb.mono hgz))
      clear hb hgz c0 c1 c2 c3 c4 c5 c6 c7
      have hsz := Lib.hid G.out.size
      go_wp2_with (at_builtin; refine wpl_appX rfl (.tmp 20) (.tmp 26) rfl Try.underlying22 ver_info rfl w.heap.size _ acc [(⟨kk, b, e, s, (x, y), u, g⟩ : Ver)] _ _ _ rfl rfl rfl rfl O.out hsz.out hal1.out (by decide) ?_; intro v5 w5 ho5 hg5 hb5)
      have OZ := Lib.hid (show OwnVr w5 w.heap.size v5 (cuts (l.take (k + 1))) from by rw [FS.out]; exact ho5)
      have GZ := Lib.hid (G.out.trans hb5)
      clear ho5 hg5 hb5
      go_roundw
      case rel => exact ⟨k + 1, by go_num, by omega, by omega, OZ.out, GZ.out⟩
      case measure => simp [intOf]; omega
    · have hke : l.take k = l.take 40 := by
        by_cases h6 : k < 40
        · have hkl : k = l.length := by
            rcases Nat.lt_or_ge k l.length with h | h
            · exact absurd ⟨h, h6⟩ hlt
            · omega
          rw [List.take_of_length_le (by omega), List.take_of_length_le (by omega)]
        · rw [show k = 40 from by omega]
      have hz : (k < l.length ∧ k = 40) ∨ k = l.length := by
        rcases Nat.lt_or_ge k l.length with h | h
        · left; exact ⟨h, by rcases Nat.lt_or_ge k 40 with h2 | h2; exact absurd ⟨h, h2⟩ hlt; omega⟩
        · right; omega
      rw [hke] at O
      have HK := Lib.hid (cuts_key (l.take 40))
      have hlen := cuts_len l 40
      clear hke hlt
      generalize cuts (l.take 40) = L at *
      obtain ⟨A1, c1, e1, -⟩ := O.out.rd
      subst e1
      rcases hz with ⟨z0, hk0⟩ | hk0
      case' inl =>
        subst hk0
        have z1 : decide ((40 : Int) < (l.length : Int)) = true := by rw [decide_eq_true_iff]; omega
        clear hk hkN z0
      case' inr =>
        subst hk0
        clear hk hkN
      all_goals
        have CU := Lib.hid (fun va w ha => blk_cut va L w ha (by omega))
        have hcnt : (pcs8 L).length = (L.length + 7) / 8 := by unfold pcs8; rw [List.length_map, List.length_range]
        have HG := Lib.hid (show ∀ k (hk : k < (pcs8 L).length), (pcs8 L)[k] = pc8 L k from fun k hk => pcs8_get L k hk)
        have HPL := Lib.hid (fun k => pc8_len L k)
        have HSL := Lib.hid (show ∀ a k m : Nat, a = 8 * k → m = min 8 (L.length - 8 * k) → (L.drop a).take m = pc8 L k from fun a k m h1 h2 => by
          subst h1 h2
          unfold pc8
          rcases Nat.le_total 8 (L.length - 8 * k) with h | h
          · rw [Nat.min_eq_left h]
          · rw [Nat.min_eq_right h, List.take_of_length_le (by rw [List.length_drop]; exact Nat.le_refl _), List.take_of_length_le (by rw [List.length_drop]; omega)])
        go_wp2_with fail
        refine (CU.out _ _ O.out.rd).mono ?_
        rintro z w2 ⟨v2, rfl, ho2, hb⟩
        have O := Lib.hid (O.out.on hb)
        have G := Lib.hid (G.out.trans (hb.mono G.out.size))
        have NV := Lib.hid ho2
        obtain ⟨AV, cV, eV⟩ := ho2.form
        subst eV
        clear hb ho2 CU
        generalize pcs8 L = ps at *
        have HLN := Lib.hid hcnt
        clear hcnt
        go_wp2_with fail
        go_loopw [6, 7] (fun x i wr => ∃ k a : Nat, i = .int .i64 k ∧ k ≤ ps.length ∧ x = .int .i64 a ∧ a = min (8 * k) L.length ∧ Below w2.heap.size w2 wr) (fun _ i _ => ps.length - (intOf i).toNat)
        case atStart => exact ⟨0, 0, rfl, Nat.zero_le _, rfl, by omega, Below.refl _ _⟩
        case round =>
          obtain ⟨k, a, rfl, hk, rfl, ha, hb⟩ := hrel
          have GW := Lib.hid hb
          clear hb
          have hcn := HLN.out
          by_cases hlt : k < ps.length
          · have zl : decide ((k : Int) < (ps.length : Int)) = true := by simp; omega
            have ha8 : a = 8 * k := by omega
            obtain ⟨g, cg, eg, hgl, hat⟩ := NV.out.here (by have := HLN.out; omega)
            obtain ⟨u, hu, hou⟩ := hat k (by have := HLN.out; omega)
            rw [HG.out] at hou
            injection eg with eg _ eg3
            have hpl := HPL.out k
            obtain ⟨mm, hmm⟩ : ∃ m, m = (pc8 L k).length := ⟨_, rfl⟩
            have hrs0 := HSL.out a k mm ha8 (by omega)
            obtain ⟨As, cs, hsl, hrs⟩ := slX_mid (O.out.rd.on GW.out) Try.underlying22 ver_size a mm (a : Int) ((a : Int) + (mm : Int)) rfl (by omega) (by omega) (by omega)
            rw [hrs0] at hrs
            have RS := Lib.hid hrs
            have RU := Lib.hid (OwnX.rd (OwnX.on hou GW.out))
            obtain ⟨Au, cu, eu, -⟩ := RU.out
            rw [← hmm] at eu
            subst eu eg eg3
            have hgw := Lib.hid (show g < wr.heap.size from Nat.lt_of_lt_of_le hgl GW.out.size)
            have CU1 := Lib.hid ((GW.out.cell (p := ⟨g, k, none⟩) hgl).trans hu)
            have HA2 := Lib.hid (show a + mm = min (8 * (k + 1)) L.length from by omega)
            have z1 : decide ((mm : Int) < 1) = false := by rw [decide_eq_false_iff_not]; omega
            have z2 : decide ((8 : Int) < (mm : Int)) = false := by rw [decide_eq_false_iff_not]; omega
            have z3 : decide ((L.length : Int) < (a : Int) + (mm : Int)) = false := by rw [decide_eq_false_iff_not]; omega
            have hwa : IntKind.i64.wrap ((a : Int) + (mm : Int)) = (a : Int) + (mm : Int) := by rw [IntKind.wrap_i64]; omega
            have hwc : IntKind.i64.wrap ((ps.length : Int) - 1) = (ps.length : Int) - 1 := by rw [IntKind.wrap_i64]; omega
            have cc := CU1.out
            have hkc : k + 1 = ps.length ∨ (k + 1 < ps.length ∧ mm = 8) := by omega
            have HLT := Lib.hid hlt
            have hkb : (k : Int) ≤ 40 := by omega
            have hkw : IntKind.i64.wrap ((k : Int) + 1) = (k : Int) + 1 := by rw [IntKind.wrap_i64]; omega
            have hsum : (a : Int) + (mm : Int) = ((a + mm : Nat) : Int) := by omega
            have HSUM := Lib.hid hsum
            clear hsum hmm hrs0 hrs hou hat hu hpl ha ha8 hgl hcn
            rcases hkc with hkc | ⟨hkc, hm8⟩
            case' inl =>
              have z4 : decide ((k : Int) < (ps.length : Int) - 1) = false := by rw [decide_eq_false_iff_not]; omega
              clear hkc
            case' inr =>
              have z4 : decide ((k : Int) < (ps.length : Int) - 1) = true := by simp; omega
              have z5 : ((mm : Int) != 8) = false := by simp [bne, hm8]
              clear hm8 hkc
            all_goals
              go_wp2_with fail
              clear cc
              refine reg_start (by kernel_rfl) ?_
              refine reg_take2 0 66 (v := ?_) (T' := ?_) (Later.refl _) (by kernel_rfl) (by kernel_rfl) (by kernel_rfl) (fun _ _ _ h => h) (fun o ho => ?_) ?_ ?_
              rotate_left 2
              · cases ho
                refine ⟨rfl, rfl, fun W hW => ?_⟩
                go_simp; (try with_reducible rfl)
              · simp only [List.setIfInBounds_toArray, List.set_cons_succ, List.set_cons_zero]; exact rfl
              refine reg_take2 1 67 (v := ?_) (T' := ?_) (Later.refl _) (by kernel_rfl) (by kernel_rfl) (by kernel_rfl) (fun _ _ _ h => h) (fun o ho => ?_) ?_ ?_
              rotate_left 2
              · cases ho
                refine ⟨rfl, rfl, fun W hW => ?_⟩
                go_simp; (try with_reducible rfl)
              · simp only [List.setIfInBounds_toArray, List.set_cons_succ, List.set_cons_zero]; exact rfl
              refine reg_take2 2 68 (v := ?_) (T' := ?_) (Later.refl _) (by kernel_rfl) (by kernel_rfl) (by kernel_rfl) (fun _ _ _ h => h) (fun o ho => ?_) ?_ ?_
              rotate_left 2
              · cases ho
                refine ⟨rfl, rfl, fun W hW => ?_⟩
                go_simp; (try with_reducible rfl)
              · simp only [List.setIfInBounds_toArray, List.set_cons_succ, List.set_cons_zero]; exact rfl
              refine reg_take2 3 69 (v := ?_) (T' := ?_) (Later.refl _) (by kernel_rfl) (by kernel_rfl) (by kernel_rfl) (fun _ _ _ h => h) (fun o ho => ?_) ?_ ?_
              rotate_left 2
              · cases ho
                refine ⟨rfl, rfl, fun W hW => ?_⟩
                have hV := (Below.cell (p := ⟨g, k, none⟩) (show Below wr.heap.size wr W from ((Below.refl _ wr).drewN 1).trans hW) hgw.out).trans CU1.out
                go_simp; (try with_reducible rfl)
              · simp only [List.setIfInBounds_toArray, List.set_cons_succ, List.set_cons_zero]; exact rfl
              refine reg_take2 4 70 (v := ?_) (T' := ?_) (Later.refl _) (by kernel_rfl) (by kernel_rfl) (by kernel_rfl) (fun _ _ _ h => h) (fun o ho => ?_) ?_ ?_
              rotate_left 2
              · cases ho
                refine ⟨rfl, rfl, fun W hW => ?_⟩
                go_simp; (try with_reducible rfl)
              · simp only [List.setIfInBounds_toArray, List.set_cons_succ, List.set_cons_zero]; exact rfl
              refine reg_take2 5 71 (v := ?_) (T' := ?_) (Later.refl _) (by kernel_rfl) (by kernel_rfl) (by kernel_rfl) (fun _ _ _ h => h) (fun o ho => ?_) ?_ ?_
              rotate_left 2
              · cases ho
                refine ⟨rfl, rfl, fun W hW => ?_⟩
                go_simp; (try with_reducible rfl)
              · simp only [List.setIfInBounds_toArray, List.set_cons_succ, List.set_cons_zero]; exact rfl
              refine reg_take2 6 72 (v := ?_) (T' := ?_) (Later.refl _) (by kernel_rfl) (by kernel_rfl) (by kernel_rfl) (fun _ _ _ h => h) (fun o ho => ?_) ?_ ?_
              rotate_left 2
              · cases ho
                refine ⟨rfl, rfl, fun W hW => ?_⟩
                go_simp; (try with_reducible rfl)
              · simp only [List.setIfInBounds_toArray, List.set_cons_succ, List.set_cons_zero]; exact rfl
              refine reg_take2 7 73 (v := ?_) (T' := ?_) (Later.refl _) (by kernel_rfl) (by kernel_rfl) (by kernel_rfl) (fun _ _ _ h => h) (fun o ho => ?_) ?_ ?_
              rotate_left 2
              · cases ho
                refine ⟨rfl, rfl, fun W hW => ?_⟩
                go_simp; (try with_reducible rfl)
              · simp only [List.setIfInBounds_toArray, List.set_cons_succ, List.set_cons_zero]; exact rfl
              refine reg_take2 8 74 (v := ?_) (T' := ?_) (Later.refl _) (by kernel_rfl) (by kernel_rfl) (by kernel_rfl) (fun _ _ _ h => h) (fun o ho => ?_) ?_ ?_
              rotate_left 2
              · cases ho
                refine ⟨rfl, rfl, fun W hW => ?_⟩
                go_simp; (try with_reducible rfl)
              · simp only [List.setIfInBounds_toArray, List.set_cons_succ, List.set_cons_zero]; exact rfl
              refine reg_take2 9 75 (v := ?_) (T' := ?_) (Later.refl _) (by kernel_rfl) (by kernel_rfl) (by kernel_rfl) (fun _ _ _ h => h) (fun o ho => ?_) ?_ ?_
              rotate_left 2
              · cases ho
                refine ⟨rfl, rfl, fun W hW => ?_⟩
                go_simp; (try with_reducible rfl)
              · simp only [List.setIfInBounds_toArray, List.set_cons_succ, List.set_cons_zero]; exact rfl
              refine reg_call2 10 76 (Later.refl _) (by kernel_rfl) 13 #[.slice Au mm cu, .slice As mm cs] (fun o ho => by cases ho; exact ⟨rfl, rfl, fun W => by go_simp⟩) ?_
              refine (ref6_same _ _ (pc8 L k) (pc8 L k) _ (show RdVr wr.drew wr.drew.heap.size _ _ from RU.out.on ((Below.refl _ wr).drewN 1)) (show RdVr wr.drew wr.drew.heap.size _ _ from RS.out.on ((Below.refl _ wr).drewN 1))).mono ?_
              rintro z x1 ⟨r, rfl, hr, hb5⟩
              obtain rfl : r = true := hr.2 rfl
              have GW := Lib.hid (GW.out.trans (((Below.refl _ wr).drewN 1 |>.trans hb5).mono GW.out.size))
              refine ⟨_, _, rfl, hb5, (by simp only [List.setIfInBounds_toArray, List.set_cons_succ, List.set_cons_zero]; exact rfl), ?_⟩
              clear hr hb5
              refine reg_take2 11 9 (v := ?_) (T' := ?_) (Later.refl _) (by kernel_rfl) (by kernel_rfl) (by kernel_rfl) (fun _ _ _ h => h) (fun o ho => ?_) ?_ ?_
              rotate_left 2
              · cases ho
                refine ⟨rfl, rfl, fun W hW => ?_⟩
                go_simp; (try with_reducible rfl)
              · simp only [List.setIfInBounds_toArray, List.set_cons_succ, List.set_cons_zero]; exact rfl
              refine reg_done (by kernel_rfl) ?_
              go_wp2_with fail
              go_roundw
              case rel => exact ⟨k + 1, a + mm, by go_num, (by have := HLT.out; omega), by rw [HSUM.out], HA2.out, GW.out⟩
              case measure => have := HLT.out; simp [intOf]; omega
          · have zl : decide ((k : Int) < (ps.length : Int)) = false := by rw [decide_eq_false_iff_not]; omega
            have hal : a = L.length := by omega
            clear hcn ha
            have G := Lib.hid (G.out.trans (GW.out.mono G.out.size))
            subst hal
            go_wp2_with fail
            refine (lives_any8 _).mono ?_
            rintro z w8 ⟨rfl, hb⟩
            have G := Lib.hid (G.out.trans (hb.mono G.out.size))
            clear hb
            go_wp2_with fail
            go_ret
            exact ⟨rfl, G.out⟩
-- END
set_option maxRecDepth 100000 in
theorem lifted (os : Os) (started : os.Started) (H : Type) (enc : TypeId × Value → H) :
    ReturnsInHanded {} Try.checked os 6 .any (Rows.blockCutsSpec.pre6 enc Try.prog Try.f6 Rows.blockCutsRow.domain false) (Rows.blockCutsSpec.post enc Try.prog Try.f6 false true false false) := by
  refine returnsInHanded_of_change (C := Try.checked) Try.own started (by kernel_rfl) Try.func6
    (ChangeSpec.witness6 (enc := enc) (C := Try.checked) false ⟨#[], #[.slice none 0 0], []⟩ 8 (by kernel_rfl) (by kernel_rfl) (by kernel_rfl) (by kernel_rfl)) ?_
  intro W base args ds gs before hval0 hW _ _
  have hval : ∀ (j : Nat) t v, Try.f6.params[j]? = some t → args[j]? = some v → Value.okWide Try.prog W .any base t v := hval0
  have hW' := hW
  obtain ⟨p, q, hA0, hV, rfl, _, _⟩ := hW
  have hA : DataW.TrodAll enc Try.prog W 0 (fun _ => true) true Try.f6.params.toList args.toList ds p := hA0
  rw [Try.params6] at hA hval
  obtain ⟨v0, d0, rfl, rfl, h0⟩ := trodAll_one hA
  obtain ⟨rfl, rfl⟩ := trodVars_none hV
  have hlt : ∀ x ∈ p, x.block < W.heap.size := fun x hx => by simpa using hW'.lt x (by simpa using hx)
  obtain ⟨a0, r0, b0⟩ := open_vers (hval 0 _ v0 rfl rfl) h0 (fun x hx => by simpa using hlt x (by simp [hx]))
  refine (walk v0 a0 _ r0).mono fun e W' ⟨he, hb⟩ => ⟨_, he, ?_⟩
  exact law_post Try.laidOut (by decide +kernel) rfl Try.underlying4 rfl hW' rfl hb

theorem holds : Rows.BlockCutsSaid :=
  OpenClaim.holds_of_wide 6 Try.f6 rfl rfl rfl rfl rfl rfl rfl ⟨rfl, rfl, rfl, rfl, rfl⟩ rfl rfl rfl rfl rfl (by kernel_rfl) Try.func6 (by kernel_rfl)
    (of_decide_eq_true (by kernel_rfl)) (by unfold Func.isWrapper; first | (rw [if_pos (by decide +kernel)]; kernel_rfl) | (rw [if_neg (by decide +kernel)]; exact ⟨rfl, rfl⟩))
    (fun os started H enc _ => lifted os started H enc)
end Go.Proofs.Ytecomnklofceaaa.L04
