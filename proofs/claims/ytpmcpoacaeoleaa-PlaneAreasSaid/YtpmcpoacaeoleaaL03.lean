/- PlaneAreas (P5.1, P5.2): for every two rectangles of less than 2^20 epochs and times: the areas of what they have in common and of what is left of the one add up to its own. No condition. -/
import Derived.Test.YtpmcpoacaeoleaaEo
import Derived.Test.YtpmcpoacaeoleaaBlaw
namespace Go.Proofs.Ytpmcpoacaeoleaa.L03
open Go.RowKit Go.ChangeShapes Go.WideShapes Go.ChangeAt
set_option linter.unusedVariables false
attribute [local go_sem] sto_cx

set_option maxHeartbeats 4000000 in
theorem walk (r q : Re) (U : World) : Calls Try.prog 5 #[reV r, reV q] U fun e W' => e = .returned (.bool true) ∧ Below U.heap.size U W' := by
  have LV := Lib.hid l_lives
  have OA := Lib.hid (fun w => l_of r w)
  have OB := Lib.hid (fun w => l_of q w)
  have hox := orZ_ok r
  have hoy := orZ_ok q
  have hom := rMeet_ok (orZ r) (orZ q)
  have MM := Lib.hid (fun w => p_rmeet (Rc.of hox) hox (Rc.of hoy) hoy w)
  have MN := Lib.hid (fun w => p_rminus (Rc.of hox) hox (Rc.of hoy) hoy w)
  have AM := Lib.hid (fun w => p_area (Rc.of hom) hom w)
  have AX := Lib.hid (fun w => p_area (Rc.of hox) hox w)
  have AE := Lib.hid (fun (x : Re) (hx : x ∈ pMinus (orZ r) (orZ q)) w => p_area (Rc.of (.inl (pMinus_may hox hx))) (.inl (pMinus_may hox hx)) w)
  have hsum := Lib.hid (show inN r → rArea (rMeet (orZ r) (orZ q)).1 + areas (pMinus (orZ r) (orZ q)) = rArea (orZ r) from fun h => pMinus_areas (orZ_inN h))
  have hsm := Lib.hid (show inN r → ∀ k, 0 ≤ rArea (rMeet (orZ r) (orZ q)).1 + areas ((pMinus (orZ r) (orZ q)).take k) ∧ rArea (rMeet (orZ r) (orZ q)).1 + areas ((pMinus (orZ r) (orZ q)).take k) ≤ 9223372036854775807 from fun h k => by
    have h1 := areas_take (l := pMinus (orZ r) (orZ q)) (fun x hx => pMinus_inN (orZ_inN h) hx) (Nat.le_trans (pMinus_len _ _) (by decide)) k
    have h2 := area_small (rMeet_inN (b := orZ q) (orZ_inN h))
    have h3 := area_nonneg (rMeet (orZ r) (orZ q)).1
    omega)
  have hsn := Lib.hid (areas_snoc (pMinus (orZ r) (orZ q)))
  have hsa := Lib.hid (show areas ((pMinus (orZ r) (orZ q)).take (pMinus (orZ r) (orZ q)).length) = areas (pMinus (orZ r) (orZ q)) from by rw [List.take_length])
  have hs0 := Lib.hid (show areas ((pMinus (orZ r) (orZ q)).take 0) = 0 from rfl)
  have hlen := Lib.hid (pMinus_len (orZ r) (orZ q))
  have hin := Lib.hid (show r.1.2 ≤ 1048576 → r.2.2 ≤ 1048576 → inN r from fun h k => ⟨h, k⟩)
  have hre : ∀ r : Re, reC r = .agg #[.complex .f64 (fw r.1.1) (fw r.2.1), .complex .f64 (fw r.1.2) (fw r.2.2)] := fun _ => rfl
  have hrv : ∀ r : Re, reV r = .agg #[.int .i64 r.1.1, .int .i64 r.1.2, .int .i64 r.2.1, .int .i64 r.2.2] := fun _ => rfl
  simp only [hre, hrv] at OA OB MM MN AM AX AE ⊢
  clear hre hrv hox hoy hom
  generalize (rMeet (orZ r) (orZ q)).2 = mk at *
  generalize (rMeet (orZ r) (orZ q)).1 = m at *
  generalize pMinus (orZ r) (orZ q) = l at *
  generalize rArea (orZ r) = ax at *
  generalize rMay r = r_may at *
  generalize rMay q = q_may at *
  generalize fw (orZ r).1.1 = g1 at *
  generalize fw (orZ r).2.1 = g2 at *
  generalize fw (orZ r).1.2 = g3 at *
  generalize fw (orZ r).2.2 = g4 at *
  generalize fw (orZ q).1.1 = e1 at *
  generalize fw (orZ q).2.1 = e2 at *
  generalize fw (orZ q).1.2 = e3 at *
  generalize fw (orZ q).2.2 = e4 at *
  generalize rArea m = am at *
  generalize inN r = inr at *
  generalize hst : (fun k => am + areas (l.take k)) = st
  have hsti : ∀ k, am + areas (l.take k) = st k := fun k => by rw [← hst]
  have hsn := Lib.hid (show ∀ (k : Nat) (h : k < l.length), st (k + 1) = st k + rArea l[k] from fun k h => by rw [← hsti, ← hsti, hsn.out k h]; omega)
  have hsa := Lib.hid (show st l.length = am + areas l from by rw [← hsti, hsa.out])
  have hs0 := Lib.hid (show st 0 = am from by rw [← hsti, hs0.out]; omega)
  simp only [hsti] at hsm
  clear hsti hst
  generalize areas l = al at *
  obtain ⟨⟨a1, a2⟩, ⟨a3, a4⟩⟩ := r
  obtain ⟨⟨b1, b2⟩, ⟨b3, b4⟩⟩ := q
  simp only at *
  have B0 := Lib.hid ((Box.new U #[.int .i64 a1, .int .i64 a2, .int .i64 a3, .int .i64 a4] 25 _ rfl).alloc (.cells #[.int .i64 b1, .int .i64 b2, .int .i64 b3, .int .i64 b4] 25))
  have B1 := Lib.hid (Box.new (U.alloc (.cells #[.int .i64 a1, .int .i64 a2, .int .i64 a3, .int .i64 a4] 25)) #[.int .i64 b1, .int .i64 b2, .int .i64 b3, .int .i64 b4] 25 (U.heap.size + 1) (by simp))
  have G := Lib.hid ((alloc_below U (.cells #[.int .i64 a1, .int .i64 a2, .int .i64 a3, .int .i64 a4] 25)).alloc (by simp) (.cells #[.int .i64 b1, .int .i64 b2, .int .i64 b3, .int .i64 b4] 25))
  go_enter Try.func5, Try.ntmps5
  have A := Lib.hid (fun j u hj => B0.out.cell j u hj)
  have c00 := B0.out.cell 0 (.int .i64 a1) rfl
  have c01 := B0.out.cell 1 (.int .i64 a2) rfl
  have c02 := B0.out.cell 2 (.int .i64 a3) rfl
  have c03 := B0.out.cell 3 (.int .i64 a4) rfl
  have c11 := B1.out.cell 1 (.int .i64 b2) rfl
  have c13 := B1.out.cell 3 (.int .i64 b4) rfl
  by_cases h1 : 1048576 < a2
  ·
    go_wp2_with fail
    refine (LV.out _).mono ?_
    rintro e w9 ⟨rfl, hb9⟩
    have G := Lib.hid (G.out.trans (hb9.mono G.out.size))
    go_wp2_with fail
    go_ret
    exact ⟨rfl, G.out⟩
  by_cases h2 : 1048576 < a4
  ·
    go_wp2_with fail
    refine (LV.out _).mono ?_
    rintro e w9 ⟨rfl, hb9⟩
    have G := Lib.hid (G.out.trans (hb9.mono G.out.size))
    go_wp2_with fail
    go_ret
    exact ⟨rfl, G.out⟩
  by_cases h3 : 1048576 < b2
  ·
    go_wp2_with fail
    refine (LV.out _).mono ?_
    rintro e w9 ⟨rfl, hb9⟩
    have G := Lib.hid (G.out.trans (hb9.mono G.out.size))
    go_wp2_with fail
    go_ret
    exact ⟨rfl, G.out⟩
  by_cases h4 : 1048576 < b4
  ·
    go_wp2_with fail
    refine (LV.out _).mono ?_
    rintro e w9 ⟨rfl, hb9⟩
    have G := Lib.hid (G.out.trans (hb9.mono G.out.size))
    go_wp2_with fail
    go_ret
    exact ⟨rfl, G.out⟩
  have hinr := hin.out (by omega) (by omega)
  have hsum := Lib.hid (hsum.out hinr)
  have hsm := Lib.hid (hsm.out hinr)
  clear hinr hin c11 c13 A
  go_wp2_with fail
  clear c00 c01 c02 c03 h1 h2 h3 h4
  generalize (U.alloc (.cells #[.int .i64 a1, .int .i64 a2, .int .i64 a3, .int .i64 a4] 25)).alloc (.cells #[.int .i64 b1, .int .i64 b2, .int .i64 b3, .int .i64 b4] 25) = W0 at *
  refine (OA.out _).mono ?_
  rintro e w1 ⟨rfl, hb1⟩
  have BX := Lib.hid (Box.new w1 #[.complex .f64 g1 g2, .complex .f64 g3 g4] 28 _ rfl)
  have B1 := Lib.hid ((B1.out.later hb1).alloc (.cells #[.complex .f64 g1 g2, .complex .f64 g3 g4] 28))
  have G1 := Lib.hid (G.out.trans (hb1.mono G.out.size))
  have G := Lib.hid (G1.out.alloc G1.out.size (.cells #[.complex .f64 g1 g2, .complex .f64 g3 g4] 28))
  clear hb1 G1 B0
  have c10 := B1.out.cell 0 (.int .i64 b1) rfl
  have c11 := B1.out.cell 1 (.int .i64 b2) rfl
  have c12 := B1.out.cell 2 (.int .i64 b3) rfl
  have c13 := B1.out.cell 3 (.int .i64 b4) rfl
  go_wp2_with fail
  generalize w1.alloc (.cells #[.complex .f64 g1 g2, .complex .f64 g3 g4] 28) = W1 at *
  generalize w1.heap.size = nx at *
  refine (OB.out _).mono ?_
  rintro e w2 ⟨rfl, hb2⟩
  have BY := Lib.hid (Box.new w2 #[.complex .f64 e1 e2, .complex .f64 e3 e4] 28 _ rfl)
  have BX := Lib.hid ((BX.out.later hb2).alloc (.cells #[.complex .f64 e1 e2, .complex .f64 e3 e4] 28))
  have G1 := Lib.hid (G.out.trans (hb2.mono G.out.size))
  have G := Lib.hid (G1.out.alloc G1.out.size (.cells #[.complex .f64 e1 e2, .complex .f64 e3 e4] 28))
  clear hb2 G1 B1 c10 c11 c12 c13
  have c00 := BX.out.cell 0 (.complex .f64 g1 g2) rfl
  have c01 := BX.out.cell 1 (.complex .f64 g3 g4) rfl
  have c10 := BY.out.cell 0 (.complex .f64 e1 e2) rfl
  have c11 := BY.out.cell 1 (.complex .f64 e3 e4) rfl
  go_wp2_with fail
  generalize w2.alloc (.cells #[.complex .f64 e1 e2, .complex .f64 e3 e4] 28) = W2 at *
  generalize w2.heap.size = ny at *
  refine (MM.out _).mono ?_
  rintro e w3 ⟨rfl, hb3⟩
  have BM := Lib.hid (Box.new w3 #[.complex .f64 (fw m.1.1) (fw m.2.1), .complex .f64 (fw m.1.2) (fw m.2.2)] 28 _ rfl)
  have BX := Lib.hid ((BX.out.later hb3).alloc (.cells #[.complex .f64 (fw m.1.1) (fw m.2.1), .complex .f64 (fw m.1.2) (fw m.2.2)] 28))
  have BY := Lib.hid ((BY.out.later hb3).alloc (.cells #[.complex .f64 (fw m.1.1) (fw m.2.1), .complex .f64 (fw m.1.2) (fw m.2.2)] 28))
  have G1 := Lib.hid (G.out.trans (hb3.mono G.out.size))
  have G := Lib.hid (G1.out.alloc G1.out.size (.cells #[.complex .f64 (fw m.1.1) (fw m.2.1), .complex .f64 (fw m.1.2) (fw m.2.2)] 28))
  clear hb3 G1 c00 c01 c10 c11
  have c0 := BM.out.cell 0 (.complex .f64 (fw m.1.1) (fw m.2.1)) rfl
  have c1 := BM.out.cell 1 (.complex .f64 (fw m.1.2) (fw m.2.2)) rfl
  go_wp2_with fail
  generalize w3.alloc (.cells #[.complex .f64 (fw m.1.1) (fw m.2.1), .complex .f64 (fw m.1.2) (fw m.2.2)] 28) = W3 at *
  refine (AM.out _).mono ?_
  rintro e w4 ⟨rfl, hb4⟩
  have BX := Lib.hid (BX.out.later hb4)
  have BY := Lib.hid (BY.out.later hb4)
  have G := Lib.hid (G.out.trans (hb4.mono G.out.size))
  clear hb4 c0 c1 BM
  have c00 := BX.out.cell 0 (.complex .f64 g1 g2) rfl
  have c01 := BX.out.cell 1 (.complex .f64 g3 g4) rfl
  have c10 := BY.out.cell 0 (.complex .f64 e1 e2) rfl
  have c11 := BY.out.cell 1 (.complex .f64 e3 e4) rfl
  go_wp2_with fail
  refine (MN.out _).mono ?_
  rintro e w5 ⟨v5, rfl, ho5, hb5⟩
  have BX := Lib.hid (BX.out.later hb5)
  have G := Lib.hid (G.out.trans (hb5.mono G.out.size))
  have R := Lib.hid ho5.rd
  obtain ⟨A5, c5, e5, -⟩ := R.out
  subst e5
  have lx := BX.out.lt
  clear hb5 ho5 c00 c01 c10 c11 BY
  go_wp2_with fail
  go_loopw [11, 13] (fun x i wr => ∃ k : Nat, i = .int .i64 k ∧ x = .int .i64 (st k) ∧ k ≤ l.length ∧ Below w5.heap.size w5 wr) (fun _ i _ => l.length - (intOf i).toNat)
  case atStart => exact ⟨0, rfl, by rw [hs0.out], Nat.zero_le _, Below.refl _ _⟩
  case round =>
    obtain ⟨k, rfl, rfl, hk, hb⟩ := hrel
    have GW := Lib.hid hb
    have BXw := Lib.hid (BX.out.on hb lx)
    clear hb
    by_cases hlt : k < l.length
    · obtain ⟨ba, oa, rfl, hba, e0, e1⟩ := RdRx.here (R.out.below GW.out) k hlt
      have SS := Lib.hid (hsn.out k hlt)
      have HM := Lib.hid (AE.out l[k] (List.getElem_mem _))
      have A1 := Lib.hid (hsm.out (k + 1))
      have hl4 := hlen.out
      generalize l[k] = x at *
      generalize rArea x = ar at *
      obtain ⟨⟨x1, x2⟩, ⟨x3, x4⟩⟩ := x
      simp only at HM e0 e1
      go_wp2_with fail
      refine (HM.out _).mono ?_
      rintro e w6 ⟨rfl, hb6⟩
      have GZ := Lib.hid (GW.out.trans (hb6.mono GW.out.size))
      clear hb6 e0 e1
      have hw : wrap64 (st k + ar) = st (k + 1) := by
        rw [← SS.out]
        have := A1.out
        unfold wrap64; omega
      go_wp2_with fail
      go_roundw
      case rel => exact ⟨k + 1, by go_num, by first | rw [hw] | rw [SS.out] | (rw [← hw]), by omega, GZ.out⟩
      case measure => simp [intOf]; omega
    · have hke : k = l.length := by omega
      have hv := Lib.hid (show st k = ax from by rw [hke, hsa.out, hsum.out])
      have c00 := BXw.out.cell 0 (.complex .f64 g1 g2) rfl
      have c01 := BXw.out.cell 1 (.complex .f64 g3 g4) rfl
      have hl4 := hlen.out
      have G := Lib.hid (G.out.trans (GW.out.mono G.out.size))
      clear hke
      rw [hv.out]
      go_wp2_with fail
      refine (AX.out _).mono ?_
      rintro e w6 ⟨rfl, hb6⟩
      have G := Lib.hid (G.out.trans (hb6.mono G.out.size))
      clear hb6 c00 c01
      go_wp2_with fail
      refine (LV.out _).mono ?_
      rintro e w7 ⟨rfl, hb7⟩
      have G := Lib.hid (G.out.trans (hb7.mono G.out.size))
      clear hb7
      go_wp2_with fail
      go_ret
      exact ⟨rfl, G.out⟩
-- END
set_option maxRecDepth 100000 in
theorem lifted (os : Os) (started : os.Started) (H : Type) (enc : TypeId × Value → H) :
    ReturnsInHanded {} Try.checked os 5 .any (Rows.planeAreasSpec.pre6 enc Try.prog Try.f5 Rows.planeAreasRow.domain false) (Rows.planeAreasSpec.post enc Try.prog Try.f5 false true false false) := by
  refine returnsInHanded_of_change (C := Try.checked) Try.own started (by kernel_rfl) Try.func5
    (ChangeSpec.witness6 (enc := enc) (C := Try.checked) false ⟨#[], #[.agg #[.int .i64 0, .int .i64 0, .int .i64 0, .int .i64 0], .agg #[.int .i64 0, .int .i64 0, .int .i64 0, .int .i64 0]], []⟩ 8 (by kernel_rfl) (by kernel_rfl) (by kernel_rfl) (by kernel_rfl)) ?_
  intro W base args ds gs before hval0 hW _ _
  have hval : ∀ (j : Nat) t v, Try.f5.params[j]? = some t → args[j]? = some v → Value.okWide Try.prog W .any base t v := hval0
  have hW' := hW
  obtain ⟨p, q, hA0, hV, rfl, _, _⟩ := hW
  have hA : DataW.TrodAll enc Try.prog W 0 (fun _ => true) true Try.f5.params.toList args.toList ds p := hA0
  rw [Try.params5] at hA hval
  obtain ⟨v0, v1, d0, d1, p0, p1, rfl, rfl, rfl, h0, h1⟩ := trodAll_two hA
  obtain ⟨rfl, rfl⟩ := trodVars_none hV
  obtain ⟨a0, rfl, w0⟩ := open_re (hval 0 _ v0 rfl rfl) h0
  obtain ⟨a1, rfl, w1⟩ := open_re (hval 1 _ v1 rfl rfl) h1
  refine (walk a0 a1 _).mono fun e W' ⟨he, hb⟩ => ⟨_, he, ?_⟩
  exact law_post Try.laidOut (by decide +kernel) rfl Try.underlying4 rfl hW' rfl hb

theorem holds : Rows.PlaneAreasSaid :=
  OpenClaim.holds_of_wide 5 Try.f5 rfl rfl rfl rfl rfl rfl rfl ⟨rfl, rfl, rfl, rfl, rfl⟩ rfl rfl rfl rfl rfl (by kernel_rfl) Try.func5 (by kernel_rfl)
    (of_decide_eq_true (by kernel_rfl)) (by unfold Func.isWrapper; first | (rw [if_pos (by decide +kernel)]; kernel_rfl) | (rw [if_neg (by decide +kernel)]; exact ⟨rfl, rfl⟩))
    (fun os started H enc _ => lifted os started H enc)
end Go.Proofs.Ytpmcpoacaeoleaa.L03
