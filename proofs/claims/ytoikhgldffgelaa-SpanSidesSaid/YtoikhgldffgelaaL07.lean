/- SpanSides (P4.1): for every two spans: what they have in common does not hang on their row, lies in both, and without either of them nothing of it is left. No condition. -/
import Derived.Test.YtoikhgldffgelaaPk
import Derived.Test.YtoikhgldffgelaaBlaw
import Derived.BigQuiet
namespace Go.Proofs.Ytoikhgldffgelaa.L07
open Go.RowKit Go.ChangeShapes Go.WideShapes Go.ChangeAt
set_option linter.unusedVariables false

set_option maxHeartbeats 4000000 in
theorem walk (s t : Sp) (U : World) : Calls Try.prog 9 #[spV s, spV t] U fun e W' => e = .returned (.bool true) ∧ Below U.heap.size U W' := by
  have M1 := Lib.hid (fun w => p_meet s t w)
  have M2 := Lib.hid (fun w => p_meet t s w)
  rw [← meet_side s t] at M2
  have IN := Lib.hid (fun h => meet_in (a := s) (b := t) h)
  have YM := Lib.hid (fun w => p_may (meetF s t).1 w)
  have E1 := Lib.hid (fun (h : (meetF s t).2 = true) => minus_self (a := s) (m := (meetF s t).1) (meet_in h).1 (meet_in h).2.2.2.2.2.1 (meet_in h).2.1 (meet_in h).2.2.1)
  have E2 := Lib.hid (fun (h : (meetF s t).2 = true) => minus_self (a := t) (m := (meetF s t).1) (meet_in h).1 (meet_in h).2.2.2.2.2.2 (meet_in h).2.2.2.1 (meet_in h).2.2.2.2.1)
  have N1 := Lib.hid (fun w => p_minus (meetF s t).1 s w)
  have N2 := Lib.hid (fun w => p_minus (meetF s t).1 t w)
  obtain ⟨a1, a2⟩ := s
  obtain ⟨b1, b2⟩ := t
  have hsp : ∀ x : Sp, spV x = .agg #[.int .i64 x.1, .int .i64 x.2] := fun _ => rfl
  simp only [hsp] at M1 M2 N1 N2 YM
  rw [hsp, hsp]
  clear hsp
  generalize meetF (a1, a2) (b1, b2) = r at *
  obtain ⟨⟨m1, m2⟩, z⟩ := r
  have BA := Lib.hid ((Box.new U #[.int .i64 a1, .int .i64 a2] 23 _ rfl).alloc (.cells #[.int .i64 b1, .int .i64 b2] 23))
  have BB := Lib.hid (Box.new (U.alloc (.cells #[.int .i64 a1, .int .i64 a2] 23)) #[.int .i64 b1, .int .i64 b2] 23 (U.heap.size + 1) (by simp))
  have G := Lib.hid (((Below.refl U.heap.size U).alloc (Nat.le_refl _) (.cells #[.int .i64 a1, .int .i64 a2] 23)).alloc (by simp) (.cells #[.int .i64 b1, .int .i64 b2] 23))
  go_enter Try.func9, Try.ntmps9
  go_wp2_with fail
  generalize (U.alloc (.cells #[.int .i64 a1, .int .i64 a2] 23)).alloc (.cells #[.int .i64 b1, .int .i64 b2] 23) = w0 at *
  refine (M1.out _).mono ?_
  rintro e w1 ⟨rfl, hb1⟩
  have hbx := hb1.alloc hb1.size (.cells #[.int .i64 m1, .int .i64 m2] 23)
  have BA := Lib.hid (BA.out.later hbx)
  have BB := Lib.hid (BB.out.later hbx)
  have G := Lib.hid (G.out.trans (hbx.mono G.out.size))
  have BM := Lib.hid (Box.new w1 #[.int .i64 m1, .int .i64 m2] 23 _ rfl)
  clear hb1 hbx
  have ca0 := BA.out.cell 0 (.int .i64 a1) rfl
  have ca1 := BA.out.cell 1 (.int .i64 a2) rfl
  have cb0 := BB.out.cell 0 (.int .i64 b1) rfl
  have cb1 := BB.out.cell 1 (.int .i64 b2) rfl
  generalize hw1 : w1.alloc (.cells #[.int .i64 m1, .int .i64 m2] 23) = wm at *
  go_wp2_with fail
  clear hw1
  refine (M2.out _).mono ?_
  rintro e w2 ⟨rfl, hb2⟩
  have hbx := hb2.alloc hb2.size (.cells #[.int .i64 m1, .int .i64 m2] 23)
  have BA := Lib.hid (BA.out.later hbx)
  have BB := Lib.hid (BB.out.later hbx)
  have BM := Lib.hid (BM.out.later hbx)
  have G := Lib.hid (G.out.trans (hbx.mono G.out.size))
  have BN := Lib.hid (Box.new w2 #[.int .i64 m1, .int .i64 m2] 23 _ rfl)
  clear hb2 hbx ca0 ca1 cb0 cb1
  have ca0 := BA.out.cell 0 (.int .i64 a1) rfl
  have ca1 := BA.out.cell 1 (.int .i64 a2) rfl
  have cb0 := BB.out.cell 0 (.int .i64 b1) rfl
  have cb1 := BB.out.cell 1 (.int .i64 b2) rfl
  have cm0 := BM.out.cell 0 (.int .i64 m1) rfl
  have cm1 := BM.out.cell 1 (.int .i64 m2) rfl
  have cn0 := BN.out.cell 0 (.int .i64 m1) rfl
  have cn1 := BN.out.cell 1 (.int .i64 m2) rfl
  generalize hw2 : w2.alloc (.cells #[.int .i64 m1, .int .i64 m2] 23) = wn at *
  have hmm := fun W => sp_neq W (m1, m2) (m1, m2)
  simp only [decide_true, Bool.not_true] at hmm
  unfold spV at hmm
  have hzz : (z != z) = false := by simp
  cases z
  · go_wp2_with fail
    clear hw2
    refine (lives_any _).mono ?_
    rintro e w9 ⟨rfl, hb9⟩
    have G := Lib.hid (G.out.trans (hb9.mono G.out.size))
    clear hb9
    go_wp2_with fail
    go_ret
    exact ⟨rfl, G.out⟩
  · obtain ⟨i0, i1, i2, i3, i4, -, -⟩ := IN.out rfl
    have E1 := E1.out rfl
    have E2 := E2.out rfl
    rw [show minusF (m1, m2) (a1, a2) = [] from E1] at N1
    rw [show minusF (m1, m2) (b1, b2) = [] from E2] at N2
    have YM := Lib.hid (show ∀ w, Calls _ _ _ w fun e w' => e = .returned (.bool true) ∧ Below w.heap.size w w' from by have := YM.out; rw [show mayB (m1, m2) = true from i0] at this; exact this)
    have g1 : decide ((a1 : Int) ≤ m1) = true := by simpa using i1
    have g2 : decide ((m2 : Int) ≤ a2) = true := by simpa using i2
    have g3 : decide ((b1 : Int) ≤ m1) = true := by simpa using i3
    have g4 : decide ((m2 : Int) ≤ b2) = true := by simpa using i4
    clear IN i0 E1 E2
    go_wp2_with fail
    clear hw2 cn0 cn1
    refine (YM.out _).mono ?_
    rintro e w3 ⟨rfl, hb3⟩
    have BA := Lib.hid (BA.out.later hb3)
    have BB := Lib.hid (BB.out.later hb3)
    have BM := Lib.hid (BM.out.later hb3)
    have G := Lib.hid (G.out.trans (hb3.mono G.out.size))
    clear hb3 ca0 ca1 cb0 cb1 cm0 cm1
    have ca0 := BA.out.cell 0 (.int .i64 a1) rfl
    have ca1 := BA.out.cell 1 (.int .i64 a2) rfl
    have cb0 := BB.out.cell 0 (.int .i64 b1) rfl
    have cb1 := BB.out.cell 1 (.int .i64 b2) rfl
    have cm0 := BM.out.cell 0 (.int .i64 m1) rfl
    have cm1 := BM.out.cell 1 (.int .i64 m2) rfl
    go_wp2_with fail
    refine (N1.out _).mono ?_
    rintro e w4 ⟨v4, rfl, ho4, hb4⟩
    obtain ⟨A4, c4, e4, -⟩ := ho4.rd
    subst e4
    clear ho4
    have BA := Lib.hid (BA.out.later hb4)
    have BB := Lib.hid (BB.out.later hb4)
    have BM := Lib.hid (BM.out.later hb4)
    have G := Lib.hid (G.out.trans (hb4.mono G.out.size))
    clear hb4 ca0 ca1 cb0 cb1 cm0 cm1
    have ca0 := BA.out.cell 0 (.int .i64 a1) rfl
    have ca1 := BA.out.cell 1 (.int .i64 a2) rfl
    have cb0 := BB.out.cell 0 (.int .i64 b1) rfl
    have cb1 := BB.out.cell 1 (.int .i64 b2) rfl
    have cm0 := BM.out.cell 0 (.int .i64 m1) rfl
    have cm1 := BM.out.cell 1 (.int .i64 m2) rfl
    go_wp2_with fail
    refine (N2.out _).mono ?_
    rintro e w5 ⟨v5, rfl, ho5, hb5⟩
    obtain ⟨A5, c5, e5, -⟩ := ho5.rd
    subst e5
    clear ho5
    have BA := Lib.hid (BA.out.later hb5)
    have BB := Lib.hid (BB.out.later hb5)
    have BM := Lib.hid (BM.out.later hb5)
    have G := Lib.hid (G.out.trans (hb5.mono G.out.size))
    clear hb5 ca0 ca1 cb0 cb1 cm0 cm1
    have ca0 := BA.out.cell 0 (.int .i64 a1) rfl
    have ca1 := BA.out.cell 1 (.int .i64 a2) rfl
    have cb0 := BB.out.cell 0 (.int .i64 b1) rfl
    have cb1 := BB.out.cell 1 (.int .i64 b2) rfl
    have cm0 := BM.out.cell 0 (.int .i64 m1) rfl
    have cm1 := BM.out.cell 1 (.int .i64 m2) rfl
    go_wp2_with fail
    refine (lives_any _).mono ?_
    rintro e w9 ⟨rfl, hb9⟩
    have G := Lib.hid (G.out.trans (hb9.mono G.out.size))
    clear hb9
    go_wp2_with fail
    go_ret
    exact ⟨rfl, G.out⟩
-- END
set_option maxRecDepth 100000 in
theorem lifted (os : Os) (started : os.Started) (H : Type) (enc : TypeId × Value → H) :
    ReturnsInHanded {} Try.checked os 9 .any (Rows.spanSidesSpec.pre6 enc Try.prog Try.f9 Rows.spanSidesRow.domain false) (Rows.spanSidesSpec.post enc Try.prog Try.f9 false true false false) := by
  refine returnsInHanded_of_change (C := Try.checked) Try.own started (by kernel_rfl) Try.func9
    (ChangeSpec.witness6 (enc := enc) (C := Try.checked) false ⟨#[], #[.agg #[.int .i64 0, .int .i64 0], .agg #[.int .i64 0, .int .i64 0]], []⟩ 8 (by kernel_rfl) (by kernel_rfl) (by kernel_rfl) (by kernel_rfl)) ?_
  intro W base args ds gs before hval0 hW _ _
  have hval : ∀ (j : Nat) t v, Try.f9.params[j]? = some t → args[j]? = some v → Value.okWide Try.prog W .any base t v := hval0
  have hW' := hW
  obtain ⟨p, q, hA0, hV, rfl, _, _⟩ := hW
  have hA : DataW.TrodAll enc Try.prog W 0 (fun _ => true) true Try.f9.params.toList args.toList ds p := hA0
  rw [Try.params9] at hA hval
  obtain ⟨v0, v1, d0, d1, p0, p1, rfl, rfl, rfl, h0, h1⟩ := trodAll_two hA
  obtain ⟨rfl, rfl⟩ := trodVars_none hV
  obtain ⟨a0, rfl, w0, x0⟩ := open_sp (hval 0 _ v0 rfl rfl) h0
  obtain ⟨a1, rfl, w1, x1⟩ := open_sp (hval 1 _ v1 rfl rfl) h1
  refine (walk a0 a1 W).mono fun e W' ⟨he, hb⟩ => ⟨_, he, ?_⟩
  exact law_post Try.laidOut (by decide +kernel) rfl Try.underlying4 rfl hW' rfl hb

theorem holds : Rows.SpanSidesSaid :=
  OpenClaim.holds_of_wide 9 Try.f9 rfl rfl rfl rfl rfl rfl rfl ⟨rfl, rfl, rfl, rfl, rfl⟩ rfl rfl rfl rfl rfl (by kernel_rfl) Try.func9 (by kernel_rfl)
    (of_decide_eq_true (by kernel_rfl)) (by unfold Func.isWrapper; first | (rw [if_pos (by decide +kernel)]; kernel_rfl) | (rw [if_neg (by decide +kernel)]; exact ⟨rfl, rfl⟩))
    (fun os started H enc _ => lifted os started H enc)
end Go.Proofs.Ytoikhgldffgelaa.L07
