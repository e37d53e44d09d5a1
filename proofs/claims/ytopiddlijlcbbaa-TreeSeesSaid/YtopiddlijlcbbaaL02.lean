/- TreeSees: whether a path sees a stamp is told as the document says: any path (the first 20 legs), any stamp. No conditions. -/
import Derived.Test.YtopiddlijlcbbaaQk
import Derived.Test.YtopiddlijlcbbaaTc
import Derived.Test.YtopiddlijlcbbaaTd
import Derived.Test.YtopiddlijlcbbaaBE
namespace Go.Proofs.Ytopiddlijlcbbaa.L02
open Go.RowKit Go.ChangeShapes Go.WideShapes Go.ChangeAt
set_option linter.unusedVariables false

set_option maxHeartbeats 4000000 in
set_option maxRecDepth 100000 in
theorem walk0 (KP : PathK) (KL : LiveK) (KS : SeesK) (v : Value) (p : List (Int × Int)) (b e q : Int) (w : World) (h : RdX lgL w w.heap.size v p) :
    Calls Try.prog 4 #[v, .agg #[.int .i64 b, .int .i64 e, .int .i64 q]] w fun z w' => z = .returned (.bool true) ∧ Below w.heap.size w w' := by
  have LV := Lib.hid (law11_lives KP KL)
  have KS := Lib.hid KS
  have hb0 := alloc_below w (.cells #[.int .i64 b, .int .i64 e, .int .i64 q] 32)
  have R0 := Lib.hid (h.on hb0)
  have BX := Lib.hid (Box.new w #[.int .i64 b, .int .i64 e, .int .i64 q] 32 _ rfl)
  have G := Lib.hid hb0
  obtain ⟨A, ca, rfl, -⟩ := h
  clear hb0
  have hml : (p.take 20).length ≤ 20 := by rw [List.length_take]; omega
  rcases Nat.lt_or_ge 20 p.length with hg | hg
  · skip
    have z1 : decide ((20 : Int) < (p.length : Int)) = true := by simp; omega
    have z2 : decide (20 < p.length) = true := by simp; omega
    obtain ⟨A1, c1, h1, rm⟩ := slX_head R0.out Try.underlying24 lg_size 20 (20 : Int) rfl (by omega)
    have RM := Lib.hid rm
    clear rm
    generalize p.take 20 = P at *
    have HM := Lib.hid (Nat.le_trans hml (show 20 ≤ 1000 from by decide))
    clear hml hg R0
    go_enter Try.func4, Try.ntmps4
    go_wp2_with fail
    generalize w.alloc (.cells #[.int .i64 b, .int .i64 e, .int .i64 q] 32) = W0 at *
    have R := Lib.hid (show RdX lgL W0.drew W0.drew.heap.size (.slice A1 20 c1) P from RM.out)
    have G := Lib.hid (G.out.drewN 1)
    have BX := Lib.hid (show Box W0.drew w.heap.size _ _ from BX.out)
    have hbb : (seesT P b e == seesT P b e) = true := by simp
    generalize seesT P b e = rr at *
    refine reg_start (by kernel_rfl) ?_
    refine reg_take2 0 10 (v := ?_) (T' := ?_) (Later.refl _) (by kernel_rfl) (by kernel_rfl) (by kernel_rfl) (fun _ _ _ h => h) (fun o ho => ?_) ?_ ?_
    rotate_left 2
    · cases ho
      refine ⟨rfl, rfl, fun W hW => ?_⟩
      go_simp; (try with_reducible rfl)
    · simp only [List.setIfInBounds_toArray, List.set_cons_succ, List.set_cons_zero]; exact rfl
    refine reg_take2 1 11 (v := ?_) (T' := ?_) (Later.refl _) (by kernel_rfl) (by kernel_rfl) (by kernel_rfl) (fun _ _ _ h => h) (fun o ho => ?_) ?_ ?_
    rotate_left 2
    · cases ho
      refine ⟨rfl, rfl, fun W hW => ?_⟩
      have BW := Box.later BX.out hW
      have d0 := BW.cell 0 (.int .i64 b) rfl
      have d1 := BW.cell 1 (.int .i64 e) rfl
      have d2 := BW.cell 2 (.int .i64 q) rfl
      go_simp; (try with_reducible rfl)
    · simp only [List.setIfInBounds_toArray, List.set_cons_succ, List.set_cons_zero]; exact rfl
    refine reg_take2 3 13 (v := ?_) (T' := ?_) (Later.refl _) (by kernel_rfl) (by kernel_rfl) (by kernel_rfl) (fun _ _ _ h => h) (fun o ho => ?_) ?_ ?_
    rotate_left 2
    · cases ho
      refine ⟨rfl, rfl, fun W hW => ?_⟩
      go_simp; (try with_reducible rfl)
    · simp only [List.setIfInBounds_toArray, List.set_cons_succ, List.set_cons_zero]; exact rfl
    refine reg_take2 4 14 (v := ?_) (T' := ?_) (Later.refl _) (by kernel_rfl) (by kernel_rfl) (by kernel_rfl) (fun _ _ _ h => h) (fun o ho => ?_) ?_ ?_
    rotate_left 2
    · cases ho
      refine ⟨rfl, rfl, fun W hW => ?_⟩
      have BW := Box.later BX.out hW
      have d0 := BW.cell 0 (.int .i64 b) rfl
      have d1 := BW.cell 1 (.int .i64 e) rfl
      have d2 := BW.cell 2 (.int .i64 q) rfl
      go_simp; (try with_reducible rfl)
    · simp only [List.setIfInBounds_toArray, List.set_cons_succ, List.set_cons_zero]; exact rfl
    refine reg_call2 2 12 (Later.refl _) (by kernel_rfl) 16 #[.slice A1 20 c1, .agg #[.int .i64 b, .int .i64 e, .int .i64 q]] (fun o ho => by cases ho; exact ⟨rfl, rfl, fun W => by go_simp⟩) ?_
    refine (KS.out _ P b e q _ R.out HM.out).mono ?_
    rintro z x1 ⟨rfl, hb1⟩
    have R := Lib.hid (R.out.on hb1)
    have G := Lib.hid (G.out.trans (hb1.mono G.out.size))
    refine ⟨_, _, rfl, hb1, (by simp only [List.setIfInBounds_toArray, List.set_cons_succ, List.set_cons_zero]; exact rfl), ?_⟩
    clear hb1
    refine reg_call2 5 15 (Later.refl _) (by kernel_rfl) 17 #[.slice A1 20 c1, .agg #[.int .i64 b, .int .i64 e, .int .i64 q]] (fun o ho => by cases ho; exact ⟨rfl, rfl, fun W => by go_simp⟩) ?_
    refine (ref_sees _ P b e q _ R.out HM.out).mono ?_
    rintro z x2 ⟨rfl, hb2⟩
    have R := Lib.hid (R.out.on hb2)
    have G := Lib.hid (G.out.trans (hb2.mono G.out.size))
    refine ⟨_, _, rfl, hb2, (by simp only [List.setIfInBounds_toArray, List.set_cons_succ, List.set_cons_zero]; exact rfl), ?_⟩
    clear hb2
    refine reg_take2 6 16 (v := ?_) (T' := ?_) (Later.refl _) (by kernel_rfl) (by kernel_rfl) (by kernel_rfl) (fun _ _ _ h => h) (fun o ho => ?_) ?_ ?_
    rotate_left 2
    · cases ho
      refine ⟨rfl, rfl, fun W hW => ?_⟩
      go_simp; (try with_reducible rfl)
    · simp only [List.setIfInBounds_toArray, List.set_cons_succ, List.set_cons_zero]; exact rfl
    refine reg_take2 7 17 (v := ?_) (T' := ?_) (Later.refl _) (by kernel_rfl) (by kernel_rfl) (by kernel_rfl) (fun _ _ _ h => h) (fun o ho => ?_) ?_ ?_
    rotate_left 2
    · cases ho
      refine ⟨rfl, rfl, fun W hW => ?_⟩
      go_simp; (try with_reducible rfl)
    · simp only [List.setIfInBounds_toArray, List.set_cons_succ, List.set_cons_zero]; exact rfl
    refine reg_call2 8 18 (Later.refl _) (by kernel_rfl) 15 #[] (fun o ho => by cases ho; exact ⟨rfl, rfl, fun W => by go_simp⟩) ?_
    refine (LV.out _).mono ?_
    rintro z x3 ⟨rfl, hb3⟩
    have G := Lib.hid (G.out.trans (hb3.mono G.out.size))
    refine ⟨_, _, rfl, hb3, (by simp only [List.setIfInBounds_toArray, List.set_cons_succ, List.set_cons_zero]; exact rfl), ?_⟩
    clear hb3
    refine reg_take2 9 19 (v := ?_) (T' := ?_) (Later.refl _) (by kernel_rfl) (by kernel_rfl) (by kernel_rfl) (fun _ _ _ h => h) (fun o ho => ?_) ?_ ?_
    rotate_left 2
    · cases ho
      refine ⟨rfl, rfl, fun W hW => ?_⟩
      go_simp; (try with_reducible rfl)
    · simp only [List.setIfInBounds_toArray, List.set_cons_succ, List.set_cons_zero]; exact rfl
    refine reg_take2 10 4 (v := ?_) (T' := ?_) (Later.refl _) (by kernel_rfl) (by kernel_rfl) (by kernel_rfl) (fun _ _ _ h => h) (fun o ho => ?_) ?_ ?_
    rotate_left 2
    · cases ho
      refine ⟨rfl, rfl, fun W hW => ?_⟩
      go_simp; (try with_reducible rfl)
    · simp only [List.setIfInBounds_toArray, List.set_cons_succ, List.set_cons_zero]; exact rfl
    refine reg_done (by kernel_rfl) ?_
    go_wp2_with fail
    go_ret
    exact ⟨rfl, G.out⟩
  · skip
    have z1 : decide ((20 : Int) < (p.length : Int)) = false := by rw [decide_eq_false_iff_not]; omega
    have z2 : decide (20 < p.length) = false := by rw [decide_eq_false_iff_not]; omega
    obtain ⟨A1, hA1⟩ : ∃ A1, A1 = A := ⟨A, rfl⟩
    obtain ⟨c1, hc1⟩ : ∃ c1, c1 = ca := ⟨ca, rfl⟩
    subst hA1 hc1
    have RM := Lib.hid (show RdX lgL _ _ (.slice A1 p.length c1) (p.take 20) from by rw [List.take_of_length_le hg]; exact R0.out)
    generalize p.take 20 = P at *
    have HM := Lib.hid (Nat.le_trans hml (show 20 ≤ 1000 from by decide))
    clear hml hg R0
    go_enter Try.func4, Try.ntmps4
    go_wp2_with fail
    generalize w.alloc (.cells #[.int .i64 b, .int .i64 e, .int .i64 q] 32) = W0 at *
    have R := Lib.hid (show RdX lgL W0.drew W0.drew.heap.size (.slice A1 p.length c1) P from RM.out)
    have G := Lib.hid (G.out.drewN 1)
    have BX := Lib.hid (show Box W0.drew w.heap.size _ _ from BX.out)
    have hbb : (seesT P b e == seesT P b e) = true := by simp
    generalize seesT P b e = rr at *
    refine reg_start (by kernel_rfl) ?_
    refine reg_take2 0 10 (v := ?_) (T' := ?_) (Later.refl _) (by kernel_rfl) (by kernel_rfl) (by kernel_rfl) (fun _ _ _ h => h) (fun o ho => ?_) ?_ ?_
    rotate_left 2
    · cases ho
      refine ⟨rfl, rfl, fun W hW => ?_⟩
      go_simp; (try with_reducible rfl)
    · simp only [List.setIfInBounds_toArray, List.set_cons_succ, List.set_cons_zero]; exact rfl
    refine reg_take2 1 11 (v := ?_) (T' := ?_) (Later.refl _) (by kernel_rfl) (by kernel_rfl) (by kernel_rfl) (fun _ _ _ h => h) (fun o ho => ?_) ?_ ?_
    rotate_left 2
    · cases ho
      refine ⟨rfl, rfl, fun W hW => ?_⟩
      have BW := Box.later BX.out hW
      have d0 := BW.cell 0 (.int .i64 b) rfl
      have d1 := BW.cell 1 (.int .i64 e) rfl
      have d2 := BW.cell 2 (.int .i64 q) rfl
      go_simp; (try with_reducible rfl)
    · simp only [List.setIfInBounds_toArray, List.set_cons_succ, List.set_cons_zero]; exact rfl
    refine reg_take2 3 13 (v := ?_) (T' := ?_) (Later.refl _) (by kernel_rfl) (by kernel_rfl) (by kernel_rfl) (fun _ _ _ h => h) (fun o ho => ?_) ?_ ?_
    rotate_left 2
    · cases ho
      refine ⟨rfl, rfl, fun W hW => ?_⟩
      go_simp; (try with_reducible rfl)
    · simp only [List.setIfInBounds_toArray, List.set_cons_succ, List.set_cons_zero]; exact rfl
    refine reg_take2 4 14 (v := ?_) (T' := ?_) (Later.refl _) (by kernel_rfl) (by kernel_rfl) (by kernel_rfl) (fun _ _ _ h => h) (fun o ho => ?_) ?_ ?_
    rotate_left 2
    · cases ho
      refine ⟨rfl, rfl, fun W hW => ?_⟩
      have BW := Box.later BX.out hW
      have d0 := BW.cell 0 (.int .i64 b) rfl
      have d1 := BW.cell 1 (.int .i64 e) rfl
      have d2 := BW.cell 2 (.int .i64 q) rfl
      go_simp; (try with_reducible rfl)
    · simp only [List.setIfInBounds_toArray, List.set_cons_succ, List.set_cons_zero]; exact rfl
    refine reg_call2 2 12 (Later.refl _) (by kernel_rfl) 16 #[.slice A1 p.length c1, .agg #[.int .i64 b, .int .i64 e, .int .i64 q]] (fun o ho => by cases ho; exact ⟨rfl, rfl, fun W => by go_simp⟩) ?_
    refine (KS.out _ P b e q _ R.out HM.out).mono ?_
    rintro z x1 ⟨rfl, hb1⟩
    have R := Lib.hid (R.out.on hb1)
    have G := Lib.hid (G.out.trans (hb1.mono G.out.size))
    refine ⟨_, _, rfl, hb1, (by simp only [List.setIfInBounds_toArray, List.set_cons_succ, List.set_cons_zero]; exact rfl), ?_⟩
    clear hb1
    refine reg_call2 5 15 (Later.refl _) (by kernel_rfl) 17 #[.slice A1 p.length c1, .agg #[.int .i64 b, .int .i64 e, .int .i64 q]] (fun o ho => by cases ho; exact ⟨rfl, rfl, fun W => by go_simp⟩) ?_
    refine (ref_sees _ P b e q _ R.out HM.out).mono ?_
    rintro z x2 ⟨rfl, hb2⟩
    have R := Lib.hid (R.out.on hb2)
    have G := Lib.hid (G.out.trans (hb2.mono G.out.size))
    refine ⟨_, _, rfl, hb2, (by simp only [List.setIfInBounds_toArray, List.set_cons_succ, List.set_cons_zero]; exact rfl), ?_⟩
    clear hb2
    refine reg_take2 6 16 (v := ?_) (T' := ?_) (Later.refl _) (by kernel_rfl) (by kernel_rfl) (by kernel_rfl) (fun _ _ _ h => h) (fun o ho => ?_) ?_ ?_
    rotate_left 2
    · cases ho
      refine ⟨rfl, rfl, fun W hW => ?_⟩
      go_simp; (try with_reducible rfl)
    · simp only [List.setIfInBounds_toArray, List.set_cons_succ, List.set_cons_zero]; exact rfl
    refine reg_take2 7 17 (v := ?_) (T' := ?_) (Later.refl _) (by kernel_rfl) (by kernel_rfl) (by kernel_rfl) (fun _ _ _ h => h) (fun o ho => ?_) ?_ ?_
    rotate_left 2
    · cases ho
      refine ⟨rfl, rfl, fun W hW => ?_⟩
      go_simp; (try with_reducible rfl)
    · simp only [List.setIfInBounds_toArray, List.set_cons_succ, List.set_cons_zero]; exact rfl
    refine reg_call2 8 18 (Later.refl _) (by kernel_rfl) 15 #[] (fun o ho => by cases ho; exact ⟨rfl, rfl, fun W => by go_simp⟩) ?_
    refine (LV.out _).mono ?_
    rintro z x3 ⟨rfl, hb3⟩
    have G := Lib.hid (G.out.trans (hb3.mono G.out.size))
    refine ⟨_, _, rfl, hb3, (by simp only [List.setIfInBounds_toArray, List.set_cons_succ, List.set_cons_zero]; exact rfl), ?_⟩
    clear hb3
    refine reg_take2 9 19 (v := ?_) (T' := ?_) (Later.refl _) (by kernel_rfl) (by kernel_rfl) (by kernel_rfl) (fun _ _ _ h => h) (fun o ho => ?_) ?_ ?_
    rotate_left 2
    · cases ho
      refine ⟨rfl, rfl, fun W hW => ?_⟩
      go_simp; (try with_reducible rfl)
    · simp only [List.setIfInBounds_toArray, List.set_cons_succ, List.set_cons_zero]; exact rfl
    refine reg_take2 10 4 (v := ?_) (T' := ?_) (Later.refl _) (by kernel_rfl) (by kernel_rfl) (by kernel_rfl) (fun _ _ _ h => h) (fun o ho => ?_) ?_ ?_
    rotate_left 2
    · cases ho
      refine ⟨rfl, rfl, fun W hW => ?_⟩
      go_simp; (try with_reducible rfl)
    · simp only [List.setIfInBounds_toArray, List.set_cons_succ, List.set_cons_zero]; exact rfl
    refine reg_done (by kernel_rfl) ?_
    go_wp2_with fail
    go_ret
    exact ⟨rfl, G.out⟩
-- END
set_option maxRecDepth 100000 in
theorem lifted (os : Os) (started : os.Started) (H : Type) (enc : TypeId × Value → H) :
    ReturnsInHanded {} Try.checked os 4 .any (Rows.treeSeesSpec.pre6 enc Try.prog Try.f4 Rows.treeSeesRow.domain false) (Rows.treeSeesSpec.post enc Try.prog Try.f4 false true false false) := by
  refine returnsInHanded_of_change (C := Try.checked) Try.own started (by kernel_rfl) Try.func4
    (ChangeSpec.witness6 (enc := enc) (C := Try.checked) false ⟨#[], #[.slice none 0 0, .agg #[.int .i64 0, .int .i64 0, .int .i64 0]], []⟩ 8 (by kernel_rfl) (by kernel_rfl) (by kernel_rfl) (by kernel_rfl)) ?_
  intro W base args ds gs before hval0 hW _ _
  have hval : ∀ (j : Nat) t v, Try.f4.params[j]? = some t → args[j]? = some v → Value.okWide Try.prog W .any base t v := hval0
  have hW' := hW
  obtain ⟨p, q, hA0, hV, rfl, _, _⟩ := hW
  have hA : DataW.TrodAll enc Try.prog W 0 (fun _ => true) true Try.f4.params.toList args.toList ds p := hA0
  rw [Try.params4] at hA hval
  obtain ⟨v0, v1, d0, d1, p0, p1, rfl, rfl, rfl, h0, h1⟩ := trodAll_two hA
  obtain ⟨rfl, rfl⟩ := trodVars_none hV
  have hlt := fun x hx => hW'.lt x hx
  obtain ⟨a0, r0, b0⟩ := open_lgs (hval 0 _ v0 rfl rfl) h0 (fun x hx => by simpa using hlt x (by simp [hx]))
  obtain ⟨⟨mb1, me1, mq1⟩, rfl, x1⟩ := open_st (hval 1 _ v1 rfl rfl) h1
  refine (walk0 path_k live_k sees_k v0 a0 mb1 me1 mq1 _ r0).mono fun e W' ⟨he, hb⟩ => ⟨_, he, ?_⟩
  exact law_post Try.laidOut (by decide +kernel) rfl Try.underlying4 rfl hW' rfl hb

theorem holds : Rows.TreeSeesSaid :=
  OpenClaim.holds_of_wide 4 Try.f4 rfl rfl rfl rfl rfl rfl rfl ⟨rfl, rfl, rfl, rfl, rfl⟩ rfl rfl rfl rfl rfl (by kernel_rfl) Try.func4 (by kernel_rfl)
    (of_decide_eq_true (by kernel_rfl)) (by unfold Func.isWrapper; first | (rw [if_pos (by decide +kernel)]; kernel_rfl) | (rw [if_neg (by decide +kernel)]; exact ⟨rfl, rfl⟩))
    (fun os started H enc _ => lifted os started H enc)
end Go.Proofs.Ytopiddlijlcbbaa.L02
