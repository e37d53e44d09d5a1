/- CheckSums: for all bytes (the first 200), their check sum, and their frame, are the document's. No conditions. -/
import Derived.Test.YtdpjohehmbddnaaCl
import Derived.ChangeMaps5
namespace Go.Proofs.Ytdpjohehmbddnaa.L01
open Go.RowKit Go.ChangeShapes Go.WideShapes Go.ChangeAt
set_option linter.unusedVariables false

set_option maxHeartbeats 4000000 in
set_option maxRecDepth 1000000 in
theorem walk (v0 : Value) (b0 : List UInt8) (w : World) (hb : RdB w w.heap.size v0 b0) :
    Calls Try.prog 3 #[v0] w fun e w' => e = .returned (.bool true) ∧ Below w.heap.size w w' := by
  have HB0 := Lib.hid hb
  have hl : (b0.take 200).length ≤ 200 := List.length_take_le _ _
  clear hb
  go_enter Try.func3, Try.ntmps3
  go_wp2_with fail
  refine (few_any _ _ b0 200 200 rfl _ HB0.out (by omega)).mono ?_
  rintro e w1 ⟨vb, rfl, hrb, rfl⟩
  have RB := Lib.hid (RdB.drew hrb)
  have G := Lib.hid ((Below.refl w.heap.size w).drewN 1)
  generalize b0.take 200 = b1 at *
  obtain ⟨Ab, cb, rfl, -⟩ := hrb
  go_wp2_with fail
-- REGION A
  refine reg_start (by kernel_rfl) ?_
  refine reg_take2 0 5 (v := ?_) (T' := ?_) (Later.refl _) (by kernel_rfl) (by kernel_rfl) (by kernel_rfl) (fun _ _ _ h => h) (fun o ho => ?_) ?_ ?_
  rotate_left 2
  · cases ho
    refine ⟨rfl, rfl, fun W hW => ?_⟩
    go_simp; (try with_reducible rfl)
  · simp only [List.setIfInBounds_toArray, List.set_cons_succ, List.set_cons_zero]; exact rfl
  refine reg_take2 2 7 (v := ?_) (T' := ?_) (Later.refl _) (by kernel_rfl) (by kernel_rfl) (by kernel_rfl) (fun _ _ _ h => h) (fun o ho => ?_) ?_ ?_
  rotate_left 2
  · cases ho
    refine ⟨rfl, rfl, fun W hW => ?_⟩
    go_simp; (try with_reducible rfl)
  · simp only [List.setIfInBounds_toArray, List.set_cons_succ, List.set_cons_zero]; exact rfl
  refine reg_call2 1 6 (Later.refl _) (by kernel_rfl) 11 #[.slice Ab b1.length cb] (fun o ho => by cases ho; exact ⟨rfl, rfl, fun W => by go_simp⟩) ?_
  refine (chk_sum _ _ b1 _ RB.out).mono ?_
  rintro e x1 ⟨rfl, rfl⟩
  refine ⟨_, _, rfl, Later.refl _, (by simp only [List.setIfInBounds_toArray, List.set_cons_succ, List.set_cons_zero]; exact rfl), ?_⟩
  refine reg_call2 3 8 (Later.refl _) (by kernel_rfl) 12 #[.slice Ab b1.length cb] (fun o ho => by cases ho; exact ⟨rfl, rfl, fun W => by go_simp⟩) ?_
  refine (ref_sum _ b1 _ RB.out (by omega)).mono ?_
  rintro e x3 ⟨rfl, hb3⟩
  have G := Lib.hid (G.out.trans (hb3.mono G.out.size))
  have RB := Lib.hid (RB.out.on hb3)
  refine ⟨_, _, rfl, hb3, (by simp only [List.setIfInBounds_toArray, List.set_cons_succ, List.set_cons_zero]; exact rfl), ?_⟩
  clear hb3
  refine reg_take2 4 9 (v := ?_) (T' := ?_) (Later.refl _) (by kernel_rfl) (by kernel_rfl) (by kernel_rfl) (fun _ _ _ h => h) (fun o ho => ?_) ?_ ?_
  rotate_left 2
  · cases ho
    refine ⟨rfl, rfl, fun W hW => ?_⟩
    go_simp; (try with_reducible rfl)
  · simp only [List.setIfInBounds_toArray, List.set_cons_succ, List.set_cons_zero]; exact rfl
  refine reg_take2 5 10 (v := ?_) (T' := ?_) (Later.refl _) (by kernel_rfl) (by kernel_rfl) (by kernel_rfl) (fun _ _ _ h => h) (fun o ho => ?_) ?_ ?_
  rotate_left 2
  · cases ho
    refine ⟨rfl, rfl, fun W hW => ?_⟩
    go_simp; (try with_reducible rfl)
  · simp only [List.setIfInBounds_toArray, List.set_cons_succ, List.set_cons_zero]; exact rfl
  refine reg_take2 6 11 (v := ?_) (T' := ?_) (Later.refl _) (by kernel_rfl) (by kernel_rfl) (by kernel_rfl) (fun _ _ _ h => h) (fun o ho => ?_) ?_ ?_
  rotate_left 2
  · cases ho
    refine ⟨rfl, rfl, fun W hW => ?_⟩
    go_simp; (try with_reducible rfl)
  · simp only [List.setIfInBounds_toArray, List.set_cons_succ, List.set_cons_zero]; exact rfl
  refine reg_take2 10 15 (v := ?_) (T' := ?_) (Later.refl _) (by kernel_rfl) (by kernel_rfl) (by kernel_rfl) (fun _ _ _ h => h) (fun o ho => ?_) ?_ ?_
  rotate_left 2
  · cases ho
    refine ⟨rfl, rfl, fun W hW => ?_⟩
    go_simp; (try with_reducible rfl)
  · simp only [List.setIfInBounds_toArray, List.set_cons_succ, List.set_cons_zero]; exact rfl
  refine reg_make2 7 12 (v := ?_) (w' := ?_) (T' := ?_) (Later.refl _) (by kernel_rfl) (fun o ho => ?_) ?_ ?_ ?_
  rotate_left 3
  · cases ho
    refine ⟨rfl, rfl, ?_⟩
    go_simp; constructor <;> with_reducible rfl
  · exact Later.alloc _ _
  · simp only [List.setIfInBounds_toArray, List.set_cons_succ, List.set_cons_zero]; exact rfl
  refine reg_call2 8 13 (Later.refl _) (by kernel_rfl) 13 #[.slice (some ⟨x3.heap.size, 0, none⟩) 1 1] (fun o ho => by cases ho; exact ⟨rfl, rfl, fun W => by go_simp⟩) ?_
  refine (chk_frame _ [b1] _ (bb_one x3 _ _ RB.out) (by simp) (by simp; omega)).mono ?_
  rintro e x8 ⟨y8, rfl, hy8, hb8⟩
  rw [frms_one] at hy8
  have Y8 := Lib.hid hy8.rd
  have hb9 := (alloc_below x3 _).trans (hb8.mono (by simp))
  have G := Lib.hid (G.out.trans (hb9.mono G.out.size))
  have RB := Lib.hid (RB.out.on hb9)
  refine ⟨y8, _, rfl, hb8, (by simp only [List.setIfInBounds_toArray, List.set_cons_succ, List.set_cons_zero]; exact rfl), ?_⟩
  clear hy8 hb8 hb9
  refine reg_take2 9 14 (v := ?_) (T' := ?_) (Later.refl _) (by kernel_rfl) (by kernel_rfl) (by kernel_rfl) (fun _ _ _ h => h) (fun o ho => ?_) ?_ ?_
  rotate_left 2
  · cases ho
    refine ⟨rfl, rfl, fun W hW => ?_⟩
    have hcv := RdB.str (RdB.below Y8.out hW)
    go_simp; (try with_reducible rfl)
  · simp only [List.setIfInBounds_toArray, List.set_cons_succ, List.set_cons_zero]; exact rfl
  refine reg_call2 11 16 (Later.refl _) (by kernel_rfl) 14 #[.slice Ab b1.length cb] (fun o ho => by cases ho; exact ⟨rfl, rfl, fun W => by go_simp⟩) ?_
  refine (ref_frame _ b1 _ RB.out (by omega)).mono ?_
  rintro e x11 ⟨y11, rfl, hy11, hb11⟩
  have Y11 := Lib.hid hy11.rd
  have Y8 := Lib.hid (Y8.out.on hb11)
  have G := Lib.hid (G.out.trans (hb11.mono G.out.size))
  refine ⟨y11, _, rfl, hb11, (by simp only [List.setIfInBounds_toArray, List.set_cons_succ, List.set_cons_zero]; exact rfl), ?_⟩
  clear hy11 hb11
  refine reg_take2 12 17 (v := ?_) (T' := ?_) (Later.refl _) (by kernel_rfl) (by kernel_rfl) (by kernel_rfl) (fun _ _ _ h => h) (fun o ho => ?_) ?_ ?_
  rotate_left 2
  · cases ho
    refine ⟨rfl, rfl, fun W hW => ?_⟩
    have hcv := RdB.str (RdB.below Y11.out hW)
    go_simp; (try with_reducible rfl)
  · simp only [List.setIfInBounds_toArray, List.set_cons_succ, List.set_cons_zero]; exact rfl
  refine reg_take2 13 18 (v := ?_) (T' := ?_) (Later.refl _) (by kernel_rfl) (by kernel_rfl) (by kernel_rfl) (fun _ _ _ h => h) (fun o ho => ?_) ?_ ?_
  rotate_left 2
  · cases ho
    refine ⟨rfl, rfl, fun W hW => ?_⟩
    go_simp; (try with_reducible rfl)
  · simp only [List.setIfInBounds_toArray, List.set_cons_succ, List.set_cons_zero]; exact rfl
  refine reg_take2 14 19 (v := ?_) (T' := ?_) (Later.refl _) (by kernel_rfl) (by kernel_rfl) (by kernel_rfl) (fun _ _ _ h => h) (fun o ho => ?_) ?_ ?_
  rotate_left 2
  · cases ho
    refine ⟨rfl, rfl, fun W hW => ?_⟩
    go_simp; (try with_reducible rfl)
  · simp only [List.setIfInBounds_toArray, List.set_cons_succ, List.set_cons_zero]; exact rfl
  refine reg_take2 15 20 (v := ?_) (T' := ?_) (Later.refl _) (by kernel_rfl) (by kernel_rfl) (by kernel_rfl) (fun _ _ _ h => h) (fun o ho => ?_) ?_ ?_
  rotate_left 2
  · cases ho
    refine ⟨rfl, rfl, fun W hW => ?_⟩
    go_simp; (try with_reducible rfl)
  · simp only [List.setIfInBounds_toArray, List.set_cons_succ, List.set_cons_zero]; exact rfl
  refine reg_call2 16 21 (Later.refl _) (by kernel_rfl) 15 #[] (fun o ho => by cases ho; exact ⟨rfl, rfl, fun W => by go_simp⟩) ?_
  refine (lives_any _).mono ?_
  rintro e x16 ⟨rfl, hb16⟩
  have G := Lib.hid (G.out.trans (hb16.mono G.out.size))
  refine ⟨.bool true, _, rfl, hb16, (by simp only [List.setIfInBounds_toArray, List.set_cons_succ, List.set_cons_zero]; exact rfl), ?_⟩
  clear hb16
  refine reg_take2 17 22 (v := ?_) (T' := ?_) (Later.refl _) (by kernel_rfl) (by kernel_rfl) (by kernel_rfl) (fun _ _ _ h => h) (fun o ho => ?_) ?_ ?_
  rotate_left 2
  · cases ho
    refine ⟨rfl, rfl, fun W hW => ?_⟩
    go_simp; (try with_reducible rfl)
  · simp only [List.setIfInBounds_toArray, List.set_cons_succ, List.set_cons_zero]; exact rfl
  refine reg_take2 18 2 (v := ?_) (T' := ?_) (Later.refl _) (by kernel_rfl) (by kernel_rfl) (by kernel_rfl) (fun _ _ _ h => h) (fun o ho => ?_) ?_ ?_
  rotate_left 2
  · cases ho
    refine ⟨rfl, rfl, fun W hW => ?_⟩
    go_simp; (try with_reducible rfl)
  · simp only [List.setIfInBounds_toArray, List.set_cons_succ, List.set_cons_zero]; exact rfl
  refine reg_done (by kernel_rfl) ?_
-- DONE A
  go_wp2_with fail
  go_ret
  exact ⟨rfl, G.out⟩

-- END
set_option maxRecDepth 100000 in
theorem lifted (os : Os) (started : os.Started) (H : Type) (enc : TypeId × Value → H) :
    ReturnsInHanded {} Try.checked os 3 .any (Rows.checkSumsSpec.pre6 enc Try.prog Try.f3 Rows.checkSumsRow.domain false) (Rows.checkSumsSpec.post enc Try.prog Try.f3 false true false false) := by
  refine returnsInHanded_of_change (C := Try.checked) Try.own started (by kernel_rfl) Try.func3
    (ChangeSpec.witness6 (enc := enc) (C := Try.checked) false ⟨#[], #[.slice none 0 0], []⟩ 8 (by kernel_rfl) (by kernel_rfl) (by kernel_rfl) (by kernel_rfl)) ?_
  intro W base args ds gs before hval0 hW _ _
  have hval : ∀ (j : Nat) t v, Try.f3.params[j]? = some t → args[j]? = some v → Value.okWide Try.prog W .any base t v := hval0
  have hW' := hW
  obtain ⟨p, q, hA0, hV, rfl, _, _⟩ := hW
  have hA : DataW.TrodAll enc Try.prog W 0 (fun _ => true) true Try.f3.params.toList args.toList ds p := hA0
  rw [Try.params3] at hA hval
  obtain ⟨v0, d0, rfl, rfl, h0⟩ := trodAll_one hA
  obtain ⟨rfl, rfl⟩ := trodVars_none hV
  have hlt : ∀ x ∈ p, x.block < W.heap.size := fun x hx => by simpa using hW'.lt x (by simpa using hx)
  obtain ⟨a0, r0⟩ := open_bytes (hval 0 _ v0 rfl rfl) h0 (fun x hx => by simpa using hlt x (by simp [hx]))
  refine (walk _ _ _ r0).mono fun e W' ⟨he, hb⟩ => ⟨_, he, ?_⟩
  exact law_post Try.laidOut (by decide +kernel) rfl Try.underlying4 rfl hW' rfl hb

theorem holds : Rows.CheckSumsSaid :=
  OpenClaim.holds_of_wide 3 Try.f3 rfl rfl rfl rfl rfl rfl rfl ⟨rfl, rfl, rfl, rfl, rfl⟩ rfl rfl rfl rfl rfl (by kernel_rfl) Try.func3 (by kernel_rfl)
    (of_decide_eq_true (by kernel_rfl)) (by unfold Func.isWrapper; first | (rw [if_pos (by decide +kernel)]; kernel_rfl) | (rw [if_neg (by decide +kernel)]; exact ⟨rfl, rfl⟩))
    (fun os started H enc _ => lifted os started H enc)
end Go.Proofs.Ytdpjohehmbddnaa.L01
