/- Layer 5, the project's: a rectangle of spans, a turned one, its sides, points, area. -/
import Derived.Test.YtjfneppjdgfecaaEh
import Derived.Test.YtjfneppjdgfecaaEb
import Derived.Test.YtjfneppjdgfecaaBregk
namespace Go.Proofs.Ytjfneppjdgfecaa
open Go.RowKit
set_option linter.unusedVariables false
attribute [local go_sem] sto_cx

theorem results_ttc {fn : Func} {p q u : Tmp} {ty : TypeId} (h : fn.results = #[.tmp p, .tmp q, .cell u ty]) (tmps : Array Value) (P : Program) (w : World) :
    (results fn tmps).run P w = ((asAddr (tmps.getD u undef)).run P w).andThen fun a w₁ => ((loadVar ty a).run P w₁).andThen fun v w₂ => .ok (.tuple #[tmps.getD p undef, tmps.getD q undef, v]) w₂ := by
  simp only [results, h]
  simp [Sem.run_bind, Result.andThen]

set_option maxHeartbeats 2000000 in
theorem p_rect (s t : Sp) (w : World) :
    Calls Try.prog 31 #[spV s, spV t] w fun e w' => e = .returned (reC (s, t)) ∧ Below w.heap.size w w' := by
  have HP := Lib.hid p_point
  obtain ⟨a, b⟩ := s
  obtain ⟨c, d⟩ := t
  unfold spV reC
  simp only
  have B0 := Lib.hid (((Box.new w #[.int .i64 a, .int .i64 b] 23 _ rfl).alloc (.cells #[.int .i64 c, .int .i64 d] 23)).alloc (.cells #[.complex .f64 0 0, .complex .f64 0 0] 28))
  have B1 := Lib.hid ((Box.new (w.alloc (.cells #[.int .i64 a, .int .i64 b] 23)) #[.int .i64 c, .int .i64 d] 23 (w.heap.size + 1) (by simp)).alloc (.cells #[.complex .f64 0 0, .complex .f64 0 0] 28))
  have B2 := Lib.hid (Box.new ((w.alloc (.cells #[.int .i64 a, .int .i64 b] 23)).alloc (.cells #[.int .i64 c, .int .i64 d] 23)) #[.complex .f64 0 0, .complex .f64 0 0] 28 (w.heap.size + 1 + 1) (by simp))
  have G := Lib.hid (((alloc_below w (.cells #[.int .i64 a, .int .i64 b] 23)).alloc (by simp) (.cells #[.int .i64 c, .int .i64 d] 23)).alloc (by simp; omega) (.cells #[.complex .f64 0 0, .complex .f64 0 0] 28))
  go_enter Try.func31, Try.ntmps31
  go_wp2_with fail
  generalize ((w.alloc (.cells #[.int .i64 a, .int .i64 b] 23)).alloc (.cells #[.int .i64 c, .int .i64 d] 23)).alloc (.cells #[.complex .f64 0 0, .complex .f64 0 0] 28) = W0 at *
  have l0 := B0.out.lt
  have l1 := B1.out.lt
  have HI : (fun W => Below W0.heap.size W0 W) W0.drew := (Below.refl _ _).drewN 1
-- REGION A
  refine regk_start [11] (fun W => Below W0.heap.size W0 W) (by kernel_rfl) ?_
  refine regk_free 0 5 (v := ?_) (T' := ?_) (fun _ => HI) (by kernel_rfl) (by kernel_rfl) (by kernel_rfl) (by kernel_rfl) (fun _ _ _ h => h) (fun o ho => ?_) ?_ ?_
  rotate_left 2
  · cases ho
    refine ⟨rfl, rfl, fun W => ?_⟩
    go_simp; (try with_reducible rfl)
  · simp only [List.setIfInBounds_toArray, List.set_cons_succ, List.set_cons_zero]; exact rfl
  refine regk_take 1 6 (v := ?_) (T' := ?_) HI (by kernel_rfl) (by kernel_rfl) (by kernel_rfl) (by kernel_rfl) (by kernel_rfl) (by kernel_rfl) (fun _ _ _ h => h) (fun o ho => ?_) ?_ ?_
  rotate_left 2
  · cases ho
    refine ⟨rfl, rfl, fun W hW => ?_⟩
    have hV0 := (Below.cell (p := ⟨w.heap.size, 0, none⟩) (show Below W0.heap.size W0 W from hW) l0).trans (B0.out.cell 0 (.int .i64 a) rfl)
    go_simp; (try with_reducible rfl)
  · simp only [List.setIfInBounds_toArray, List.set_cons_succ, List.set_cons_zero]; exact rfl
  refine regk_free 2 7 (v := ?_) (T' := ?_) (fun _ => HI) (by kernel_rfl) (by kernel_rfl) (by kernel_rfl) (by kernel_rfl) (fun _ _ _ h => h) (fun o ho => ?_) ?_ ?_
  rotate_left 2
  · cases ho
    refine ⟨rfl, rfl, fun W => ?_⟩
    go_simp; (try with_reducible rfl)
  · simp only [List.setIfInBounds_toArray, List.set_cons_succ, List.set_cons_zero]; exact rfl
  refine regk_take 3 8 (v := ?_) (T' := ?_) HI (by kernel_rfl) (by kernel_rfl) (by kernel_rfl) (by kernel_rfl) (by kernel_rfl) (by kernel_rfl) (fun _ _ _ h => h) (fun o ho => ?_) ?_ ?_
  rotate_left 2
  · cases ho
    refine ⟨rfl, rfl, fun W hW => ?_⟩
    have hV0 := (Below.cell (p := ⟨w.heap.size + 1, 0, none⟩) (show Below W0.heap.size W0 W from hW) l1).trans (B1.out.cell 0 (.int .i64 c) rfl)
    go_simp; (try with_reducible rfl)
  · simp only [List.setIfInBounds_toArray, List.set_cons_succ, List.set_cons_zero]; exact rfl
  refine regk_free 5 10 (v := ?_) (T' := ?_) (fun _ => HI) (by kernel_rfl) (by kernel_rfl) (by kernel_rfl) (by kernel_rfl) (fun _ _ _ h => h) (fun o ho => ?_) ?_ ?_
  rotate_left 2
  · cases ho
    refine ⟨rfl, rfl, fun W => ?_⟩
    go_simp; (try with_reducible rfl)
  · simp only [List.setIfInBounds_toArray, List.set_cons_succ, List.set_cons_zero]; exact rfl
  refine regk_take 6 11 (v := ?_) (T' := ?_) HI (by kernel_rfl) (by kernel_rfl) (by kernel_rfl) (by kernel_rfl) (by kernel_rfl) (by kernel_rfl) (fun _ _ _ h => h) (fun o ho => ?_) ?_ ?_
  rotate_left 2
  · cases ho
    refine ⟨rfl, rfl, fun W hW => ?_⟩
    have hV0 := (Below.cell (p := ⟨w.heap.size, 1, none⟩) (show Below W0.heap.size W0 W from hW) l0).trans (B0.out.cell 1 (.int .i64 b) rfl)
    go_simp; (try with_reducible rfl)
  · simp only [List.setIfInBounds_toArray, List.set_cons_succ, List.set_cons_zero]; exact rfl
  refine regk_free 7 12 (v := ?_) (T' := ?_) (fun _ => HI) (by kernel_rfl) (by kernel_rfl) (by kernel_rfl) (by kernel_rfl) (fun _ _ _ h => h) (fun o ho => ?_) ?_ ?_
  rotate_left 2
  · cases ho
    refine ⟨rfl, rfl, fun W => ?_⟩
    go_simp; (try with_reducible rfl)
  · simp only [List.setIfInBounds_toArray, List.set_cons_succ, List.set_cons_zero]; exact rfl
  refine regk_take 8 13 (v := ?_) (T' := ?_) HI (by kernel_rfl) (by kernel_rfl) (by kernel_rfl) (by kernel_rfl) (by kernel_rfl) (by kernel_rfl) (fun _ _ _ h => h) (fun o ho => ?_) ?_ ?_
  rotate_left 2
  · cases ho
    refine ⟨rfl, rfl, fun W hW => ?_⟩
    have hV0 := (Below.cell (p := ⟨w.heap.size + 1, 1, none⟩) (show Below W0.heap.size W0 W from hW) l1).trans (B1.out.cell 1 (.int .i64 d) rfl)
    go_simp; (try with_reducible rfl)
  · simp only [List.setIfInBounds_toArray, List.set_cons_succ, List.set_cons_zero]; exact rfl
  refine regk_call (I' := (fun W => Below W0.heap.size W0 W)) (fun _ h => h) 4 9 (by kernel_rfl) 34 #[.int .i64 a, .int .i64 c] (fun o ho => by cases ho; exact ⟨rfl, rfl, fun W => by go_simp⟩) ?_
  refine (HP.out a c _).mono ?_
  rintro e y1w ⟨rfl, hb1⟩
  have HI : (fun W => Below W0.heap.size W0 W) y1w := (show Below W0.heap.size W0 _ from HI).trans (hb1.mono (show Below W0.heap.size W0 _ from HI).size)
  refine ⟨_, _, rfl, fun _ => HI, (by simp only [List.setIfInBounds_toArray, List.set_cons_succ, List.set_cons_zero]; exact rfl), ?_⟩
  refine regk_call (I' := (fun W => Below W0.heap.size W0 W)) (fun _ h => h) 9 14 (by kernel_rfl) 34 #[.int .i64 b, .int .i64 d] (fun o ho => by cases ho; exact ⟨rfl, rfl, fun W => by go_simp⟩) ?_
  refine (HP.out b d _).mono ?_
  rintro e y2w ⟨rfl, hb2⟩
  have HI : (fun W => Below W0.heap.size W0 W) y2w := (show Below W0.heap.size W0 _ from HI).trans (hb2.mono (show Below W0.heap.size W0 _ from HI).size)
  have BZ := Lib.hid ((B2.out.later (show Below W0.heap.size W0 _ from HI)))
  have f0 := BZ.out.frozen 0
  have f1 := BZ.out.frozen 1
  have z0 := BZ.out.cell 0 _ rfl
  have z1 := BZ.out.cell 1 _ rfl
  have GY := Lib.hid (G.out.trans ((show Below W0.heap.size W0 _ from HI).mono G.out.size))
  refine ⟨_, _, rfl, fun _ => HI, (by simp only [List.setIfInBounds_toArray, List.set_cons_succ, List.set_cons_zero]; exact rfl), ?_⟩
  refine regk_free 10 15 (v := ?_) (T' := ?_) (fun _ => HI) (by kernel_rfl) (by kernel_rfl) (by kernel_rfl) (by kernel_rfl) (fun _ _ _ h => h) (fun o ho => ?_) ?_ ?_
  rotate_left 2
  · cases ho
    refine ⟨rfl, rfl, fun W => ?_⟩
    go_simp; (try with_reducible rfl)
  · simp only [List.setIfInBounds_toArray, List.set_cons_succ, List.set_cons_zero]; exact rfl
  refine regk_store (I' := (fun W => Below W0.heap.size W0 W)) (fun _ h => h) 11 (w' := ((y2w.setCell ⟨w.heap.size + 1 + 1, 0, none⟩ (.complex .f64 (fw a) (fw c))).setCell ⟨w.heap.size + 1 + 1, 1, none⟩ (.complex .f64 (fw b) (fw d)))) (by kernel_rfl) (fun o ho => ?_) (noB_no (by kernel_rfl)) ?_
  · cases ho
    refine ⟨rfl, rfl, ?_⟩
    go_simp; (try with_reducible rfl)
  have GZ := Lib.hid ((GY.out.setCell (p := ⟨w.heap.size + 1 + 1, 0, none⟩) (by simp only; omega) (.complex .f64 (fw a) (fw c))).setCell (p := ⟨w.heap.size + 1 + 1, 1, none⟩) (by simp only; omega) (.complex .f64 (fw b) (fw d)))
  refine regk_done (by kernel_rfl) ?_
-- DONE A
  go_wp2_with fail
  refine bodyPost_ret (v := .agg #[.complex .f64 (fw a) (fw c), .complex .f64 (fw b) (fw d)]) ?_ rfl ⟨rfl, ?_⟩
  · rw [results_cell1 rfl]
    go_simp
  · exact GZ.out

set_option maxHeartbeats 2000000 in
theorem p_turn {v : Value} {r : Re} (hv : Rc v r) (hr : okR r) (w : World) :
    Calls Try.prog 14 #[v] w fun e w' => ∃ v', e = .returned v' ∧ Rc v' (rTurn r) ∧ Below w.heap.size w w' := by
  obtain ⟨a, b, c, d, rfl, ha, hb, hc, hd⟩ := hv
  obtain ⟨k1, k2, k3, k4⟩ := okR_bounds hr
  have T1 := Lib.hid (fun w => p_turnc ha hb k1 k3 w)
  have T2 := Lib.hid (fun w => p_turnc hc hd k2 k4 w)
  have hrt := Lib.hid (show rTurn r = (r.2, r.1) from rfl)
  obtain ⟨⟨x1, x2⟩, ⟨y1, y2⟩⟩ := r
  simp only at T1 T2
  clear ha hb hc hd k1 k2 k3 k4 hr
  have B0 := Lib.hid ((Box.new w #[.complex .f64 a b, .complex .f64 c d] 28 _ rfl).alloc (.cells #[.complex .f64 0 0, .complex .f64 0 0] 28))
  have B1 := Lib.hid (Box.new (w.alloc (.cells #[.complex .f64 a b, .complex .f64 c d] 28)) #[.complex .f64 0 0, .complex .f64 0 0] 28 (w.heap.size + 1) (by simp))
  have G := Lib.hid ((alloc_below w (.cells #[.complex .f64 a b, .complex .f64 c d] 28)).alloc (by simp) (.cells #[.complex .f64 0 0, .complex .f64 0 0] 28))
  go_enter Try.func14, Try.ntmps14
  go_wp2_with fail
  generalize (w.alloc (.cells #[.complex .f64 a b, .complex .f64 c d] 28)).alloc (.cells #[.complex .f64 0 0, .complex .f64 0 0] 28) = W0 at *
  have l0 := B0.out.lt
  have HI : (fun W => Below W0.heap.size W0 W) W0.drew := (Below.refl _ _).drewN 1
-- REGION B
  refine regk_start [7] (fun W => Below W0.heap.size W0 W) (by kernel_rfl) ?_
  refine regk_free 0 3 (v := ?_) (T' := ?_) (fun _ => HI) (by kernel_rfl) (by kernel_rfl) (by kernel_rfl) (by kernel_rfl) (fun _ _ _ h => h) (fun o ho => ?_) ?_ ?_
  rotate_left 2
  · cases ho
    refine ⟨rfl, rfl, fun W => ?_⟩
    go_simp; (try with_reducible rfl)
  · simp only [List.setIfInBounds_toArray, List.set_cons_succ, List.set_cons_zero]; exact rfl
  refine regk_take 1 4 (v := ?_) (T' := ?_) HI (by kernel_rfl) (by kernel_rfl) (by kernel_rfl) (by kernel_rfl) (by kernel_rfl) (by kernel_rfl) (fun _ _ _ h => h) (fun o ho => ?_) ?_ ?_
  rotate_left 2
  · cases ho
    refine ⟨rfl, rfl, fun W hW => ?_⟩
    have hV0 := (Below.cell (p := ⟨w.heap.size, 0, none⟩) (show Below W0.heap.size W0 W from hW) l0).trans (B0.out.cell 0 (.complex .f64 a b) rfl)
    go_simp; (try with_reducible rfl)
  · simp only [List.setIfInBounds_toArray, List.set_cons_succ, List.set_cons_zero]; exact rfl
  refine regk_free 3 6 (v := ?_) (T' := ?_) (fun _ => HI) (by kernel_rfl) (by kernel_rfl) (by kernel_rfl) (by kernel_rfl) (fun _ _ _ h => h) (fun o ho => ?_) ?_ ?_
  rotate_left 2
  · cases ho
    refine ⟨rfl, rfl, fun W => ?_⟩
    go_simp; (try with_reducible rfl)
  · simp only [List.setIfInBounds_toArray, List.set_cons_succ, List.set_cons_zero]; exact rfl
  refine regk_take 4 7 (v := ?_) (T' := ?_) HI (by kernel_rfl) (by kernel_rfl) (by kernel_rfl) (by kernel_rfl) (by kernel_rfl) (by kernel_rfl) (fun _ _ _ h => h) (fun o ho => ?_) ?_ ?_
  rotate_left 2
  · cases ho
    refine ⟨rfl, rfl, fun W hW => ?_⟩
    have hV0 := (Below.cell (p := ⟨w.heap.size, 1, none⟩) (show Below W0.heap.size W0 W from hW) l0).trans (B0.out.cell 1 (.complex .f64 c d) rfl)
    go_simp; (try with_reducible rfl)
  · simp only [List.setIfInBounds_toArray, List.set_cons_succ, List.set_cons_zero]; exact rfl
  refine regk_call (I' := (fun W => Below W0.heap.size W0 W)) (fun _ h => h) 2 5 (by kernel_rfl) 28 #[.complex .f64 a b] (fun o ho => by cases ho; exact ⟨rfl, rfl, fun W => by go_simp⟩) ?_
  refine (T1.out _).mono ?_
  rintro e y1w ⟨p1, q1, rfl, hp1, hq1, hb1⟩
  have HI : (fun W => Below W0.heap.size W0 W) y1w := (show Below W0.heap.size W0 _ from HI).trans (hb1.mono (show Below W0.heap.size W0 _ from HI).size)
  have hp1 := Lib.hid hp1
  have hq1 := Lib.hid hq1
  refine ⟨_, _, rfl, fun _ => HI, (by simp only [List.setIfInBounds_toArray, List.set_cons_succ, List.set_cons_zero]; exact rfl), ?_⟩
  refine regk_call (I' := (fun W => Below W0.heap.size W0 W)) (fun _ h => h) 5 8 (by kernel_rfl) 28 #[.complex .f64 c d] (fun o ho => by cases ho; exact ⟨rfl, rfl, fun W => by go_simp⟩) ?_
  refine (T2.out _).mono ?_
  rintro e y2w ⟨p2, q2, rfl, hp2, hq2, hb2⟩
  have HI : (fun W => Below W0.heap.size W0 W) y2w := (show Below W0.heap.size W0 _ from HI).trans (hb2.mono (show Below W0.heap.size W0 _ from HI).size)
  have hp2 := Lib.hid hp2
  have hq2 := Lib.hid hq2
  have BZ := Lib.hid ((B1.out.later (show Below W0.heap.size W0 _ from HI)))
  have f0 := BZ.out.frozen 0
  have f1 := BZ.out.frozen 1
  have z0 := BZ.out.cell 0 _ rfl
  have z1 := BZ.out.cell 1 _ rfl
  have GY := Lib.hid (G.out.trans ((show Below W0.heap.size W0 _ from HI).mono G.out.size))
  refine ⟨_, _, rfl, fun _ => HI, (by simp only [List.setIfInBounds_toArray, List.set_cons_succ, List.set_cons_zero]; exact rfl), ?_⟩
  refine regk_free 6 9 (v := ?_) (T' := ?_) (fun _ => HI) (by kernel_rfl) (by kernel_rfl) (by kernel_rfl) (by kernel_rfl) (fun _ _ _ h => h) (fun o ho => ?_) ?_ ?_
  rotate_left 2
  · cases ho
    refine ⟨rfl, rfl, fun W => ?_⟩
    go_simp; (try with_reducible rfl)
  · simp only [List.setIfInBounds_toArray, List.set_cons_succ, List.set_cons_zero]; exact rfl
  refine regk_store (I' := (fun W => Below W0.heap.size W0 W)) (fun _ h => h) 7 (w' := ((y2w.setCell ⟨w.heap.size + 1, 0, none⟩ (.complex .f64 p1 q1)).setCell ⟨w.heap.size + 1, 1, none⟩ (.complex .f64 p2 q2))) (by kernel_rfl) (fun o ho => ?_) (noB_no (by kernel_rfl)) ?_
  · cases ho
    refine ⟨rfl, rfl, ?_⟩
    go_simp; (try with_reducible rfl)
  have GZ := Lib.hid ((GY.out.setCell (p := ⟨w.heap.size + 1, 0, none⟩) (by simp only; omega) (.complex .f64 p1 q1)).setCell (p := ⟨w.heap.size + 1, 1, none⟩) (by simp only; omega) (.complex .f64 p2 q2))
  refine regk_done (by kernel_rfl) ?_
-- DONE B
  go_wp2_with fail
  refine bodyPost_ret (v := .agg #[.complex .f64 p1 q1, .complex .f64 p2 q2]) ?_ rfl ⟨_, rfl, ⟨_, _, _, _, rfl, ?_, ?_, ?_, ?_⟩, ?_⟩
  · rw [results_cell1 rfl]
    go_simp
  · rw [hrt.out]; exact hp1.out
  · rw [hrt.out]; exact hq1.out
  · rw [hrt.out]; exact hp2.out
  · rw [hrt.out]; exact hq2.out
  · exact GZ.out

set_option maxHeartbeats 2000000 in
theorem p_sides {v : Value} {r : Re} (hv : Rc v r) (hr : okR r) (w : World) :
    Calls Try.prog 23 #[v] w fun e w' => e = .returned (.tuple #[.int .i64 r.1.1, .int .i64 r.1.2, spV r.2]) ∧ Below w.heap.size w w' := by
  have E1 := Lib.hid (fun w => p_epochs hv hr w)
  have E2 := Lib.hid (fun w => p_times hv hr w)
  obtain ⟨a, b, c, d, rfl, ha, hb, hc, hd⟩ := hv
  clear ha hb hc hd hr
  obtain ⟨⟨x1, x2⟩, ⟨y1, y2⟩⟩ := r
  unfold spV at *
  simp only at E1 E2 ⊢
  have B0 := Lib.hid ((Box.new w #[.complex .f64 a b, .complex .f64 c d] 28 _ rfl).alloc (.cells #[.int .i64 0, .int .i64 0] 23))
  have B1 := Lib.hid (Box.new (w.alloc (.cells #[.complex .f64 a b, .complex .f64 c d] 28)) #[.int .i64 0, .int .i64 0] 23 (w.heap.size + 1) (by simp))
  have G := Lib.hid ((alloc_below w (.cells #[.complex .f64 a b, .complex .f64 c d] 28)).alloc (by simp) (.cells #[.int .i64 0, .int .i64 0] 23))
  go_enter Try.func23, Try.ntmps23
  go_wp2_with fail
  generalize (w.alloc (.cells #[.complex .f64 a b, .complex .f64 c d] 28)).alloc (.cells #[.int .i64 0, .int .i64 0] 23) = W0 at *
  refine (E1.out _).mono ?_
  rintro e w1 ⟨rfl, hb1⟩
  have B0 := Lib.hid ((B0.out.later hb1).alloc (.cells #[.int .i64 x1, .int .i64 x2] 23))
  have B1 := Lib.hid ((B1.out.later hb1).alloc (.cells #[.int .i64 x1, .int .i64 x2] 23))
  have B2 := Lib.hid (Box.new w1 #[.int .i64 x1, .int .i64 x2] 23 _ rfl)
  have G := Lib.hid ((G.out.trans (hb1.mono G.out.size)).alloc (G.out.trans (hb1.mono G.out.size)).size (.cells #[.int .i64 x1, .int .i64 x2] 23))
  clear hb1
  go_wp2_with fail
  generalize w1.alloc (.cells #[.int .i64 x1, .int .i64 x2] 23) = W1 at *
  have l0 := B0.out.lt
  have l2 := B2.out.lt
  have HI : (fun W => Below W1.heap.size W1 W) W1.drew := (Below.refl _ _).drewN 1
-- REGION C
  refine regk_start [8] (fun W => Below W1.heap.size W1 W) (by kernel_rfl) ?_
  refine regk_free 0 8 (v := ?_) (T' := ?_) (fun _ => HI) (by kernel_rfl) (by kernel_rfl) (by kernel_rfl) (by kernel_rfl) (fun _ _ _ h => h) (fun o ho => ?_) ?_ ?_
  rotate_left 2
  · cases ho
    refine ⟨rfl, rfl, fun W => ?_⟩
    go_simp; (try with_reducible rfl)
  · simp only [List.setIfInBounds_toArray, List.set_cons_succ, List.set_cons_zero]; exact rfl
  refine regk_take 1 9 (v := ?_) (T' := ?_) HI (by kernel_rfl) (by kernel_rfl) (by kernel_rfl) (by kernel_rfl) (by kernel_rfl) (by kernel_rfl) (fun _ _ _ h => h) (fun o ho => ?_) ?_ ?_
  rotate_left 2
  · cases ho
    refine ⟨rfl, rfl, fun W hW => ?_⟩
    have hV0 := (Below.cell (p := ⟨w1.heap.size, 0, none⟩) (show Below W1.heap.size W1 W from hW) l2).trans (B2.out.cell 0 (.int .i64 x1) rfl)
    go_simp; (try with_reducible rfl)
  · simp only [List.setIfInBounds_toArray, List.set_cons_succ, List.set_cons_zero]; exact rfl
  refine regk_free 2 10 (v := ?_) (T' := ?_) (fun _ => HI) (by kernel_rfl) (by kernel_rfl) (by kernel_rfl) (by kernel_rfl) (fun _ _ _ h => h) (fun o ho => ?_) ?_ ?_
  rotate_left 2
  · cases ho
    refine ⟨rfl, rfl, fun W => ?_⟩
    go_simp; (try with_reducible rfl)
  · simp only [List.setIfInBounds_toArray, List.set_cons_succ, List.set_cons_zero]; exact rfl
  refine regk_take 3 11 (v := ?_) (T' := ?_) HI (by kernel_rfl) (by kernel_rfl) (by kernel_rfl) (by kernel_rfl) (by kernel_rfl) (by kernel_rfl) (fun _ _ _ h => h) (fun o ho => ?_) ?_ ?_
  rotate_left 2
  · cases ho
    refine ⟨rfl, rfl, fun W hW => ?_⟩
    have hV0 := (Below.cell (p := ⟨w1.heap.size, 1, none⟩) (show Below W1.heap.size W1 W from hW) l2).trans (B2.out.cell 1 (.int .i64 x2) rfl)
    go_simp; (try with_reducible rfl)
  · simp only [List.setIfInBounds_toArray, List.set_cons_succ, List.set_cons_zero]; exact rfl
  refine regk_take 4 12 (v := ?_) (T' := ?_) HI (by kernel_rfl) (by kernel_rfl) (by kernel_rfl) (by kernel_rfl) (by kernel_rfl) (by kernel_rfl) (fun _ _ _ h => h) (fun o ho => ?_) ?_ ?_
  rotate_left 2
  · cases ho
    refine ⟨rfl, rfl, fun W hW => ?_⟩
    have hV0 := (Below.cell (p := ⟨w.heap.size, 0, none⟩) (show Below W1.heap.size W1 W from hW) l0).trans (B0.out.cell 0 (.complex .f64 a b) rfl)
    have hV1 := (Below.cell (p := ⟨w.heap.size, 1, none⟩) (show Below W1.heap.size W1 W from hW) l0).trans (B0.out.cell 1 (.complex .f64 c d) rfl)
    go_simp; (try with_reducible rfl)
  · simp only [List.setIfInBounds_toArray, List.set_cons_succ, List.set_cons_zero]; exact rfl
  refine regk_call (I' := (fun W => Below W1.heap.size W1 W)) (fun _ h => h) 5 13 (by kernel_rfl) 26 #[.agg #[.complex .f64 a b, .complex .f64 c d]] (fun o ho => by cases ho; exact ⟨rfl, rfl, fun W => by go_simp⟩) ?_
  refine (E2.out _).mono ?_
  rintro e y2w ⟨rfl, hb2⟩
  have HI : (fun W => Below W1.heap.size W1 W) y2w := (show Below W1.heap.size W1 _ from HI).trans (hb2.mono (show Below W1.heap.size W1 _ from HI).size)
  have BZ := Lib.hid ((B1.out.later (show Below W1.heap.size W1 _ from HI)))
  have f0 := BZ.out.frozen 0
  have f1 := BZ.out.frozen 1
  have z0 := BZ.out.cell 0 _ rfl
  have z1 := BZ.out.cell 1 _ rfl
  have GY := Lib.hid (G.out.trans ((show Below W1.heap.size W1 _ from HI).mono G.out.size))
  refine ⟨_, _, rfl, fun _ => HI, (by simp only [List.setIfInBounds_toArray, List.set_cons_succ, List.set_cons_zero]; exact rfl), ?_⟩
  refine regk_free 6 2 (v := ?_) (T' := ?_) (fun _ => HI) (by kernel_rfl) (by kernel_rfl) (by kernel_rfl) (by kernel_rfl) (fun _ _ _ h => h) (fun o ho => ?_) ?_ ?_
  rotate_left 2
  · cases ho
    refine ⟨rfl, rfl, fun W => ?_⟩
    go_simp; (try with_reducible rfl)
  · simp only [List.setIfInBounds_toArray, List.set_cons_succ, List.set_cons_zero]; exact rfl
  refine regk_free 7 3 (v := ?_) (T' := ?_) (fun _ => HI) (by kernel_rfl) (by kernel_rfl) (by kernel_rfl) (by kernel_rfl) (fun _ _ _ h => h) (fun o ho => ?_) ?_ ?_
  rotate_left 2
  · cases ho
    refine ⟨rfl, rfl, fun W => ?_⟩
    go_simp; (try with_reducible rfl)
  · simp only [List.setIfInBounds_toArray, List.set_cons_succ, List.set_cons_zero]; exact rfl
  refine regk_store (I' := (fun W => Below W1.heap.size W1 W)) (fun _ h => h) 8 (w' := ((y2w.setCell ⟨w.heap.size + 1, 0, none⟩ (.int .i64 y1)).setCell ⟨w.heap.size + 1, 1, none⟩ (.int .i64 y2))) (by kernel_rfl) (fun o ho => ?_) (noB_no (by kernel_rfl)) ?_
  · cases ho
    refine ⟨rfl, rfl, ?_⟩
    go_simp; (try with_reducible rfl)
  have GZ := Lib.hid ((GY.out.setCell (p := ⟨w.heap.size + 1, 0, none⟩) (by simp only; omega) (.int .i64 y1)).setCell (p := ⟨w.heap.size + 1, 1, none⟩) (by simp only; omega) (.int .i64 y2))
  refine regk_done (by kernel_rfl) ?_
-- DONE C
  go_wp2_with fail
  refine bodyPost_ret (v := .tuple #[.int .i64 x1, .int .i64 x2, .agg #[.int .i64 y1, .int .i64 y2]]) ?_ rfl ⟨rfl, ?_⟩
  · rw [results_ttc rfl]
    go_simp
  · exact GZ.out

set_option maxHeartbeats 2000000 in
theorem p_rhas {v : Value} {r : Re} (hv : Rc v r) (hr : okR r) (x t : Int) (w : World) :
    Calls Try.prog 11 #[v, .int .i64 x, .int .i64 t] w fun e w' => e = .returned (.bool (rHas r x t)) ∧ Below w.heap.size w w' := by
  have E1 := Lib.hid (fun w => p_epochs hv hr w)
  have E2 := Lib.hid (fun w => p_times hv hr w)
  have M1 := Lib.hid (fun w => p_has r.1 x w)
  have M2 := Lib.hid (fun w => p_has r.2 t w)
  have hh := Lib.hid (show rHas r x t = (hasB r.1 x && hasB r.2 t) from rfl)
  obtain ⟨a, b, c, d, rfl, ha, hb, hc, hd⟩ := hv
  clear ha hb hc hd hr
  generalize hasB r.1 x = m1 at *
  generalize hasB r.2 t = m2 at *
  generalize rHas r x t = res at *
  obtain ⟨⟨x1, x2⟩, ⟨y1, y2⟩⟩ := r
  unfold spV at *
  simp only at E1 E2 M1 M2
  have B0 := Lib.hid (Box.new w #[.complex .f64 a b, .complex .f64 c d] 28 _ rfl)
  have G := Lib.hid (alloc_below w (.cells #[.complex .f64 a b, .complex .f64 c d] 28))
  go_enter Try.func11, Try.ntmps11
  go_wp2_with fail
  generalize w.alloc (.cells #[.complex .f64 a b, .complex .f64 c d] 28) = W0 at *
  refine (E1.out _).mono ?_
  rintro e w1 ⟨rfl, hb1⟩
  have B0 := Lib.hid (B0.out.later hb1)
  have G := Lib.hid (G.out.trans (hb1.mono G.out.size))
  clear hb1
  go_wp2_with fail
  refine (M1.out _).mono ?_
  rintro e w2 ⟨rfl, hb2⟩
  have B0 := Lib.hid (B0.out.later hb2)
  have G := Lib.hid (G.out.trans (hb2.mono G.out.size))
  clear hb2
  have c0 := B0.out.cell 0 (.complex .f64 a b) rfl
  have c1 := B0.out.cell 1 (.complex .f64 c d) rfl
  cases m1
  · go_wp2_with fail
    go_ret
    exact ⟨ret_bool (by rw [hh.out]; rfl), G.out⟩
  · go_wp2_with fail
    refine (E2.out _).mono ?_
    rintro e w3 ⟨rfl, hb3⟩
    have G := Lib.hid (G.out.trans (hb3.mono G.out.size))
    clear hb3 c0 c1
    go_wp2_with fail
    refine (M2.out _).mono ?_
    rintro e w4 ⟨rfl, hb4⟩
    have G := Lib.hid (G.out.trans (hb4.mono G.out.size))
    clear hb4
    go_wp2_with fail
    go_ret
    exact ⟨ret_bool (by rw [hh.out]; rfl), G.out⟩

set_option maxHeartbeats 2000000 in
theorem p_of (a b : Int) (s : Sp) (w : World) :
    Calls Try.prog 21 #[.int .i64 a, .int .i64 b, spV s] w fun e w' => e = .returned (.tuple #[reC (orZ ((a, b), s)), .bool (rMay ((a, b), s))]) ∧ Below w.heap.size w w' := by
  have M1 := Lib.hid (fun w => p_may (a, b) w)
  have M2 := Lib.hid (fun w => p_may s w)
  have MR := Lib.hid (fun w => p_rect (a, b) s w)
  have hy := Lib.hid (show rMay ((a, b), s) = true → orZ ((a, b), s) = ((a, b), s) from fun h => if_pos h)
  have hn := Lib.hid (show rMay ((a, b), s) = false → orZ ((a, b), s) = r0 from fun h => if_neg (by simp [h]))
  have hh := Lib.hid (show rMay ((a, b), s) = (mayB (a, b) && mayB s) from rfl)
  have hz := Lib.hid (show reC r0 = .agg #[.complex .f64 0 0, .complex .f64 0 0] from by unfold reC r0; simp only [fw_zero])
  have hre : ∀ r : Re, reC r = .agg #[.complex .f64 (fw r.1.1) (fw r.2.1), .complex .f64 (fw r.1.2) (fw r.2.2)] := fun _ => rfl
  obtain ⟨c, d⟩ := s
  rw [hre] at MR
  generalize rMay ((a, b), (c, d)) = m at *
  generalize orZ ((a, b), (c, d)) = r at *
  generalize mayB (a, b) = m1 at *
  generalize mayB (c, d) = m2 at *
  unfold spV at *
  simp only at MR
  clear hre
  have B0 := Lib.hid ((Box.new w #[.int .i64 c, .int .i64 d] 23 _ rfl).alloc (.cells #[.complex .f64 0 0, .complex .f64 0 0] 28))
  have B1 := Lib.hid (Box.new (w.alloc (.cells #[.int .i64 c, .int .i64 d] 23)) #[.complex .f64 0 0, .complex .f64 0 0] 28 (w.heap.size + 1) (by simp))
  have G := Lib.hid ((alloc_below w (.cells #[.int .i64 c, .int .i64 d] 23)).alloc (by simp) (.cells #[.complex .f64 0 0, .complex .f64 0 0] 28))
  have B0 := Lib.hid (B0.out.alloc (.cells #[.int .i64 a, .int .i64 b] 23))
  have B1 := Lib.hid (B1.out.alloc (.cells #[.int .i64 a, .int .i64 b] 23))
  have B2 := Lib.hid (Box.new ((w.alloc (.cells #[.int .i64 c, .int .i64 d] 23)).alloc (.cells #[.complex .f64 0 0, .complex .f64 0 0] 28)) #[.int .i64 a, .int .i64 b] 23 (w.heap.size + 1 + 1) (by simp))
  have G := Lib.hid (G.out.alloc G.out.size (.cells #[.int .i64 a, .int .i64 b] 23))
  go_enter Try.func21, Try.ntmps21
  go_wp2_with fail
  generalize ((w.alloc (.cells #[.int .i64 c, .int .i64 d] 23)).alloc (.cells #[.complex .f64 0 0, .complex .f64 0 0] 28)).alloc (.cells #[.int .i64 a, .int .i64 b] 23) = W0 at *
  refine (M1.out _).mono ?_
  rintro e w1 ⟨rfl, hb1⟩
  have B0 := Lib.hid (B0.out.later hb1)
  have B1 := Lib.hid (B1.out.later hb1)
  have B2 := Lib.hid (B2.out.later hb1)
  have G := Lib.hid (G.out.trans (hb1.mono G.out.size))
  clear hb1
  have c00 := B0.out.cell 0 (.int .i64 c) rfl
  have c01 := B0.out.cell 1 (.int .i64 d) rfl
  have f0 := B1.out.frozen 0
  have f1 := B1.out.frozen 1
  have z0 := B1.out.cell 0 (.complex .f64 0 0) rfl
  have z1 := B1.out.cell 1 (.complex .f64 0 0) rfl
  cases m1
  · have hr := hn.out hh.out
    have hm := hh.out
    subst hr
    simp only [Bool.false_and] at hm
    subst hm
    have GZ := Lib.hid ((G.out.setCell (p := ⟨w.heap.size + 1, 0, none⟩) (by simp only; omega) (.complex .f64 0 0)).setCell (p := ⟨w.heap.size + 1, 1, none⟩) (by simp only; omega) (.complex .f64 0 0))
    go_wp2_with fail
    refine bodyPost_ret (v := .tuple #[.agg #[.complex .f64 0 0, .complex .f64 0 0], .bool false]) ?_ rfl ⟨by rw [hz.out], GZ.out⟩
    rw [results_cell_tmp rfl]
    go_simp
  · clear f0 f1 z0 z1
    go_wp2_with fail
    refine (M2.out _).mono ?_
    rintro e w2 ⟨rfl, hb2⟩
    have B0 := Lib.hid (B0.out.later hb2)
    have B1 := Lib.hid (B1.out.later hb2)
    have B2 := Lib.hid (B2.out.later hb2)
    have G := Lib.hid (G.out.trans (hb2.mono G.out.size))
    clear hb2 c00 c01
    cases m2
    · have hr := hn.out hh.out
      have hm := hh.out
      subst hr
      simp only [Bool.and_false] at hm
      subst hm
      have f0 := B1.out.frozen 0
      have f1 := B1.out.frozen 1
      have z0 := B1.out.cell 0 (.complex .f64 0 0) rfl
      have z1 := B1.out.cell 1 (.complex .f64 0 0) rfl
      have GZ := Lib.hid ((G.out.setCell (p := ⟨w.heap.size + 1, 0, none⟩) (by simp only; omega) (.complex .f64 0 0)).setCell (p := ⟨w.heap.size + 1, 1, none⟩) (by simp only; omega) (.complex .f64 0 0))
      go_wp2_with fail
      refine bodyPost_ret (v := .tuple #[.agg #[.complex .f64 0 0, .complex .f64 0 0], .bool false]) ?_ rfl ⟨by rw [hz.out], GZ.out⟩
      rw [results_cell_tmp rfl]
      go_simp
    · have hr := hy.out hh.out
      have hm := hh.out
      subst hr
      simp only [Bool.and_self] at hm
      subst hm
      have c00 := B0.out.cell 0 (.int .i64 c) rfl
      have c01 := B0.out.cell 1 (.int .i64 d) rfl
      have c20 := B2.out.cell 0 (.int .i64 a) rfl
      have c21 := B2.out.cell 1 (.int .i64 b) rfl
      go_wp2_with fail
      refine (MR.out _).mono ?_
      rintro e w3 ⟨rfl, hb3⟩
      have B1 := Lib.hid (B1.out.later hb3)
      have G := Lib.hid (G.out.trans (hb3.mono G.out.size))
      clear hb3 c00 c01 c20 c21
      have f0 := B1.out.frozen 0
      have f1 := B1.out.frozen 1
      have z0 := B1.out.cell 0 (.complex .f64 0 0) rfl
      have z1 := B1.out.cell 1 (.complex .f64 0 0) rfl
      have GZ := Lib.hid ((G.out.setCell (p := ⟨w.heap.size + 1, 0, none⟩) (by simp only; omega) (.complex .f64 (fw a) (fw c))).setCell (p := ⟨w.heap.size + 1, 1, none⟩) (by simp only; omega) (.complex .f64 (fw b) (fw d)))
      go_wp2_with fail
      refine bodyPost_ret (v := .tuple #[.agg #[.complex .f64 (fw a) (fw c), .complex .f64 (fw b) (fw d)], .bool true]) ?_ rfl ⟨rfl, GZ.out⟩
      rw [results_cell_tmp rfl]
      go_simp

set_option maxHeartbeats 2000000 in
theorem p_area {v : Value} {r : Re} (hv : Rc v r) (hr : okR r) (w : World) :
    Calls Try.prog 12 #[v] w fun e w' => e = .returned (.int .i64 (rArea r)) ∧ Below w.heap.size w w' := by
  have E1 := Lib.hid (fun w => p_epochs hv hr w)
  have E2 := Lib.hid (fun w => p_times hv hr w)
  have hbo := okR_bounds hr
  have L1 := Lib.hid (fun w => p_long r.1 w hbo.1 hbo.2.1)
  have L2 := Lib.hid (fun w => p_long r.2 w hbo.2.2.1 hbo.2.2.2)
  have hle := Lib.hid (area_le r)
  have hge := Lib.hid (area_nonneg r)
  have hyes := Lib.hid (show 0 < r.2.2 - r.2.1 → rArea r = if r.1.2 - r.1.1 > 4611686018427387904 / (r.2.2 - r.2.1) then 4611686018427387904 else (r.1.2 - r.1.1) * (r.2.2 - r.2.1) from fun h => by
    rcases hr with hr | rfl
    · unfold rArea; rw [if_pos hr]
    · exact absurd h (by decide))
  have hno := Lib.hid (show ¬ 0 < r.2.2 - r.2.1 → rArea r = 0 ∧ (r.1.2 - r.1.1) * (r.2.2 - r.2.1) = 0 from fun h => by
    rcases hr with hr | rfl
    · exact absurd (mayB_iff.1 (rMay_iff.1 hr).2) (by omega)
    · decide)
  obtain ⟨a, b, c, d, rfl, ha, hb, hc, hd⟩ := hv
  clear ha hb hc hd hr
  generalize rArea r = res at *
  obtain ⟨⟨x1, x2⟩, ⟨y1, y2⟩⟩ := r
  unfold spV at *
  simp only at E1 E2 L1 L2 hyes hno hbo
  have B0 := Lib.hid (Box.new w #[.complex .f64 a b, .complex .f64 c d] 28 _ rfl)
  have G := Lib.hid (alloc_below w (.cells #[.complex .f64 a b, .complex .f64 c d] 28))
  go_enter Try.func12, Try.ntmps12
  go_wp2_with fail
  generalize w.alloc (.cells #[.complex .f64 a b, .complex .f64 c d] 28) = W0 at *
  have l0 := B0.out.lt
  have HI : (fun W => Below W0.heap.size W0 W) W0.drew := (Below.refl _ _).drewN 1
-- REGION D
  refine regk_start [] (fun W => Below W0.heap.size W0 W) (by kernel_rfl) ?_
  refine regk_take 0 5 (v := ?_) (T' := ?_) HI (by kernel_rfl) (by kernel_rfl) (by kernel_rfl) (by kernel_rfl) (by kernel_rfl) (by kernel_rfl) (fun _ _ _ h => h) (fun o ho => ?_) ?_ ?_
  rotate_left 2
  · cases ho
    refine ⟨rfl, rfl, fun W hW => ?_⟩
    have hV0 := (Below.cell (p := ⟨w.heap.size, 0, none⟩) (show Below W0.heap.size W0 W from hW) l0).trans (B0.out.cell 0 (.complex .f64 a b) rfl)
    have hV1 := (Below.cell (p := ⟨w.heap.size, 1, none⟩) (show Below W0.heap.size W0 W from hW) l0).trans (B0.out.cell 1 (.complex .f64 c d) rfl)
    go_simp; (try with_reducible rfl)
  · simp only [List.setIfInBounds_toArray, List.set_cons_succ, List.set_cons_zero]; exact rfl
  refine regk_take 3 8 (v := ?_) (T' := ?_) HI (by kernel_rfl) (by kernel_rfl) (by kernel_rfl) (by kernel_rfl) (by kernel_rfl) (by kernel_rfl) (fun _ _ _ h => h) (fun o ho => ?_) ?_ ?_
  rotate_left 2
  · cases ho
    refine ⟨rfl, rfl, fun W hW => ?_⟩
    have hV0 := (Below.cell (p := ⟨w.heap.size, 0, none⟩) (show Below W0.heap.size W0 W from hW) l0).trans (B0.out.cell 0 (.complex .f64 a b) rfl)
    have hV1 := (Below.cell (p := ⟨w.heap.size, 1, none⟩) (show Below W0.heap.size W0 W from hW) l0).trans (B0.out.cell 1 (.complex .f64 c d) rfl)
    go_simp; (try with_reducible rfl)
  · simp only [List.setIfInBounds_toArray, List.set_cons_succ, List.set_cons_zero]; exact rfl
  refine regk_call (I' := (fun W => Below W0.heap.size W0 W)) (fun _ h => h) 1 6 (by kernel_rfl) 25 #[.agg #[.complex .f64 a b, .complex .f64 c d]] (fun o ho => by cases ho; exact ⟨rfl, rfl, fun W => by go_simp⟩) ?_
  refine (E1.out _).mono ?_
  rintro e y1w ⟨rfl, hb1⟩
  have HI : (fun W => Below W0.heap.size W0 W) y1w := (show Below W0.heap.size W0 _ from HI).trans (hb1.mono (show Below W0.heap.size W0 _ from HI).size)
  refine ⟨_, _, rfl, fun _ => HI, (by simp only [List.setIfInBounds_toArray, List.set_cons_succ, List.set_cons_zero]; exact rfl), ?_⟩
  refine regk_call (I' := (fun W => Below W0.heap.size W0 W)) (fun _ h => h) 2 7 (by kernel_rfl) 27 #[.agg #[.int .i64 x1, .int .i64 x2]] (fun o ho => by cases ho; exact ⟨rfl, rfl, fun W => by go_simp⟩) ?_
  refine (L1.out _).mono ?_
  rintro e y2w ⟨rfl, hb2⟩
  have HI : (fun W => Below W0.heap.size W0 W) y2w := (show Below W0.heap.size W0 _ from HI).trans (hb2.mono (show Below W0.heap.size W0 _ from HI).size)
  refine ⟨_, _, rfl, fun _ => HI, (by simp only [List.setIfInBounds_toArray, List.set_cons_succ, List.set_cons_zero]; exact rfl), ?_⟩
  refine regk_call (I' := (fun W => Below W0.heap.size W0 W)) (fun _ h => h) 4 9 (by kernel_rfl) 26 #[.agg #[.complex .f64 a b, .complex .f64 c d]] (fun o ho => by cases ho; exact ⟨rfl, rfl, fun W => by go_simp⟩) ?_
  refine (E2.out _).mono ?_
  rintro e y3w ⟨rfl, hb3⟩
  have HI : (fun W => Below W0.heap.size W0 W) y3w := (show Below W0.heap.size W0 _ from HI).trans (hb3.mono (show Below W0.heap.size W0 _ from HI).size)
  refine ⟨_, _, rfl, fun _ => HI, (by simp only [List.setIfInBounds_toArray, List.set_cons_succ, List.set_cons_zero]; exact rfl), ?_⟩
  refine regk_call (I' := (fun W => Below W0.heap.size W0 W)) (fun _ h => h) 5 10 (by kernel_rfl) 27 #[.agg #[.int .i64 y1, .int .i64 y2]] (fun o ho => by cases ho; exact ⟨rfl, rfl, fun W => by go_simp⟩) ?_
  refine (L2.out _).mono ?_
  rintro e y4w ⟨rfl, hb4⟩
  have HI : (fun W => Below W0.heap.size W0 W) y4w := (show Below W0.heap.size W0 _ from HI).trans (hb4.mono (show Below W0.heap.size W0 _ from HI).size)
  refine ⟨_, _, rfl, fun _ => HI, (by simp only [List.setIfInBounds_toArray, List.set_cons_succ, List.set_cons_zero]; exact rfl), ?_⟩
  refine regk_free 6 3 (v := ?_) (T' := ?_) (fun _ => HI) (by kernel_rfl) (by kernel_rfl) (by kernel_rfl) (by kernel_rfl) (fun _ _ _ h => h) (fun o ho => ?_) ?_ ?_
  rotate_left 2
  · cases ho
    refine ⟨rfl, rfl, fun W => ?_⟩
    go_simp; (try with_reducible rfl)
  · simp only [List.setIfInBounds_toArray, List.set_cons_succ, List.set_cons_zero]; exact rfl
  refine regk_free 7 4 (v := ?_) (T' := ?_) (fun _ => HI) (by kernel_rfl) (by kernel_rfl) (by kernel_rfl) (by kernel_rfl) (fun _ _ _ h => h) (fun o ho => ?_) ?_ ?_
  rotate_left 2
  · cases ho
    refine ⟨rfl, rfl, fun W => ?_⟩
    go_simp; (try with_reducible rfl)
  · simp only [List.setIfInBounds_toArray, List.set_cons_succ, List.set_cons_zero]; exact rfl
  refine regk_done (by kernel_rfl) ?_
-- DONE D
  have GY := Lib.hid (G.out.trans ((show Below W0.heap.size W0 _ from HI).mono G.out.size))
  obtain ⟨⟨o1, o2⟩, ⟨o3, o4⟩, ⟨o5, o6⟩, ⟨o7, o8⟩⟩ := hbo
  go_wp2_with fail
  · rename_i h1 h2
    go_ret
    exact ⟨ret_int (by rw [hyes.out (by omega), if_pos h2]), GY.out⟩
  · rename_i h1 h2
    have e1 : res = (x2 - x1) * (y2 - y1) := by rw [hyes.out (by omega), if_neg (by omega)]
    have e2 := hle.out
    have e3 := hge.out
    go_ret
    refine ⟨ret_int ?_, GY.out⟩
    rw [← e1]
    unfold wrap64
    omega
  · rename_i h1
    obtain ⟨e1, e2⟩ := hno.out (by omega)
    go_ret
    refine ⟨ret_int ?_, GY.out⟩
    rw [e1, e2]
    unfold wrap64
    omega
end Go.Proofs.Ytjfneppjdgfecaa
