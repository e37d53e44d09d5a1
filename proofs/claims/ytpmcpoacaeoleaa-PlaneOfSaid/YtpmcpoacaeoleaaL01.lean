/- PlaneOf (P5.1): for every rectangle, whether it may be or not, and every point: what Of, Sides, Has, Area and Turn tell is what the document says. No condition. -/
import Derived.Test.YtpmcpoacaeoleaaEo
import Derived.Test.YtpmcpoacaeoleaaBlaw
namespace Go.Proofs.Ytpmcpoacaeoleaa.L01
open Go.RowKit Go.ChangeShapes Go.WideShapes Go.ChangeAt
set_option linter.unusedVariables false
attribute [local go_sem] sto_cx

set_option maxHeartbeats 4000000 in
theorem walk (r : Re) (u t : Int) (U : World) : Calls Try.prog 3 #[reV r, .int .i64 u, .int .i64 t] U fun e W' => e = .returned (.bool true) ∧ Below U.heap.size U W' := by
  have MO := Lib.hid (fun w => l_of r w)
  have MY := Lib.hid (fun w => ref5_may r w)
  have LV := Lib.hid l_lives
  have hrc := Rc.of (orZ_ok r)
  have SX := Lib.hid (fun w => l_sides hrc (orZ_ok r) w)
  have HX := Lib.hid (fun w => p_rhas hrc (orZ_ok r) u t w)
  have AX := Lib.hid (fun w => p_area hrc (orZ_ok r) w)
  have TX := Lib.hid (fun w => p_turn hrc (orZ_ok r) w)
  have RH := Lib.hid (fun w => ref5_has r u t w)
  have RA := Lib.hid (fun w => ref5_area r w)
  have hno := Lib.hid (show rMay r = false → orZ r = r0 ∧ rHas r u t = false ∧ rArea r = 0 from fun h => by
    refine ⟨if_neg (by simp [h]), ?_, ?_⟩
    · rw [← Bool.not_eq_true]; exact fun k => by have := rHas_may k; rw [h] at this; cases this
    · unfold rArea; rw [if_neg (by simp [h])])
  have hyes := Lib.hid (show rMay r = true → orZ r = r from fun h => if_pos h)
  rw [orZ_has] at HX
  rw [orZ_area] at AX
  have hre : ∀ r : Re, reC r = .agg #[.complex .f64 (fw r.1.1) (fw r.2.1), .complex .f64 (fw r.1.2) (fw r.2.2)] := fun _ => rfl
  have hrv : ∀ r : Re, reV r = .agg #[.int .i64 r.1.1, .int .i64 r.1.2, .int .i64 r.2.1, .int .i64 r.2.2] := fun _ => rfl
  rw [hre] at MO SX HX AX TX
  simp only [hrv] at MO MY SX RH RA ⊢
  clear hrc
  have TS := Lib.hid (fun (v : Value) (q : Re) (hv : Rc v q) (hq : okR q) w => l_sides hv hq w)
  have TH := Lib.hid (fun (v : Value) (q : Re) (hv : Rc v q) (hq : okR q) w => p_rhas hv hq t u w)
  have TT := Lib.hid (fun (v : Value) (q : Re) (hv : Rc v q) (hq : okR q) w => p_turn hv hq w)
  simp only [hrv] at TS
  clear hre hrv
  have BR := Lib.hid (Box.new U #[.int .i64 r.1.1, .int .i64 r.1.2, .int .i64 r.2.1, .int .i64 r.2.2] 25 _ rfl)
  have G := Lib.hid (alloc_below U (.cells #[.int .i64 r.1.1, .int .i64 r.1.2, .int .i64 r.2.1, .int .i64 r.2.2] 25))
  generalize hg1 : fw (orZ r).1.1 = g1 at *
  generalize hg2 : fw (orZ r).2.1 = g2 at *
  generalize hg3 : fw (orZ r).1.2 = g3 at *
  generalize hg4 : fw (orZ r).2.2 = g4 at *
  clear hg1 hg2 hg3 hg4
  generalize ho : orZ r = o at *
  have ROo := Lib.hid (show okR o from ho ▸ orZ_ok r)
  have hht := Lib.hid (show rHas (rTurn r) t u = rHas r u t from by unfold rHas rTurn; rw [Bool.and_comm])
  clear ho
  generalize rHas r u t = hx at *
  generalize rArea r = ar at *
  generalize hm : rMay r = m at *
  obtain ⟨⟨a, b⟩, ⟨c, d⟩⟩ := r
  simp only at *
  go_enter Try.func3, Try.ntmps3
  go_wp2_with fail
  generalize U.alloc (.cells #[.int .i64 a, .int .i64 b, .int .i64 c, .int .i64 d] 25) = W0 at *
  refine (MO.out _).mono ?_
  rintro e w1 ⟨rfl, hb1⟩
  have BX := Lib.hid (Box.new w1 #[.complex .f64 g1 g2, .complex .f64 g3 g4] 28 _ rfl)
  have BR := Lib.hid ((BR.out.later hb1).alloc (.cells #[.complex .f64 g1 g2, .complex .f64 g3 g4] 28))
  have G1 := Lib.hid (G.out.trans (hb1.mono G.out.size))
  have G := Lib.hid (G1.out.alloc G1.out.size (.cells #[.complex .f64 g1 g2, .complex .f64 g3 g4] 28))
  clear hb1 G1
  have c0 := BR.out.cell 0 (.int .i64 a) rfl
  have c1 := BR.out.cell 1 (.int .i64 b) rfl
  have c2 := BR.out.cell 2 (.int .i64 c) rfl
  have c3 := BR.out.cell 3 (.int .i64 d) rfl
  go_wp2_with fail
  generalize w1.alloc (.cells #[.complex .f64 g1 g2, .complex .f64 g3 g4] 28) = W1 at *
  generalize w1.heap.size = nx at *
  refine (MY.out _).mono ?_
  rintro e w2 ⟨rfl, hb2⟩
  have BX := Lib.hid (BX.out.later hb2)
  have BR := Lib.hid (BR.out.later hb2)
  have G := Lib.hid (G.out.trans (hb2.mono G.out.size))
  clear hb2 c0 c1 c2 c3
  have c0 := BX.out.cell 0 (.complex .f64 g1 g2) rfl
  have c1 := BX.out.cell 1 (.complex .f64 g3 g4) rfl
  cases m
  · obtain ⟨hz, hh, hA⟩ := (show o = r0 ∧ hx = false ∧ ar = 0 from by first | exact hno.out rfl | exact hno.out (by trivial))
    subst hz hh hA
    simp only [r0] at SX
    clear hno hyes hht ROo TS TH TT
    go_wp2_with fail
    refine (SX.out _).mono ?_
    rintro e w3 ⟨rfl, hb3⟩
    have BX := Lib.hid (BX.out.later hb3)
    have G := Lib.hid (G.out.trans (hb3.mono G.out.size))
    clear hb3 c0 c1
    have c0 := BX.out.cell 0 (.complex .f64 g1 g2) rfl
    have c1 := BX.out.cell 1 (.complex .f64 g3 g4) rfl
    go_wp2_with fail
    refine (HX.out _).mono ?_
    rintro e w4 ⟨rfl, hb4⟩
    have BX := Lib.hid (BX.out.later hb4)
    have G := Lib.hid (G.out.trans (hb4.mono G.out.size))
    clear hb4 c0 c1
    have c0 := BX.out.cell 0 (.complex .f64 g1 g2) rfl
    have c1 := BX.out.cell 1 (.complex .f64 g3 g4) rfl
    go_wp2_with fail
    refine (AX.out _).mono ?_
    rintro e w5 ⟨rfl, hb5⟩
    have G := Lib.hid (G.out.trans (hb5.mono G.out.size))
    clear hb5 c0 c1
    go_wp2_with fail
    refine (LV.out _).mono ?_
    rintro e w6 ⟨rfl, hb6⟩
    have G := Lib.hid (G.out.trans (hb6.mono G.out.size))
    clear hb6
    go_wp2_with fail
    go_ret
    exact ⟨rfl, G.out⟩
  · have hz : o = ((a, b), (c, d)) := by first | exact hyes.out rfl | exact hyes.out (by trivial)
    subst hz
    clear hno hyes hm
    go_wp2_with fail
    refine (TX.out _).mono ?_
    rintro e w3 ⟨vy, rfl, hvy, hb3⟩
    have hok2 := Lib.hid (okR_turn ROo.out)
    have SY := Lib.hid (fun w => TS.out _ _ hvy hok2.out w)
    have HY := Lib.hid (fun w => TH.out _ _ hvy hok2.out w)
    have TY := Lib.hid (fun w => TT.out _ _ hvy hok2.out w)
    rw [hht.out] at HY
    obtain ⟨p1, q1, p2, q2, rfl, -, -, -, -⟩ := hvy
    simp only [rTurn] at SY TY hok2
    have BY := Lib.hid (Box.new w3 #[.complex .f64 p1 q1, .complex .f64 p2 q2] 28 _ rfl)
    have BX := Lib.hid ((BX.out.later hb3).alloc (.cells #[.complex .f64 p1 q1, .complex .f64 p2 q2] 28))
    have BR := Lib.hid ((BR.out.later hb3).alloc (.cells #[.complex .f64 p1 q1, .complex .f64 p2 q2] 28))
    have G1 := Lib.hid (G.out.trans (hb3.mono G.out.size))
    have G := Lib.hid (G1.out.alloc G1.out.size (.cells #[.complex .f64 p1 q1, .complex .f64 p2 q2] 28))
    clear hb3 c0 c1 G1
    go_wp2_with fail
    generalize w3.alloc (.cells #[.complex .f64 p1 q1, .complex .f64 p2 q2] 28) = W3 at *
    generalize w3.heap.size = ny at *
    have lx := BX.out.lt
    have ly := BY.out.lt
    have lr := BR.out.lt
    have HI : (fun W => Below W3.heap.size W3 W) W3.drew := (Below.refl _ _).drewN 1
-- REGION A
    refine regk_start [] (fun W => Below W3.heap.size W3 W) (by kernel_rfl) ?_
    refine regk_take 0 45 (v := ?_) (T' := ?_) HI (by kernel_rfl) (by kernel_rfl) (by kernel_rfl) (by kernel_rfl) (by kernel_rfl) (by kernel_rfl) (fun _ _ _ h => h) (fun o ho => ?_) ?_ ?_
    rotate_left 2
    · cases ho
      refine ⟨rfl, rfl, fun W hW => ?_⟩
      have hV0 := (Below.cell (p := ⟨ny, 0, none⟩) (show Below W3.heap.size W3 W from hW) ly).trans (BY.out.cell 0 (.complex .f64 p1 q1) rfl)
      have hV1 := (Below.cell (p := ⟨ny, 1, none⟩) (show Below W3.heap.size W3 W from hW) ly).trans (BY.out.cell 1 (.complex .f64 p2 q2) rfl)
      go_simp; (try with_reducible rfl)
    · simp only [List.setIfInBounds_toArray, List.set_cons_succ, List.set_cons_zero]; exact rfl
    refine regk_free 2 47 (v := ?_) (T' := ?_) (fun _ => HI) (by kernel_rfl) (by kernel_rfl) (by kernel_rfl) (by kernel_rfl) (fun _ _ _ h => h) (fun o ho => ?_) ?_ ?_
    rotate_left 2
    · cases ho
      refine ⟨rfl, rfl, fun W => ?_⟩
      go_simp; (try with_reducible rfl)
    · simp only [List.setIfInBounds_toArray, List.set_cons_succ, List.set_cons_zero]; exact rfl
    refine regk_take 3 48 (v := ?_) (T' := ?_) HI (by kernel_rfl) (by kernel_rfl) (by kernel_rfl) (by kernel_rfl) (by kernel_rfl) (by kernel_rfl) (fun _ _ _ h => h) (fun o ho => ?_) ?_ ?_
    rotate_left 2
    · cases ho
      refine ⟨rfl, rfl, fun W hW => ?_⟩
      have hV0 := (Below.cell (p := ⟨U.heap.size, 2, none⟩) (show Below W3.heap.size W3 W from hW) lr).trans (BR.out.cell 2 (.int .i64 c) rfl)
      have hV1 := (Below.cell (p := ⟨U.heap.size, 3, none⟩) (show Below W3.heap.size W3 W from hW) lr).trans (BR.out.cell 3 (.int .i64 d) rfl)
      go_simp; (try with_reducible rfl)
    · simp only [List.setIfInBounds_toArray, List.set_cons_succ, List.set_cons_zero]; exact rfl
    refine regk_free 4 49 (v := ?_) (T' := ?_) (fun _ => HI) (by kernel_rfl) (by kernel_rfl) (by kernel_rfl) (by kernel_rfl) (fun _ _ _ h => h) (fun o ho => ?_) ?_ ?_
    rotate_left 2
    · cases ho
      refine ⟨rfl, rfl, fun W => ?_⟩
      go_simp; (try with_reducible rfl)
    · simp only [List.setIfInBounds_toArray, List.set_cons_succ, List.set_cons_zero]; exact rfl
    refine regk_take 5 50 (v := ?_) (T' := ?_) HI (by kernel_rfl) (by kernel_rfl) (by kernel_rfl) (by kernel_rfl) (by kernel_rfl) (by kernel_rfl) (fun _ _ _ h => h) (fun o ho => ?_) ?_ ?_
    rotate_left 2
    · cases ho
      refine ⟨rfl, rfl, fun W hW => ?_⟩
      have hV0 := (Below.cell (p := ⟨U.heap.size, 0, none⟩) (show Below W3.heap.size W3 W from hW) lr).trans (BR.out.cell 0 (.int .i64 a) rfl)
      have hV1 := (Below.cell (p := ⟨U.heap.size, 1, none⟩) (show Below W3.heap.size W3 W from hW) lr).trans (BR.out.cell 1 (.int .i64 b) rfl)
      go_simp; (try with_reducible rfl)
    · simp only [List.setIfInBounds_toArray, List.set_cons_succ, List.set_cons_zero]; exact rfl
    refine regk_free 6 51 (v := ?_) (T' := ?_) (fun _ => HI) (by kernel_rfl) (by kernel_rfl) (by kernel_rfl) (by kernel_rfl) (fun _ _ _ h => h) (fun o ho => ?_) ?_ ?_
    rotate_left 2
    · cases ho
      refine ⟨rfl, rfl, fun W => ?_⟩
      go_simp; (try with_reducible rfl)
    · simp only [List.setIfInBounds_toArray, List.set_cons_succ, List.set_cons_zero]; exact rfl
    refine regk_call (I' := (fun W => Below W3.heap.size W3 W)) (fun _ h => h) 1 46 (by kernel_rfl) 10 #[.agg #[.complex .f64 p1 q1, .complex .f64 p2 q2]] (fun o ho => by cases ho; exact ⟨rfl, rfl, fun W => by go_simp⟩) ?_
    refine (SY.out _).mono ?_
    rintro e y11 ⟨rfl, hb11⟩
    have HI : (fun W => Below W3.heap.size W3 W) y11 := (show Below W3.heap.size W3 _ from HI).trans (hb11.mono (show Below W3.heap.size W3 _ from HI).size)
    refine ⟨_, _, rfl, fun _ => HI, (by simp only [List.setIfInBounds_toArray, List.set_cons_succ, List.set_cons_zero]; exact rfl), ?_⟩
    refine regk_free 7 52 (v := ?_) (T' := ?_) (fun _ => HI) (by kernel_rfl) (by kernel_rfl) (by kernel_rfl) (by kernel_rfl) (fun _ _ _ h => h) (fun o ho => ?_) ?_ ?_
    rotate_left 2
    · cases ho
      refine ⟨rfl, rfl, fun W => ?_⟩
      go_simp; (try with_reducible rfl)
    · simp only [List.setIfInBounds_toArray, List.set_cons_succ, List.set_cons_zero]; exact rfl
    refine regk_free 8 53 (v := ?_) (T' := ?_) (fun _ => HI) (by kernel_rfl) (by kernel_rfl) (by kernel_rfl) (by kernel_rfl) (fun _ _ _ h => h) (fun o ho => ?_) ?_ ?_
    rotate_left 2
    · cases ho
      refine ⟨rfl, rfl, fun W => ?_⟩
      go_simp; (try with_reducible rfl)
    · simp only [List.setIfInBounds_toArray, List.set_cons_succ, List.set_cons_zero]; exact rfl
    refine regk_take 9 54 (v := ?_) (T' := ?_) HI (by kernel_rfl) (by kernel_rfl) (by kernel_rfl) (by kernel_rfl) (by kernel_rfl) (by kernel_rfl) (fun _ _ _ h => h) (fun o ho => ?_) ?_ ?_
    rotate_left 2
    · cases ho
      refine ⟨rfl, rfl, fun W hW => ?_⟩
      have hV0 := (Below.cell (p := ⟨ny, 0, none⟩) (show Below W3.heap.size W3 W from hW) ly).trans (BY.out.cell 0 (.complex .f64 p1 q1) rfl)
      have hV1 := (Below.cell (p := ⟨ny, 1, none⟩) (show Below W3.heap.size W3 W from hW) ly).trans (BY.out.cell 1 (.complex .f64 p2 q2) rfl)
      go_simp; (try with_reducible rfl)
    · simp only [List.setIfInBounds_toArray, List.set_cons_succ, List.set_cons_zero]; exact rfl
    refine regk_free 10 55 (v := ?_) (T' := ?_) (fun _ => HI) (by kernel_rfl) (by kernel_rfl) (by kernel_rfl) (by kernel_rfl) (fun _ _ _ h => h) (fun o ho => ?_) ?_ ?_
    rotate_left 2
    · cases ho
      refine ⟨rfl, rfl, fun W => ?_⟩
      go_simp; (try with_reducible rfl)
    · simp only [List.setIfInBounds_toArray, List.set_cons_succ, List.set_cons_zero]; exact rfl
    refine regk_free 11 56 (v := ?_) (T' := ?_) (fun _ => HI) (by kernel_rfl) (by kernel_rfl) (by kernel_rfl) (by kernel_rfl) (fun _ _ _ h => h) (fun o ho => ?_) ?_ ?_
    rotate_left 2
    · cases ho
      refine ⟨rfl, rfl, fun W => ?_⟩
      go_simp; (try with_reducible rfl)
    · simp only [List.setIfInBounds_toArray, List.set_cons_succ, List.set_cons_zero]; exact rfl
    refine regk_take 13 58 (v := ?_) (T' := ?_) HI (by kernel_rfl) (by kernel_rfl) (by kernel_rfl) (by kernel_rfl) (by kernel_rfl) (by kernel_rfl) (fun _ _ _ h => h) (fun o ho => ?_) ?_ ?_
    rotate_left 2
    · cases ho
      refine ⟨rfl, rfl, fun W hW => ?_⟩
      have hV0 := (Below.cell (p := ⟨nx, 0, none⟩) (show Below W3.heap.size W3 W from hW) lx).trans (BX.out.cell 0 (.complex .f64 g1 g2) rfl)
      have hV1 := (Below.cell (p := ⟨nx, 1, none⟩) (show Below W3.heap.size W3 W from hW) lx).trans (BX.out.cell 1 (.complex .f64 g3 g4) rfl)
      go_simp; (try with_reducible rfl)
    · simp only [List.setIfInBounds_toArray, List.set_cons_succ, List.set_cons_zero]; exact rfl
    refine regk_free 14 59 (v := ?_) (T' := ?_) (fun _ => HI) (by kernel_rfl) (by kernel_rfl) (by kernel_rfl) (by kernel_rfl) (fun _ _ _ h => h) (fun o ho => ?_) ?_ ?_
    rotate_left 2
    · cases ho
      refine ⟨rfl, rfl, fun W => ?_⟩
      go_simp; (try with_reducible rfl)
    · simp only [List.setIfInBounds_toArray, List.set_cons_succ, List.set_cons_zero]; exact rfl
    refine regk_free 15 60 (v := ?_) (T' := ?_) (fun _ => HI) (by kernel_rfl) (by kernel_rfl) (by kernel_rfl) (by kernel_rfl) (fun _ _ _ h => h) (fun o ho => ?_) ?_ ?_
    rotate_left 2
    · cases ho
      refine ⟨rfl, rfl, fun W => ?_⟩
      go_simp; (try with_reducible rfl)
    · simp only [List.setIfInBounds_toArray, List.set_cons_succ, List.set_cons_zero]; exact rfl
    refine regk_call (I' := (fun W => Below W3.heap.size W3 W)) (fun _ h => h) 12 57 (by kernel_rfl) 11 #[.agg #[.complex .f64 p1 q1, .complex .f64 p2 q2], .int .i64 t, .int .i64 u] (fun o ho => by cases ho; exact ⟨rfl, rfl, fun W => by go_simp⟩) ?_
    refine (HY.out _).mono ?_
    rintro e y12 ⟨rfl, hb12⟩
    have HI : (fun W => Below W3.heap.size W3 W) y12 := (show Below W3.heap.size W3 _ from HI).trans (hb12.mono (show Below W3.heap.size W3 _ from HI).size)
    refine ⟨_, _, rfl, fun _ => HI, (by simp only [List.setIfInBounds_toArray, List.set_cons_succ, List.set_cons_zero]; exact rfl), ?_⟩
    refine regk_call (I' := (fun W => Below W3.heap.size W3 W)) (fun _ h => h) 16 61 (by kernel_rfl) 11 #[.agg #[.complex .f64 g1 g2, .complex .f64 g3 g4], .int .i64 u, .int .i64 t] (fun o ho => by cases ho; exact ⟨rfl, rfl, fun W => by go_simp⟩) ?_
    refine (HX.out _).mono ?_
    rintro e y13 ⟨rfl, hb13⟩
    have HI : (fun W => Below W3.heap.size W3 W) y13 := (show Below W3.heap.size W3 _ from HI).trans (hb13.mono (show Below W3.heap.size W3 _ from HI).size)
    refine ⟨_, _, rfl, fun _ => HI, (by simp only [List.setIfInBounds_toArray, List.set_cons_succ, List.set_cons_zero]; exact rfl), ?_⟩
    refine regk_free 17 62 (v := ?_) (T' := ?_) (fun _ => HI) (by kernel_rfl) (by kernel_rfl) (by kernel_rfl) (by kernel_rfl) (fun _ _ _ h => h) (fun o ho => ?_) ?_ ?_
    rotate_left 2
    · cases ho
      refine ⟨rfl, rfl, fun W => ?_⟩
      go_simp; (try with_reducible rfl)
    · simp only [List.setIfInBounds_toArray, List.set_cons_succ, List.set_cons_zero]; exact rfl
    refine regk_free 18 63 (v := ?_) (T' := ?_) (fun _ => HI) (by kernel_rfl) (by kernel_rfl) (by kernel_rfl) (by kernel_rfl) (fun _ _ _ h => h) (fun o ho => ?_) ?_ ?_
    rotate_left 2
    · cases ho
      refine ⟨rfl, rfl, fun W => ?_⟩
      go_simp; (try with_reducible rfl)
    · simp only [List.setIfInBounds_toArray, List.set_cons_succ, List.set_cons_zero]; exact rfl
    refine regk_free 19 64 (v := ?_) (T' := ?_) (fun _ => HI) (by kernel_rfl) (by kernel_rfl) (by kernel_rfl) (by kernel_rfl) (fun _ _ _ h => h) (fun o ho => ?_) ?_ ?_
    rotate_left 2
    · cases ho
      refine ⟨rfl, rfl, fun W => ?_⟩
      go_simp; (try with_reducible rfl)
    · simp only [List.setIfInBounds_toArray, List.set_cons_succ, List.set_cons_zero]; exact rfl
    refine regk_take 20 65 (v := ?_) (T' := ?_) HI (by kernel_rfl) (by kernel_rfl) (by kernel_rfl) (by kernel_rfl) (by kernel_rfl) (by kernel_rfl) (fun _ _ _ h => h) (fun o ho => ?_) ?_ ?_
    rotate_left 2
    · cases ho
      refine ⟨rfl, rfl, fun W hW => ?_⟩
      have hV0 := (Below.cell (p := ⟨ny, 0, none⟩) (show Below W3.heap.size W3 W from hW) ly).trans (BY.out.cell 0 (.complex .f64 p1 q1) rfl)
      have hV1 := (Below.cell (p := ⟨ny, 1, none⟩) (show Below W3.heap.size W3 W from hW) ly).trans (BY.out.cell 1 (.complex .f64 p2 q2) rfl)
      go_simp; (try with_reducible rfl)
    · simp only [List.setIfInBounds_toArray, List.set_cons_succ, List.set_cons_zero]; exact rfl
    refine regk_take 23 68 (v := ?_) (T' := ?_) HI (by kernel_rfl) (by kernel_rfl) (by kernel_rfl) (by kernel_rfl) (by kernel_rfl) (by kernel_rfl) (fun _ _ _ h => h) (fun o ho => ?_) ?_ ?_
    rotate_left 2
    · cases ho
      refine ⟨rfl, rfl, fun W hW => ?_⟩
      have hV0 := (Below.cell (p := ⟨U.heap.size, 0, none⟩) (show Below W3.heap.size W3 W from hW) lr).trans (BR.out.cell 0 (.int .i64 a) rfl)
      have hV1 := (Below.cell (p := ⟨U.heap.size, 1, none⟩) (show Below W3.heap.size W3 W from hW) lr).trans (BR.out.cell 1 (.int .i64 b) rfl)
      have hV2 := (Below.cell (p := ⟨U.heap.size, 2, none⟩) (show Below W3.heap.size W3 W from hW) lr).trans (BR.out.cell 2 (.int .i64 c) rfl)
      have hV3 := (Below.cell (p := ⟨U.heap.size, 3, none⟩) (show Below W3.heap.size W3 W from hW) lr).trans (BR.out.cell 3 (.int .i64 d) rfl)
      go_simp; (try with_reducible rfl)
    · simp only [List.setIfInBounds_toArray, List.set_cons_succ, List.set_cons_zero]; exact rfl
    refine regk_call (I' := (fun W => Below W3.heap.size W3 W)) (fun _ h => h) 21 66 (by kernel_rfl) 14 #[.agg #[.complex .f64 p1 q1, .complex .f64 p2 q2]] (fun o ho => by cases ho; exact ⟨rfl, rfl, fun W => by go_simp⟩) ?_
    refine (TY.out _).mono ?_
    rintro e y14 ⟨vz, rfl, hvz, hb14⟩
    have HI : (fun W => Below W3.heap.size W3 W) y14 := (show Below W3.heap.size W3 _ from HI).trans (hb14.mono (show Below W3.heap.size W3 _ from HI).size)
    have SZ := Lib.hid (fun w => TS.out _ _ hvz (okR_turn hok2.out) w)
    obtain ⟨k1, k2, k3, k4, rfl, -, -, -, -⟩ := hvz
    simp only [] at SZ
    refine ⟨_, _, rfl, fun _ => HI, (by simp only [List.setIfInBounds_toArray, List.set_cons_succ, List.set_cons_zero]; exact rfl), ?_⟩
    refine regk_call (I' := (fun W => Below W3.heap.size W3 W)) (fun _ h => h) 22 67 (by kernel_rfl) 10 #[.agg #[.complex .f64 k1 k2, .complex .f64 k3 k4]] (fun o ho => by cases ho; exact ⟨rfl, rfl, fun W => by go_simp⟩) ?_
    refine (SZ.out _).mono ?_
    rintro e y15 ⟨rfl, hb15⟩
    have HI : (fun W => Below W3.heap.size W3 W) y15 := (show Below W3.heap.size W3 _ from HI).trans (hb15.mono (show Below W3.heap.size W3 _ from HI).size)
    refine ⟨_, _, rfl, fun _ => HI, (by simp only [List.setIfInBounds_toArray, List.set_cons_succ, List.set_cons_zero]; exact rfl), ?_⟩
    refine regk_free 24 69 (v := ?_) (T' := ?_) (fun _ => HI) (by kernel_rfl) (by kernel_rfl) (by kernel_rfl) (by kernel_rfl) (fun _ _ _ h => h) (fun o ho => ?_) ?_ ?_
    rotate_left 2
    · cases ho
      refine ⟨rfl, rfl, fun W => ?_⟩
      go_simp; (try with_reducible rfl)
    · simp only [List.setIfInBounds_toArray, List.set_cons_succ, List.set_cons_zero]; exact rfl
    refine regk_free 25 70 (v := ?_) (T' := ?_) (fun _ => HI) (by kernel_rfl) (by kernel_rfl) (by kernel_rfl) (by kernel_rfl) (fun _ _ _ h => h) (fun o ho => ?_) ?_ ?_
    rotate_left 2
    · cases ho
      refine ⟨rfl, rfl, fun W => ?_⟩
      go_simp; (try with_reducible rfl)
    · simp only [List.setIfInBounds_toArray, List.set_cons_succ, List.set_cons_zero]; exact rfl
    refine regk_free 26 11 (v := ?_) (T' := ?_) (fun _ => HI) (by kernel_rfl) (by kernel_rfl) (by kernel_rfl) (by kernel_rfl) (fun _ _ _ h => h) (fun o ho => ?_) ?_ ?_
    rotate_left 2
    · cases ho
      refine ⟨rfl, rfl, fun W => ?_⟩
      go_simp; (try with_reducible rfl)
    · simp only [List.setIfInBounds_toArray, List.set_cons_succ, List.set_cons_zero]; exact rfl
    refine regk_done (by kernel_rfl) ?_
-- DONE A
    have hj := (show Below W3.heap.size W3 _ from HI)
    have BX := Lib.hid (BX.out.later hj)
    have BR := Lib.hid (BR.out.later hj)
    have G := Lib.hid (G.out.trans (hj.mono G.out.size))
    clear HI hj lx ly lr hb11 hb12 hb13 hb14 hb15 BY
    go_wp2_with fail
    generalize y15 = W4 at *
    have lx := BX.out.lt
    have lr := BR.out.lt
    have HI : (fun W => Below W4.heap.size W4 W) W4.drew := (Below.refl _ _).drewN 1
-- REGION B
    refine regk_start [] (fun W => Below W4.heap.size W4 W) (by kernel_rfl) ?_
    refine regk_take 0 71 (v := ?_) (T' := ?_) HI (by kernel_rfl) (by kernel_rfl) (by kernel_rfl) (by kernel_rfl) (by kernel_rfl) (by kernel_rfl) (fun _ _ _ h => h) (fun o ho => ?_) ?_ ?_
    rotate_left 2
    · cases ho
      refine ⟨rfl, rfl, fun W hW => ?_⟩
      have hV0 := (Below.cell (p := ⟨nx, 0, none⟩) (show Below W4.heap.size W4 W from hW) lx).trans (BX.out.cell 0 (.complex .f64 g1 g2) rfl)
      have hV1 := (Below.cell (p := ⟨nx, 1, none⟩) (show Below W4.heap.size W4 W from hW) lx).trans (BX.out.cell 1 (.complex .f64 g3 g4) rfl)
      go_simp; (try with_reducible rfl)
    · simp only [List.setIfInBounds_toArray, List.set_cons_succ, List.set_cons_zero]; exact rfl
    refine regk_take 2 73 (v := ?_) (T' := ?_) HI (by kernel_rfl) (by kernel_rfl) (by kernel_rfl) (by kernel_rfl) (by kernel_rfl) (by kernel_rfl) (fun _ _ _ h => h) (fun o ho => ?_) ?_ ?_
    rotate_left 2
    · cases ho
      refine ⟨rfl, rfl, fun W hW => ?_⟩
      have hV0 := (Below.cell (p := ⟨U.heap.size, 0, none⟩) (show Below W4.heap.size W4 W from hW) lr).trans (BR.out.cell 0 (.int .i64 a) rfl)
      have hV1 := (Below.cell (p := ⟨U.heap.size, 1, none⟩) (show Below W4.heap.size W4 W from hW) lr).trans (BR.out.cell 1 (.int .i64 b) rfl)
      have hV2 := (Below.cell (p := ⟨U.heap.size, 2, none⟩) (show Below W4.heap.size W4 W from hW) lr).trans (BR.out.cell 2 (.int .i64 c) rfl)
      have hV3 := (Below.cell (p := ⟨U.heap.size, 3, none⟩) (show Below W4.heap.size W4 W from hW) lr).trans (BR.out.cell 3 (.int .i64 d) rfl)
      go_simp; (try with_reducible rfl)
    · simp only [List.setIfInBounds_toArray, List.set_cons_succ, List.set_cons_zero]; exact rfl
    refine regk_call (I' := (fun W => Below W4.heap.size W4 W)) (fun _ h => h) 1 72 (by kernel_rfl) 10 #[.agg #[.complex .f64 g1 g2, .complex .f64 g3 g4]] (fun o ho => by cases ho; exact ⟨rfl, rfl, fun W => by go_simp⟩) ?_
    refine (SX.out _).mono ?_
    rintro e y21 ⟨rfl, hb21⟩
    have HI : (fun W => Below W4.heap.size W4 W) y21 := (show Below W4.heap.size W4 _ from HI).trans (hb21.mono (show Below W4.heap.size W4 _ from HI).size)
    refine ⟨_, _, rfl, fun _ => HI, (by simp only [List.setIfInBounds_toArray, List.set_cons_succ, List.set_cons_zero]; exact rfl), ?_⟩
    refine regk_free 3 74 (v := ?_) (T' := ?_) (fun _ => HI) (by kernel_rfl) (by kernel_rfl) (by kernel_rfl) (by kernel_rfl) (fun _ _ _ h => h) (fun o ho => ?_) ?_ ?_
    rotate_left 2
    · cases ho
      refine ⟨rfl, rfl, fun W => ?_⟩
      go_simp; (try with_reducible rfl)
    · simp only [List.setIfInBounds_toArray, List.set_cons_succ, List.set_cons_zero]; exact rfl
    refine regk_free 4 75 (v := ?_) (T' := ?_) (fun _ => HI) (by kernel_rfl) (by kernel_rfl) (by kernel_rfl) (by kernel_rfl) (fun _ _ _ h => h) (fun o ho => ?_) ?_ ?_
    rotate_left 2
    · cases ho
      refine ⟨rfl, rfl, fun W => ?_⟩
      go_simp; (try with_reducible rfl)
    · simp only [List.setIfInBounds_toArray, List.set_cons_succ, List.set_cons_zero]; exact rfl
    refine regk_take 5 76 (v := ?_) (T' := ?_) HI (by kernel_rfl) (by kernel_rfl) (by kernel_rfl) (by kernel_rfl) (by kernel_rfl) (by kernel_rfl) (fun _ _ _ h => h) (fun o ho => ?_) ?_ ?_
    rotate_left 2
    · cases ho
      refine ⟨rfl, rfl, fun W hW => ?_⟩
      have hV0 := (Below.cell (p := ⟨nx, 0, none⟩) (show Below W4.heap.size W4 W from hW) lx).trans (BX.out.cell 0 (.complex .f64 g1 g2) rfl)
      have hV1 := (Below.cell (p := ⟨nx, 1, none⟩) (show Below W4.heap.size W4 W from hW) lx).trans (BX.out.cell 1 (.complex .f64 g3 g4) rfl)
      go_simp; (try with_reducible rfl)
    · simp only [List.setIfInBounds_toArray, List.set_cons_succ, List.set_cons_zero]; exact rfl
    refine regk_free 6 77 (v := ?_) (T' := ?_) (fun _ => HI) (by kernel_rfl) (by kernel_rfl) (by kernel_rfl) (by kernel_rfl) (fun _ _ _ h => h) (fun o ho => ?_) ?_ ?_
    rotate_left 2
    · cases ho
      refine ⟨rfl, rfl, fun W => ?_⟩
      go_simp; (try with_reducible rfl)
    · simp only [List.setIfInBounds_toArray, List.set_cons_succ, List.set_cons_zero]; exact rfl
    refine regk_free 7 78 (v := ?_) (T' := ?_) (fun _ => HI) (by kernel_rfl) (by kernel_rfl) (by kernel_rfl) (by kernel_rfl) (fun _ _ _ h => h) (fun o ho => ?_) ?_ ?_
    rotate_left 2
    · cases ho
      refine ⟨rfl, rfl, fun W => ?_⟩
      go_simp; (try with_reducible rfl)
    · simp only [List.setIfInBounds_toArray, List.set_cons_succ, List.set_cons_zero]; exact rfl
    refine regk_take 9 80 (v := ?_) (T' := ?_) HI (by kernel_rfl) (by kernel_rfl) (by kernel_rfl) (by kernel_rfl) (by kernel_rfl) (by kernel_rfl) (fun _ _ _ h => h) (fun o ho => ?_) ?_ ?_
    rotate_left 2
    · cases ho
      refine ⟨rfl, rfl, fun W hW => ?_⟩
      have hV0 := (Below.cell (p := ⟨U.heap.size, 0, none⟩) (show Below W4.heap.size W4 W from hW) lr).trans (BR.out.cell 0 (.int .i64 a) rfl)
      have hV1 := (Below.cell (p := ⟨U.heap.size, 1, none⟩) (show Below W4.heap.size W4 W from hW) lr).trans (BR.out.cell 1 (.int .i64 b) rfl)
      have hV2 := (Below.cell (p := ⟨U.heap.size, 2, none⟩) (show Below W4.heap.size W4 W from hW) lr).trans (BR.out.cell 2 (.int .i64 c) rfl)
      have hV3 := (Below.cell (p := ⟨U.heap.size, 3, none⟩) (show Below W4.heap.size W4 W from hW) lr).trans (BR.out.cell 3 (.int .i64 d) rfl)
      go_simp; (try with_reducible rfl)
    · simp only [List.setIfInBounds_toArray, List.set_cons_succ, List.set_cons_zero]; exact rfl
    refine regk_free 10 81 (v := ?_) (T' := ?_) (fun _ => HI) (by kernel_rfl) (by kernel_rfl) (by kernel_rfl) (by kernel_rfl) (fun _ _ _ h => h) (fun o ho => ?_) ?_ ?_
    rotate_left 2
    · cases ho
      refine ⟨rfl, rfl, fun W => ?_⟩
      go_simp; (try with_reducible rfl)
    · simp only [List.setIfInBounds_toArray, List.set_cons_succ, List.set_cons_zero]; exact rfl
    refine regk_free 11 82 (v := ?_) (T' := ?_) (fun _ => HI) (by kernel_rfl) (by kernel_rfl) (by kernel_rfl) (by kernel_rfl) (fun _ _ _ h => h) (fun o ho => ?_) ?_ ?_
    rotate_left 2
    · cases ho
      refine ⟨rfl, rfl, fun W => ?_⟩
      go_simp; (try with_reducible rfl)
    · simp only [List.setIfInBounds_toArray, List.set_cons_succ, List.set_cons_zero]; exact rfl
    refine regk_call (I' := (fun W => Below W4.heap.size W4 W)) (fun _ h => h) 8 79 (by kernel_rfl) 11 #[.agg #[.complex .f64 g1 g2, .complex .f64 g3 g4], .int .i64 u, .int .i64 t] (fun o ho => by cases ho; exact ⟨rfl, rfl, fun W => by go_simp⟩) ?_
    refine (HX.out _).mono ?_
    rintro e y22 ⟨rfl, hb22⟩
    have HI : (fun W => Below W4.heap.size W4 W) y22 := (show Below W4.heap.size W4 _ from HI).trans (hb22.mono (show Below W4.heap.size W4 _ from HI).size)
    refine ⟨_, _, rfl, fun _ => HI, (by simp only [List.setIfInBounds_toArray, List.set_cons_succ, List.set_cons_zero]; exact rfl), ?_⟩
    refine regk_call (I' := (fun W => Below W4.heap.size W4 W)) (fun _ h => h) 12 83 (by kernel_rfl) 15 #[.agg #[.int .i64 a, .int .i64 b, .int .i64 c, .int .i64 d], .int .i64 u, .int .i64 t] (fun o ho => by cases ho; exact ⟨rfl, rfl, fun W => by go_simp⟩) ?_
    refine (RH.out _).mono ?_
    rintro e y23 ⟨rfl, hb23⟩
    have HI : (fun W => Below W4.heap.size W4 W) y23 := (show Below W4.heap.size W4 _ from HI).trans (hb23.mono (show Below W4.heap.size W4 _ from HI).size)
    refine ⟨_, _, rfl, fun _ => HI, (by simp only [List.setIfInBounds_toArray, List.set_cons_succ, List.set_cons_zero]; exact rfl), ?_⟩
    refine regk_free 13 84 (v := ?_) (T' := ?_) (fun _ => HI) (by kernel_rfl) (by kernel_rfl) (by kernel_rfl) (by kernel_rfl) (fun _ _ _ h => h) (fun o ho => ?_) ?_ ?_
    rotate_left 2
    · cases ho
      refine ⟨rfl, rfl, fun W => ?_⟩
      go_simp; (try with_reducible rfl)
    · simp only [List.setIfInBounds_toArray, List.set_cons_succ, List.set_cons_zero]; exact rfl
    refine regk_free 14 85 (v := ?_) (T' := ?_) (fun _ => HI) (by kernel_rfl) (by kernel_rfl) (by kernel_rfl) (by kernel_rfl) (fun _ _ _ h => h) (fun o ho => ?_) ?_ ?_
    rotate_left 2
    · cases ho
      refine ⟨rfl, rfl, fun W => ?_⟩
      go_simp; (try with_reducible rfl)
    · simp only [List.setIfInBounds_toArray, List.set_cons_succ, List.set_cons_zero]; exact rfl
    refine regk_free 15 86 (v := ?_) (T' := ?_) (fun _ => HI) (by kernel_rfl) (by kernel_rfl) (by kernel_rfl) (by kernel_rfl) (fun _ _ _ h => h) (fun o ho => ?_) ?_ ?_
    rotate_left 2
    · cases ho
      refine ⟨rfl, rfl, fun W => ?_⟩
      go_simp; (try with_reducible rfl)
    · simp only [List.setIfInBounds_toArray, List.set_cons_succ, List.set_cons_zero]; exact rfl
    refine regk_take 16 87 (v := ?_) (T' := ?_) HI (by kernel_rfl) (by kernel_rfl) (by kernel_rfl) (by kernel_rfl) (by kernel_rfl) (by kernel_rfl) (fun _ _ _ h => h) (fun o ho => ?_) ?_ ?_
    rotate_left 2
    · cases ho
      refine ⟨rfl, rfl, fun W hW => ?_⟩
      have hV0 := (Below.cell (p := ⟨nx, 0, none⟩) (show Below W4.heap.size W4 W from hW) lx).trans (BX.out.cell 0 (.complex .f64 g1 g2) rfl)
      have hV1 := (Below.cell (p := ⟨nx, 1, none⟩) (show Below W4.heap.size W4 W from hW) lx).trans (BX.out.cell 1 (.complex .f64 g3 g4) rfl)
      go_simp; (try with_reducible rfl)
    · simp only [List.setIfInBounds_toArray, List.set_cons_succ, List.set_cons_zero]; exact rfl
    refine regk_take 18 89 (v := ?_) (T' := ?_) HI (by kernel_rfl) (by kernel_rfl) (by kernel_rfl) (by kernel_rfl) (by kernel_rfl) (by kernel_rfl) (fun _ _ _ h => h) (fun o ho => ?_) ?_ ?_
    rotate_left 2
    · cases ho
      refine ⟨rfl, rfl, fun W hW => ?_⟩
      have hV0 := (Below.cell (p := ⟨U.heap.size, 0, none⟩) (show Below W4.heap.size W4 W from hW) lr).trans (BR.out.cell 0 (.int .i64 a) rfl)
      have hV1 := (Below.cell (p := ⟨U.heap.size, 1, none⟩) (show Below W4.heap.size W4 W from hW) lr).trans (BR.out.cell 1 (.int .i64 b) rfl)
      have hV2 := (Below.cell (p := ⟨U.heap.size, 2, none⟩) (show Below W4.heap.size W4 W from hW) lr).trans (BR.out.cell 2 (.int .i64 c) rfl)
      have hV3 := (Below.cell (p := ⟨U.heap.size, 3, none⟩) (show Below W4.heap.size W4 W from hW) lr).trans (BR.out.cell 3 (.int .i64 d) rfl)
      go_simp; (try with_reducible rfl)
    · simp only [List.setIfInBounds_toArray, List.set_cons_succ, List.set_cons_zero]; exact rfl
    refine regk_call (I' := (fun W => Below W4.heap.size W4 W)) (fun _ h => h) 17 88 (by kernel_rfl) 12 #[.agg #[.complex .f64 g1 g2, .complex .f64 g3 g4]] (fun o ho => by cases ho; exact ⟨rfl, rfl, fun W => by go_simp⟩) ?_
    refine (AX.out _).mono ?_
    rintro e y24 ⟨rfl, hb24⟩
    have HI : (fun W => Below W4.heap.size W4 W) y24 := (show Below W4.heap.size W4 _ from HI).trans (hb24.mono (show Below W4.heap.size W4 _ from HI).size)
    refine ⟨_, _, rfl, fun _ => HI, (by simp only [List.setIfInBounds_toArray, List.set_cons_succ, List.set_cons_zero]; exact rfl), ?_⟩
    refine regk_call (I' := (fun W => Below W4.heap.size W4 W)) (fun _ h => h) 19 90 (by kernel_rfl) 16 #[.agg #[.int .i64 a, .int .i64 b, .int .i64 c, .int .i64 d]] (fun o ho => by cases ho; exact ⟨rfl, rfl, fun W => by go_simp⟩) ?_
    refine (RA.out _).mono ?_
    rintro e y25 ⟨rfl, hb25⟩
    have HI : (fun W => Below W4.heap.size W4 W) y25 := (show Below W4.heap.size W4 _ from HI).trans (hb25.mono (show Below W4.heap.size W4 _ from HI).size)
    refine ⟨_, _, rfl, fun _ => HI, (by simp only [List.setIfInBounds_toArray, List.set_cons_succ, List.set_cons_zero]; exact rfl), ?_⟩
    refine regk_free 20 91 (v := ?_) (T' := ?_) (fun _ => HI) (by kernel_rfl) (by kernel_rfl) (by kernel_rfl) (by kernel_rfl) (fun _ _ _ h => h) (fun o ho => ?_) ?_ ?_
    rotate_left 2
    · cases ho
      refine ⟨rfl, rfl, fun W => ?_⟩
      go_simp; (try with_reducible rfl)
    · simp only [List.setIfInBounds_toArray, List.set_cons_succ, List.set_cons_zero]; exact rfl
    refine regk_free 21 92 (v := ?_) (T' := ?_) (fun _ => HI) (by kernel_rfl) (by kernel_rfl) (by kernel_rfl) (by kernel_rfl) (fun _ _ _ h => h) (fun o ho => ?_) ?_ ?_
    rotate_left 2
    · cases ho
      refine ⟨rfl, rfl, fun W => ?_⟩
      go_simp; (try with_reducible rfl)
    · simp only [List.setIfInBounds_toArray, List.set_cons_succ, List.set_cons_zero]; exact rfl
    refine regk_free 22 93 (v := ?_) (T' := ?_) (fun _ => HI) (by kernel_rfl) (by kernel_rfl) (by kernel_rfl) (by kernel_rfl) (fun _ _ _ h => h) (fun o ho => ?_) ?_ ?_
    rotate_left 2
    · cases ho
      refine ⟨rfl, rfl, fun W => ?_⟩
      go_simp; (try with_reducible rfl)
    · simp only [List.setIfInBounds_toArray, List.set_cons_succ, List.set_cons_zero]; exact rfl
    refine regk_free 23 94 (v := ?_) (T' := ?_) (fun _ => HI) (by kernel_rfl) (by kernel_rfl) (by kernel_rfl) (by kernel_rfl) (fun _ _ _ h => h) (fun o ho => ?_) ?_ ?_
    rotate_left 2
    · cases ho
      refine ⟨rfl, rfl, fun W => ?_⟩
      go_simp; (try with_reducible rfl)
    · simp only [List.setIfInBounds_toArray, List.set_cons_succ, List.set_cons_zero]; exact rfl
    refine regk_free 24 95 (v := ?_) (T' := ?_) (fun _ => HI) (by kernel_rfl) (by kernel_rfl) (by kernel_rfl) (by kernel_rfl) (fun _ _ _ h => h) (fun o ho => ?_) ?_ ?_
    rotate_left 2
    · cases ho
      refine ⟨rfl, rfl, fun W => ?_⟩
      go_simp; (try with_reducible rfl)
    · simp only [List.setIfInBounds_toArray, List.set_cons_succ, List.set_cons_zero]; exact rfl
    refine regk_free 25 96 (v := ?_) (T' := ?_) (fun _ => HI) (by kernel_rfl) (by kernel_rfl) (by kernel_rfl) (by kernel_rfl) (fun _ _ _ h => h) (fun o ho => ?_) ?_ ?_
    rotate_left 2
    · cases ho
      refine ⟨rfl, rfl, fun W => ?_⟩
      go_simp; (try with_reducible rfl)
    · simp only [List.setIfInBounds_toArray, List.set_cons_succ, List.set_cons_zero]; exact rfl
    refine regk_call (I' := (fun W => Below W4.heap.size W4 W)) (fun _ h => h) 26 97 (by kernel_rfl) 13 #[] (fun o ho => by cases ho; exact ⟨rfl, rfl, fun W => by go_simp⟩) ?_
    refine (LV.out _).mono ?_
    rintro e y26 ⟨rfl, hb26⟩
    have HI : (fun W => Below W4.heap.size W4 W) y26 := (show Below W4.heap.size W4 _ from HI).trans (hb26.mono (show Below W4.heap.size W4 _ from HI).size)
    refine ⟨_, _, rfl, fun _ => HI, (by simp only [List.setIfInBounds_toArray, List.set_cons_succ, List.set_cons_zero]; exact rfl), ?_⟩
    refine regk_free 27 98 (v := ?_) (T' := ?_) (fun _ => HI) (by kernel_rfl) (by kernel_rfl) (by kernel_rfl) (by kernel_rfl) (fun _ _ _ h => h) (fun o ho => ?_) ?_ ?_
    rotate_left 2
    · cases ho
      refine ⟨rfl, rfl, fun W => ?_⟩
      go_simp; (try with_reducible rfl)
    · simp only [List.setIfInBounds_toArray, List.set_cons_succ, List.set_cons_zero]; exact rfl
    refine regk_free 28 6 (v := ?_) (T' := ?_) (fun _ => HI) (by kernel_rfl) (by kernel_rfl) (by kernel_rfl) (by kernel_rfl) (fun _ _ _ h => h) (fun o ho => ?_) ?_ ?_
    rotate_left 2
    · cases ho
      refine ⟨rfl, rfl, fun W => ?_⟩
      go_simp; (try with_reducible rfl)
    · simp only [List.setIfInBounds_toArray, List.set_cons_succ, List.set_cons_zero]; exact rfl
    refine regk_done (by kernel_rfl) ?_
-- DONE B
    have GZ := Lib.hid (G.out.trans ((show Below W4.heap.size W4 _ from HI).mono G.out.size))
    go_wp2_with fail
    go_ret
    exact ⟨rfl, GZ.out⟩
-- END
set_option maxRecDepth 100000 in
theorem lifted (os : Os) (started : os.Started) (H : Type) (enc : TypeId × Value → H) :
    ReturnsInHanded {} Try.checked os 3 .any (Rows.planeOfSpec.pre6 enc Try.prog Try.f3 Rows.planeOfRow.domain false) (Rows.planeOfSpec.post enc Try.prog Try.f3 false true false false) := by
  refine returnsInHanded_of_change (C := Try.checked) Try.own started (by kernel_rfl) Try.func3
    (ChangeSpec.witness6 (enc := enc) (C := Try.checked) false ⟨#[], #[.agg #[.int .i64 0, .int .i64 0, .int .i64 0, .int .i64 0], .int .i64 0, .int .i64 0], []⟩ 8 (by kernel_rfl) (by kernel_rfl) (by kernel_rfl) (by kernel_rfl)) ?_
  intro W base args ds gs before hval0 hW _ _
  have hval : ∀ (j : Nat) t v, Try.f3.params[j]? = some t → args[j]? = some v → Value.okWide Try.prog W .any base t v := hval0
  have hW' := hW
  obtain ⟨p, q, hA0, hV, rfl, _, _⟩ := hW
  have hA : DataW.TrodAll enc Try.prog W 0 (fun _ => true) true Try.f3.params.toList args.toList ds p := hA0
  rw [Try.params3] at hA hval
  obtain ⟨v0, v1, v2, d0, d1, d2, p0, p1, p2, rfl, rfl, rfl, h0, h1, h2⟩ := trodAll_three hA
  obtain ⟨rfl, rfl⟩ := trodVars_none hV
  obtain ⟨a0, rfl, w0⟩ := open_re (hval 0 _ v0 rfl rfl) h0
  obtain ⟨a1, rfl, rfl, rfl, w1⟩ := open_int Try.underlying3 (hval 1 _ v1 rfl rfl) h1
  have w1 := wf_int w1
  obtain ⟨a2, rfl, rfl, rfl, w2⟩ := open_int Try.underlying3 (hval 2 _ v2 rfl rfl) h2
  have w2 := wf_int w2
  refine (walk a0 a1 a2 _).mono fun e W' ⟨he, hb⟩ => ⟨_, he, ?_⟩
  exact law_post Try.laidOut (by decide +kernel) rfl Try.underlying4 rfl hW' rfl hb

theorem holds : Rows.PlaneOfSaid :=
  OpenClaim.holds_of_wide 3 Try.f3 rfl rfl rfl rfl rfl rfl rfl ⟨rfl, rfl, rfl, rfl, rfl⟩ rfl rfl rfl rfl rfl (by kernel_rfl) Try.func3 (by kernel_rfl)
    (of_decide_eq_true (by kernel_rfl)) (by unfold Func.isWrapper; first | (rw [if_pos (by decide +kernel)]; kernel_rfl) | (rw [if_neg (by decide +kernel)]; exact ⟨rfl, rfl⟩))
    (fun os started H enc _ => lifted os started H enc)
end Go.Proofs.Ytpmcpoacaeoleaa.L01
