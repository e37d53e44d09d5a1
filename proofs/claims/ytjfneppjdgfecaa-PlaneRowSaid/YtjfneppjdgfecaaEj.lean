/- Layer 5, the project's: what two rectangles have in common. -/
import Derived.Test.YtjfneppjdgfecaaEi
import Derived.Test.YtjfneppjdgfecaaBregf
namespace Go.Proofs.Ytjfneppjdgfecaa
open Go.RowKit
set_option linter.unusedVariables false
attribute [local go_sem] sto_cx

theorem reC_zero : reC r0 = .agg #[.complex .f64 0 0, .complex .f64 0 0] := by unfold reC r0; simp only [fw_zero]

set_option maxHeartbeats 4000000 in
theorem p_rmeet {va vb : Value} {a b : Re} (ha : Rc va a) (hoa : okR a) (hb : Rc vb b) (hob : okR b) (w : World) :
    Calls Try.prog 18 #[va, vb] w fun e w' => e = .returned (.tuple #[reC (rMeet a b).1, .bool (rMeet a b).2]) ∧ Below w.heap.size w w' := by
  have E1 := Lib.hid (fun w => p_epochs ha hoa w)
  have E2 := Lib.hid (fun w => p_epochs hb hob w)
  have T1 := Lib.hid (fun w => p_times ha hoa w)
  have T2 := Lib.hid (fun w => p_times hb hob w)
  have M1 := Lib.hid (fun w => p_meet a.1 b.1 w)
  have M2 := Lib.hid (fun w => p_meet a.2 b.2 w)
  have MR := Lib.hid (fun w => p_rect (meetF a.1 b.1).1 (meetF a.2 b.2).1 w)
  have hy := Lib.hid (show (meetF a.1 b.1).2 = true → (meetF a.2 b.2).2 = true → rMeet a b = (((meetF a.1 b.1).1, (meetF a.2 b.2).1), true) from fun h k => rMeet_pos h k)
  have hn1 := Lib.hid (show (meetF a.1 b.1).2 = false → rMeet a b = (r0, false) from fun h => rMeet_neg (by simp [h]))
  have hn2 := Lib.hid (show (meetF a.2 b.2).2 = false → rMeet a b = (r0, false) from fun h => rMeet_neg (by simp [h]))
  have hz := Lib.hid reC_zero
  obtain ⟨a1, a2, a3, a4, rfl, -, -, -, -⟩ := ha
  obtain ⟨b1, b2, b3, b4, rfl, -, -, -, -⟩ := hb
  clear hoa hob
  generalize rMeet a b = res at *
  generalize meetF a.1 b.1 = mm at *
  generalize meetF a.2 b.2 = qq at *
  obtain ⟨⟨m1, m2⟩, k⟩ := mm
  obtain ⟨⟨q1, q2⟩, k2⟩ := qq
  have hre : ∀ r : Re, reC r = .agg #[.complex .f64 (fw r.1.1) (fw r.2.1), .complex .f64 (fw r.1.2) (fw r.2.2)] := fun _ => rfl
  rw [hre] at MR
  clear hre
  obtain ⟨⟨x1, x2⟩, ⟨z1, z2⟩⟩ := a
  obtain ⟨⟨u1, u2⟩, ⟨v1, v2⟩⟩ := b
  unfold spV at *
  simp only at E1 E2 T1 T2 M1 M2 MR hy hn1 hn2
  have B0 := Lib.hid (((Box.new w #[.complex .f64 a1 a2, .complex .f64 a3 a4] 28 _ rfl).alloc (.cells #[.complex .f64 b1 b2, .complex .f64 b3 b4] 28)).alloc (.cells #[.complex .f64 0 0, .complex .f64 0 0] 28))
  have B1 := Lib.hid ((Box.new (w.alloc (.cells #[.complex .f64 a1 a2, .complex .f64 a3 a4] 28)) #[.complex .f64 b1 b2, .complex .f64 b3 b4] 28 (w.heap.size + 1) (by simp)).alloc (.cells #[.complex .f64 0 0, .complex .f64 0 0] 28))
  have B2 := Lib.hid (Box.new ((w.alloc (.cells #[.complex .f64 a1 a2, .complex .f64 a3 a4] 28)).alloc (.cells #[.complex .f64 b1 b2, .complex .f64 b3 b4] 28)) #[.complex .f64 0 0, .complex .f64 0 0] 28 (w.heap.size + 1 + 1) (by simp))
  have G := Lib.hid (((alloc_below w (.cells #[.complex .f64 a1 a2, .complex .f64 a3 a4] 28)).alloc (by simp) (.cells #[.complex .f64 b1 b2, .complex .f64 b3 b4] 28)).alloc (by simp; omega) (.cells #[.complex .f64 0 0, .complex .f64 0 0] 28))
  go_enter Try.func18, Try.ntmps18
  go_wp2_with fail
  generalize ((w.alloc (.cells #[.complex .f64 a1 a2, .complex .f64 a3 a4] 28)).alloc (.cells #[.complex .f64 b1 b2, .complex .f64 b3 b4] 28)).alloc (.cells #[.complex .f64 0 0, .complex .f64 0 0] 28) = W0 at *
  have l0 := B0.out.lt
  have l1 := B1.out.lt
  refine region_via (fun a' W => ∃ n, a' = ⟨#[.agg #[.complex .f64 a1 a2, .complex .f64 a3 a4], .agg #[.complex .f64 b1 b2, .complex .f64 b3 b4], .pointer (some ⟨w.heap.size, 0, none⟩), .pointer (some ⟨w.heap.size + 1, 0, none⟩), .pointer (some ⟨w.heap.size + 1 + 1, 0, none⟩), .bool false, .pointer (some ⟨n, 0, none⟩), .bool k, undef, .tuple #[.agg #[.int .i64 m1, .int .i64 m2], .bool k], .agg #[.complex .f64 a1 a2, .complex .f64 a3 a4], .agg #[.int .i64 x1, .int .i64 x2], .agg #[.complex .f64 b1 b2, .complex .f64 b3 b4], .agg #[.int .i64 u1, .int .i64 u2], .tuple #[.agg #[.int .i64 m1, .int .i64 m2], .bool k], .agg #[.int .i64 m1, .int .i64 m2], .bool k, undef, undef, undef, undef, undef, undef, undef, undef, undef, undef, undef, undef, undef, undef, undef, undef, undef], []⟩ ∧ W0.heap.size ≤ n ∧ Box W n #[.int .i64 m1, .int .i64 m2] 23 ∧ Below W0.heap.size W0 W) ?_ ?_
  · have HI : (fun W => Below W0.heap.size W0 W) W0.drew := (Below.refl _ _).drewN 1
-- REGION A
    refine regk_start [9] (fun W => Below W0.heap.size W0 W) (by kernel_rfl) ?_
    generalize W0.drew = y0 at *
    refine regk_take 0 10 (v := ?_) (T' := ?_) HI (by kernel_rfl) (by kernel_rfl) (by kernel_rfl) (by kernel_rfl) (by kernel_rfl) (by kernel_rfl) (fun _ _ _ h => h) (fun o ho => ?_) ?_ ?_
    rotate_left 2
    · cases ho
      refine ⟨rfl, rfl, fun W hW => ?_⟩
      have hV0 := (Below.cell (p := ⟨w.heap.size, 0, none⟩) (show Below W0.heap.size W0 W from hW) l0).trans (B0.out.cell 0 (.complex .f64 a1 a2) rfl)
      have hV1 := (Below.cell (p := ⟨w.heap.size, 1, none⟩) (show Below W0.heap.size W0 W from hW) l0).trans (B0.out.cell 1 (.complex .f64 a3 a4) rfl)
      go_simp; (try with_reducible rfl)
    · simp only [List.setIfInBounds_toArray, List.set_cons_succ, List.set_cons_zero]; exact rfl
    refine regk_take 2 12 (v := ?_) (T' := ?_) HI (by kernel_rfl) (by kernel_rfl) (by kernel_rfl) (by kernel_rfl) (by kernel_rfl) (by kernel_rfl) (fun _ _ _ h => h) (fun o ho => ?_) ?_ ?_
    rotate_left 2
    · cases ho
      refine ⟨rfl, rfl, fun W hW => ?_⟩
      have hV0 := (Below.cell (p := ⟨w.heap.size + 1, 0, none⟩) (show Below W0.heap.size W0 W from hW) l1).trans (B1.out.cell 0 (.complex .f64 b1 b2) rfl)
      have hV1 := (Below.cell (p := ⟨w.heap.size + 1, 1, none⟩) (show Below W0.heap.size W0 W from hW) l1).trans (B1.out.cell 1 (.complex .f64 b3 b4) rfl)
      go_simp; (try with_reducible rfl)
    · simp only [List.setIfInBounds_toArray, List.set_cons_succ, List.set_cons_zero]; exact rfl
    refine regk_fork 1 8 (by kernel_rfl) ?_ ?_
    ·
      refine fork_call 1 11 (by kernel_rfl) 25 #[.agg #[.complex .f64 a1 a2, .complex .f64 a3 a4]] (fun o ho => by cases ho; exact ⟨rfl, rfl, fun W => by go_simp⟩) ?_
      refine (E1.out _).mono ?_
      rintro e y1 ⟨rfl, hb⟩
      have HI : (fun W => Below W0.heap.size W0 W) y1 := (show Below W0.heap.size W0 y0 from HI).trans (hb.mono (show Below W0.heap.size W0 y0 from HI).size)
      try (have HN := HN.later hb)
      refine ⟨_, _, rfl, (by simp only [List.setIfInBounds_toArray, List.set_cons_succ, List.set_cons_zero]; exact rfl), fun _ => HI, ?_⟩
      refine regk_fork 3 8 (by kernel_rfl) ?_ ?_
      ·
        refine fork_call 3 13 (by kernel_rfl) 25 #[.agg #[.complex .f64 b1 b2, .complex .f64 b3 b4]] (fun o ho => by cases ho; exact ⟨rfl, rfl, fun W => by go_simp⟩) ?_
        refine (E2.out _).mono ?_
        rintro e y2 ⟨rfl, hb⟩
        have HI : (fun W => Below W0.heap.size W0 W) y2 := (show Below W0.heap.size W0 y1 from HI).trans (hb.mono (show Below W0.heap.size W0 y1 from HI).size)
        try (have HN := HN.later hb)
        refine ⟨_, _, rfl, (by simp only [List.setIfInBounds_toArray, List.set_cons_succ, List.set_cons_zero]; exact rfl), fun _ => HI, ?_⟩
        refine regk_fork 4 8 (by kernel_rfl) ?_ ?_
        ·
          refine fork_call 4 14 (by kernel_rfl) 30 #[.agg #[.int .i64 x1, .int .i64 x2], .agg #[.int .i64 u1, .int .i64 u2]] (fun o ho => by cases ho; exact ⟨rfl, rfl, fun W => by go_simp⟩) ?_
          refine (M1.out _).mono ?_
          rintro e y3 ⟨rfl, hb⟩
          have HI : (fun W => Below W0.heap.size W0 W) y3 := (show Below W0.heap.size W0 y2 from HI).trans (hb.mono (show Below W0.heap.size W0 y2 from HI).size)
          try (have HN := HN.later hb)
          refine ⟨_, _, rfl, (by simp only [List.setIfInBounds_toArray, List.set_cons_succ, List.set_cons_zero]; exact rfl), fun _ => HI, ?_⟩
          refine regk_free 5 9 (v := ?_) (T' := ?_) (fun _ => HI) (by kernel_rfl) (by kernel_rfl) (by kernel_rfl) (by kernel_rfl) (fun _ _ _ h => h) (fun o ho => ?_) ?_ ?_
          rotate_left 2
          · cases ho
            refine ⟨rfl, rfl, fun W => ?_⟩
            go_simp; (try with_reducible rfl)
          · simp only [List.setIfInBounds_toArray, List.set_cons_succ, List.set_cons_zero]; exact rfl
          refine regk_free 6 15 (v := ?_) (T' := ?_) (fun _ => HI) (by kernel_rfl) (by kernel_rfl) (by kernel_rfl) (by kernel_rfl) (fun _ _ _ h => h) (fun o ho => ?_) ?_ ?_
          rotate_left 2
          · cases ho
            refine ⟨rfl, rfl, fun W => ?_⟩
            go_simp; (try with_reducible rfl)
          · simp only [List.setIfInBounds_toArray, List.set_cons_succ, List.set_cons_zero]; exact rfl
          refine regk_free 7 16 (v := ?_) (T' := ?_) (fun _ => HI) (by kernel_rfl) (by kernel_rfl) (by kernel_rfl) (by kernel_rfl) (fun _ _ _ h => h) (fun o ho => ?_) ?_ ?_
          rotate_left 2
          · cases ho
            refine ⟨rfl, rfl, fun W => ?_⟩
            go_simp; (try with_reducible rfl)
          · simp only [List.setIfInBounds_toArray, List.set_cons_succ, List.set_cons_zero]; exact rfl
          refine regk_make (I' := (fun W => Below W0.heap.size W0 W)) (fun _ h => h) 8 6 (v := .pointer (some ⟨y3.heap.size, 0, none⟩)) (w' := y3.alloc (.cells #[.int .i64 0, .int .i64 0] 23)) (T' := ?_) (by kernel_rfl) (fun o ho => ?_) (fun _ => ?_) ?_ ?_
          rotate_left
          · cases ho
            refine ⟨rfl, rfl, ?_⟩
            go_simp; (try with_reducible rfl)
          · exact (show Below W0.heap.size W0 y3 from HI).alloc (show Below W0.heap.size W0 y3 from HI).size _
          · simp only [List.setIfInBounds_toArray, List.set_cons_succ, List.set_cons_zero]; exact rfl
          have HN := Box.new y3 #[.int .i64 0, .int .i64 0] 23 _ rfl
          have hn : W0.heap.size ≤ y3.heap.size := (show Below W0.heap.size W0 y3 from HI).size
          have HI : (fun W => Below W0.heap.size W0 W) (y3.alloc (.cells #[.int .i64 0, .int .i64 0] 23)) := (show Below W0.heap.size W0 y3 from HI).alloc (show Below W0.heap.size W0 y3 from HI).size _
          generalize y3.alloc (.cells #[.int .i64 0, .int .i64 0] 23) = y4 at *
          generalize y3.heap.size = n at *
          have f0 := HN.frozen 0
          have f1 := HN.frozen 1
          have z0 := HN.cell 0 (.int .i64 0) rfl
          have z1 := HN.cell 1 (.int .i64 0) rfl
          refine regk_store (I' := (fun W => Below W0.heap.size W0 W)) (fun _ h => h) 9 (w' := (y4.setCell ⟨n, 0, none⟩ (.int .i64 m1)).setCell ⟨n, 1, none⟩ (.int .i64 m2)) (by kernel_rfl) (fun o ho => ?_) (noB_no (by kernel_rfl)) ?_
          · cases ho
            refine ⟨rfl, rfl, ?_⟩
            go_simp; (try with_reducible rfl)
          refine regk_free 10 7 (v := ?_) (T' := ?_) (noB_no (by kernel_rfl)) (by kernel_rfl) (by kernel_rfl) (by kernel_rfl) (by kernel_rfl) (fun _ _ _ h => h) (fun o ho => ?_) ?_ ?_
          rotate_left 2
          · cases ho
            refine ⟨rfl, rfl, fun W => ?_⟩
            go_simp; (try with_reducible rfl)
          · simp only [List.setIfInBounds_toArray, List.set_cons_succ, List.set_cons_zero]; exact rfl
          refine regk_done (by kernel_rfl) ?_
          refine Ends.mk ⟨n, rfl, hn, (HN.set 0 (.int .i64 m1)).set 1 (.int .i64 m2), ?_⟩
          exact ((show Below W0.heap.size W0 y4 from HI).setCell (p := ⟨n, 0, none⟩) hn _).setCell (p := ⟨n, 1, none⟩) hn _
        ·
          refine fork_make 8 6 (v := .pointer (some ⟨y2.heap.size, 0, none⟩)) (w' := y2.alloc (.cells #[.int .i64 0, .int .i64 0] 23)) (T' := ?_) (by kernel_rfl) (fun o ho => ?_) ?_ ?_
          rotate_left
          · cases ho
            refine ⟨rfl, rfl, ?_⟩
            go_simp; (try with_reducible rfl)
          · simp only [List.setIfInBounds_toArray, List.set_cons_succ, List.set_cons_zero]; exact rfl
          refine ⟨fun _ => (show Below W0.heap.size W0 y2 from HI).alloc (show Below W0.heap.size W0 y2 from HI).size _, ?_⟩
          have HN := Box.new y2 #[.int .i64 0, .int .i64 0] 23 _ rfl
          have hn : W0.heap.size ≤ y2.heap.size := (show Below W0.heap.size W0 y2 from HI).size
          have HI : (fun W => Below W0.heap.size W0 W) (y2.alloc (.cells #[.int .i64 0, .int .i64 0] 23)) := (show Below W0.heap.size W0 y2 from HI).alloc (show Below W0.heap.size W0 y2 from HI).size _
          generalize y2.alloc (.cells #[.int .i64 0, .int .i64 0] 23) = y5 at *
          generalize y2.heap.size = n at *
          refine regk_call (I' := (fun W => Below W0.heap.size W0 W)) (fun _ h => h) 4 14 (by kernel_rfl) 30 #[.agg #[.int .i64 x1, .int .i64 x2], .agg #[.int .i64 u1, .int .i64 u2]] (fun o ho => by cases ho; exact ⟨rfl, rfl, fun W => by go_simp⟩) ?_
          refine (M1.out _).mono ?_
          rintro e y6 ⟨rfl, hb⟩
          have HI : (fun W => Below W0.heap.size W0 W) y6 := (show Below W0.heap.size W0 y5 from HI).trans (hb.mono (show Below W0.heap.size W0 y5 from HI).size)
          try (have HN := HN.later hb)
          refine ⟨_, _, rfl, fun _ => HI, (by simp only [List.setIfInBounds_toArray, List.set_cons_succ, List.set_cons_zero]; exact rfl), ?_⟩
          refine regk_free 5 9 (v := ?_) (T' := ?_) (fun _ => HI) (by kernel_rfl) (by kernel_rfl) (by kernel_rfl) (by kernel_rfl) (fun _ _ _ h => h) (fun o ho => ?_) ?_ ?_
          rotate_left 2
          · cases ho
            refine ⟨rfl, rfl, fun W => ?_⟩
            go_simp; (try with_reducible rfl)
          · simp only [List.setIfInBounds_toArray, List.set_cons_succ, List.set_cons_zero]; exact rfl
          refine regk_free 6 15 (v := ?_) (T' := ?_) (fun _ => HI) (by kernel_rfl) (by kernel_rfl) (by kernel_rfl) (by kernel_rfl) (fun _ _ _ h => h) (fun o ho => ?_) ?_ ?_
          rotate_left 2
          · cases ho
            refine ⟨rfl, rfl, fun W => ?_⟩
            go_simp; (try with_reducible rfl)
          · simp only [List.setIfInBounds_toArray, List.set_cons_succ, List.set_cons_zero]; exact rfl
          refine regk_free 7 16 (v := ?_) (T' := ?_) (fun _ => HI) (by kernel_rfl) (by kernel_rfl) (by kernel_rfl) (by kernel_rfl) (fun _ _ _ h => h) (fun o ho => ?_) ?_ ?_
          rotate_left 2
          · cases ho
            refine ⟨rfl, rfl, fun W => ?_⟩
            go_simp; (try with_reducible rfl)
          · simp only [List.setIfInBounds_toArray, List.set_cons_succ, List.set_cons_zero]; exact rfl
          have f0 := HN.frozen 0
          have f1 := HN.frozen 1
          have z0 := HN.cell 0 (.int .i64 0) rfl
          have z1 := HN.cell 1 (.int .i64 0) rfl
          refine regk_store (I' := (fun W => Below W0.heap.size W0 W)) (fun _ h => h) 9 (w' := (y6.setCell ⟨n, 0, none⟩ (.int .i64 m1)).setCell ⟨n, 1, none⟩ (.int .i64 m2)) (by kernel_rfl) (fun o ho => ?_) (noB_no (by kernel_rfl)) ?_
          · cases ho
            refine ⟨rfl, rfl, ?_⟩
            go_simp; (try with_reducible rfl)
          refine regk_free 10 7 (v := ?_) (T' := ?_) (noB_no (by kernel_rfl)) (by kernel_rfl) (by kernel_rfl) (by kernel_rfl) (by kernel_rfl) (fun _ _ _ h => h) (fun o ho => ?_) ?_ ?_
          rotate_left 2
          · cases ho
            refine ⟨rfl, rfl, fun W => ?_⟩
            go_simp; (try with_reducible rfl)
          · simp only [List.setIfInBounds_toArray, List.set_cons_succ, List.set_cons_zero]; exact rfl
          refine regk_done (by kernel_rfl) ?_
          refine Ends.mk ⟨n, rfl, hn, (HN.set 0 (.int .i64 m1)).set 1 (.int .i64 m2), ?_⟩
          exact ((show Below W0.heap.size W0 y6 from HI).setCell (p := ⟨n, 0, none⟩) hn _).setCell (p := ⟨n, 1, none⟩) hn _
      ·
        refine fork_make 8 6 (v := .pointer (some ⟨y1.heap.size, 0, none⟩)) (w' := y1.alloc (.cells #[.int .i64 0, .int .i64 0] 23)) (T' := ?_) (by kernel_rfl) (fun o ho => ?_) ?_ ?_
        rotate_left
        · cases ho
          refine ⟨rfl, rfl, ?_⟩
          go_simp; (try with_reducible rfl)
        · simp only [List.setIfInBounds_toArray, List.set_cons_succ, List.set_cons_zero]; exact rfl
        refine ⟨fun _ => (show Below W0.heap.size W0 y1 from HI).alloc (show Below W0.heap.size W0 y1 from HI).size _, ?_⟩
        have HN := Box.new y1 #[.int .i64 0, .int .i64 0] 23 _ rfl
        have hn : W0.heap.size ≤ y1.heap.size := (show Below W0.heap.size W0 y1 from HI).size
        have HI : (fun W => Below W0.heap.size W0 W) (y1.alloc (.cells #[.int .i64 0, .int .i64 0] 23)) := (show Below W0.heap.size W0 y1 from HI).alloc (show Below W0.heap.size W0 y1 from HI).size _
        generalize y1.alloc (.cells #[.int .i64 0, .int .i64 0] 23) = y7 at *
        generalize y1.heap.size = n at *
        refine regk_call (I' := (fun W => Below W0.heap.size W0 W)) (fun _ h => h) 3 13 (by kernel_rfl) 25 #[.agg #[.complex .f64 b1 b2, .complex .f64 b3 b4]] (fun o ho => by cases ho; exact ⟨rfl, rfl, fun W => by go_simp⟩) ?_
        refine (E2.out _).mono ?_
        rintro e y8 ⟨rfl, hb⟩
        have HI : (fun W => Below W0.heap.size W0 W) y8 := (show Below W0.heap.size W0 y7 from HI).trans (hb.mono (show Below W0.heap.size W0 y7 from HI).size)
        try (have HN := HN.later hb)
        refine ⟨_, _, rfl, fun _ => HI, (by simp only [List.setIfInBounds_toArray, List.set_cons_succ, List.set_cons_zero]; exact rfl), ?_⟩
        refine regk_call (I' := (fun W => Below W0.heap.size W0 W)) (fun _ h => h) 4 14 (by kernel_rfl) 30 #[.agg #[.int .i64 x1, .int .i64 x2], .agg #[.int .i64 u1, .int .i64 u2]] (fun o ho => by cases ho; exact ⟨rfl, rfl, fun W => by go_simp⟩) ?_
        refine (M1.out _).mono ?_
        rintro e y9 ⟨rfl, hb⟩
        have HI : (fun W => Below W0.heap.size W0 W) y9 := (show Below W0.heap.size W0 y8 from HI).trans (hb.mono (show Below W0.heap.size W0 y8 from HI).size)
        try (have HN := HN.later hb)
        refine ⟨_, _, rfl, fun _ => HI, (by simp only [List.setIfInBounds_toArray, List.set_cons_succ, List.set_cons_zero]; exact rfl), ?_⟩
        refine regk_free 5 9 (v := ?_) (T' := ?_) (fun _ => HI) (by kernel_rfl) (by kernel_rfl) (by kernel_rfl) (by kernel_rfl) (fun _ _ _ h => h) (fun o ho => ?_) ?_ ?_
        rotate_left 2
        · cases ho
          refine ⟨rfl, rfl, fun W => ?_⟩
          go_simp; (try with_reducible rfl)
        · simp only [List.setIfInBounds_toArray, List.set_cons_succ, List.set_cons_zero]; exact rfl
        refine regk_free 6 15 (v := ?_) (T' := ?_) (fun _ => HI) (by kernel_rfl) (by kernel_rfl) (by kernel_rfl) (by kernel_rfl) (fun _ _ _ h => h) (fun o ho => ?_) ?_ ?_
        rotate_left 2
        · cases ho
          refine ⟨rfl, rfl, fun W => ?_⟩
          go_simp; (try with_reducible rfl)
        · simp only [List.setIfInBounds_toArray, List.set_cons_succ, List.set_cons_zero]; exact rfl
        refine regk_free 7 16 (v := ?_) (T' := ?_) (fun _ => HI) (by kernel_rfl) (by kernel_rfl) (by kernel_rfl) (by kernel_rfl) (fun _ _ _ h => h) (fun o ho => ?_) ?_ ?_
        rotate_left 2
        · cases ho
          refine ⟨rfl, rfl, fun W => ?_⟩
          go_simp; (try with_reducible rfl)
        · simp only [List.setIfInBounds_toArray, List.set_cons_succ, List.set_cons_zero]; exact rfl
        have f0 := HN.frozen 0
        have f1 := HN.frozen 1
        have z0 := HN.cell 0 (.int .i64 0) rfl
        have z1 := HN.cell 1 (.int .i64 0) rfl
        refine regk_store (I' := (fun W => Below W0.heap.size W0 W)) (fun _ h => h) 9 (w' := (y9.setCell ⟨n, 0, none⟩ (.int .i64 m1)).setCell ⟨n, 1, none⟩ (.int .i64 m2)) (by kernel_rfl) (fun o ho => ?_) (noB_no (by kernel_rfl)) ?_
        · cases ho
          refine ⟨rfl, rfl, ?_⟩
          go_simp; (try with_reducible rfl)
        refine regk_free 10 7 (v := ?_) (T' := ?_) (noB_no (by kernel_rfl)) (by kernel_rfl) (by kernel_rfl) (by kernel_rfl) (by kernel_rfl) (fun _ _ _ h => h) (fun o ho => ?_) ?_ ?_
        rotate_left 2
        · cases ho
          refine ⟨rfl, rfl, fun W => ?_⟩
          go_simp; (try with_reducible rfl)
        · simp only [List.setIfInBounds_toArray, List.set_cons_succ, List.set_cons_zero]; exact rfl
        refine regk_done (by kernel_rfl) ?_
        refine Ends.mk ⟨n, rfl, hn, (HN.set 0 (.int .i64 m1)).set 1 (.int .i64 m2), ?_⟩
        exact ((show Below W0.heap.size W0 y9 from HI).setCell (p := ⟨n, 0, none⟩) hn _).setCell (p := ⟨n, 1, none⟩) hn _
    ·
      refine fork_make 8 6 (v := .pointer (some ⟨y0.heap.size, 0, none⟩)) (w' := y0.alloc (.cells #[.int .i64 0, .int .i64 0] 23)) (T' := ?_) (by kernel_rfl) (fun o ho => ?_) ?_ ?_
      rotate_left
      · cases ho
        refine ⟨rfl, rfl, ?_⟩
        go_simp; (try with_reducible rfl)
      · simp only [List.setIfInBounds_toArray, List.set_cons_succ, List.set_cons_zero]; exact rfl
      refine ⟨fun _ => (show Below W0.heap.size W0 y0 from HI).alloc (show Below W0.heap.size W0 y0 from HI).size _, ?_⟩
      have HN := Box.new y0 #[.int .i64 0, .int .i64 0] 23 _ rfl
      have hn : W0.heap.size ≤ y0.heap.size := (show Below W0.heap.size W0 y0 from HI).size
      have HI : (fun W => Below W0.heap.size W0 W) (y0.alloc (.cells #[.int .i64 0, .int .i64 0] 23)) := (show Below W0.heap.size W0 y0 from HI).alloc (show Below W0.heap.size W0 y0 from HI).size _
      generalize y0.alloc (.cells #[.int .i64 0, .int .i64 0] 23) = y10 at *
      generalize y0.heap.size = n at *
      refine regk_call (I' := (fun W => Below W0.heap.size W0 W)) (fun _ h => h) 1 11 (by kernel_rfl) 25 #[.agg #[.complex .f64 a1 a2, .complex .f64 a3 a4]] (fun o ho => by cases ho; exact ⟨rfl, rfl, fun W => by go_simp⟩) ?_
      refine (E1.out _).mono ?_
      rintro e y11 ⟨rfl, hb⟩
      have HI : (fun W => Below W0.heap.size W0 W) y11 := (show Below W0.heap.size W0 y10 from HI).trans (hb.mono (show Below W0.heap.size W0 y10 from HI).size)
      try (have HN := HN.later hb)
      refine ⟨_, _, rfl, fun _ => HI, (by simp only [List.setIfInBounds_toArray, List.set_cons_succ, List.set_cons_zero]; exact rfl), ?_⟩
      refine regk_call (I' := (fun W => Below W0.heap.size W0 W)) (fun _ h => h) 3 13 (by kernel_rfl) 25 #[.agg #[.complex .f64 b1 b2, .complex .f64 b3 b4]] (fun o ho => by cases ho; exact ⟨rfl, rfl, fun W => by go_simp⟩) ?_
      refine (E2.out _).mono ?_
      rintro e y12 ⟨rfl, hb⟩
      have HI : (fun W => Below W0.heap.size W0 W) y12 := (show Below W0.heap.size W0 y11 from HI).trans (hb.mono (show Below W0.heap.size W0 y11 from HI).size)
      try (have HN := HN.later hb)
      refine ⟨_, _, rfl, fun _ => HI, (by simp only [List.setIfInBounds_toArray, List.set_cons_succ, List.set_cons_zero]; exact rfl), ?_⟩
      refine regk_call (I' := (fun W => Below W0.heap.size W0 W)) (fun _ h => h) 4 14 (by kernel_rfl) 30 #[.agg #[.int .i64 x1, .int .i64 x2], .agg #[.int .i64 u1, .int .i64 u2]] (fun o ho => by cases ho; exact ⟨rfl, rfl, fun W => by go_simp⟩) ?_
      refine (M1.out _).mono ?_
      rintro e y13 ⟨rfl, hb⟩
      have HI : (fun W => Below W0.heap.size W0 W) y13 := (show Below W0.heap.size W0 y12 from HI).trans (hb.mono (show Below W0.heap.size W0 y12 from HI).size)
      try (have HN := HN.later hb)
      refine ⟨_, _, rfl, fun _ => HI, (by simp only [List.setIfInBounds_toArray, List.set_cons_succ, List.set_cons_zero]; exact rfl), ?_⟩
      refine regk_free 5 9 (v := ?_) (T' := ?_) (fun _ => HI) (by kernel_rfl) (by kernel_rfl) (by kernel_rfl) (by kernel_rfl) (fun _ _ _ h => h) (fun o ho => ?_) ?_ ?_
      rotate_left 2
      · cases ho
        refine ⟨rfl, rfl, fun W => ?_⟩
        go_simp; (try with_reducible rfl)
      · simp only [List.setIfInBounds_toArray, List.set_cons_succ, List.set_cons_zero]; exact rfl
      refine regk_free 6 15 (v := ?_) (T' := ?_) (fun _ => HI) (by kernel_rfl) (by kernel_rfl) (by kernel_rfl) (by kernel_rfl) (fun _ _ _ h => h) (fun o ho => ?_) ?_ ?_
      rotate_left 2
      · cases ho
        refine ⟨rfl, rfl, fun W => ?_⟩
        go_simp; (try with_reducible rfl)
      · simp only [List.setIfInBounds_toArray, List.set_cons_succ, List.set_cons_zero]; exact rfl
      refine regk_free 7 16 (v := ?_) (T' := ?_) (fun _ => HI) (by kernel_rfl) (by kernel_rfl) (by kernel_rfl) (by kernel_rfl) (fun _ _ _ h => h) (fun o ho => ?_) ?_ ?_
      rotate_left 2
      · cases ho
        refine ⟨rfl, rfl, fun W => ?_⟩
        go_simp; (try with_reducible rfl)
      · simp only [List.setIfInBounds_toArray, List.set_cons_succ, List.set_cons_zero]; exact rfl
      have f0 := HN.frozen 0
      have f1 := HN.frozen 1
      have z0 := HN.cell 0 (.int .i64 0) rfl
      have z1 := HN.cell 1 (.int .i64 0) rfl
      refine regk_store (I' := (fun W => Below W0.heap.size W0 W)) (fun _ h => h) 9 (w' := (y13.setCell ⟨n, 0, none⟩ (.int .i64 m1)).setCell ⟨n, 1, none⟩ (.int .i64 m2)) (by kernel_rfl) (fun o ho => ?_) (noB_no (by kernel_rfl)) ?_
      · cases ho
        refine ⟨rfl, rfl, ?_⟩
        go_simp; (try with_reducible rfl)
      refine regk_free 10 7 (v := ?_) (T' := ?_) (noB_no (by kernel_rfl)) (by kernel_rfl) (by kernel_rfl) (by kernel_rfl) (by kernel_rfl) (fun _ _ _ h => h) (fun o ho => ?_) ?_ ?_
      rotate_left 2
      · cases ho
        refine ⟨rfl, rfl, fun W => ?_⟩
        go_simp; (try with_reducible rfl)
      · simp only [List.setIfInBounds_toArray, List.set_cons_succ, List.set_cons_zero]; exact rfl
      refine regk_done (by kernel_rfl) ?_
      refine Ends.mk ⟨n, rfl, hn, (HN.set 0 (.int .i64 m1)).set 1 (.int .i64 m2), ?_⟩
      exact ((show Below W0.heap.size W0 y13 from HI).setCell (p := ⟨n, 0, none⟩) hn _).setCell (p := ⟨n, 1, none⟩) hn _
-- DONE A
  rintro a' W1 ⟨n, rfl, hn, hN, hB⟩
  have hnw := Lib.hid (show w.heap.size + 1 + 1 < n from by have := B2.out.lt; omega)
  have B0 := Lib.hid (B0.out.later hB)
  have B1 := Lib.hid (B1.out.later hB)
  have B2 := Lib.hid (B2.out.later hB)
  have G := Lib.hid (G.out.trans (hB.mono G.out.size))
  have HN := Lib.hid hN
  clear hB hN l0 l1 hn
  cases k
  · have hr := (show res = (r0, false) from by first | exact hn1.out rfl | exact hn1.out (by trivial))
    subst hr
    have f0 := B2.out.frozen 0
    have f1 := B2.out.frozen 1
    have z0 := B2.out.cell 0 (.complex .f64 0 0) rfl
    have z1 := B2.out.cell 1 (.complex .f64 0 0) rfl
    have GZ := Lib.hid ((G.out.setCell (p := ⟨w.heap.size + 1 + 1, 0, none⟩) (by simp only; omega) (.complex .f64 0 0)).setCell (p := ⟨w.heap.size + 1 + 1, 1, none⟩) (by simp only; omega) (.complex .f64 0 0))
    go_wp2_with fail
    refine bodyPost_ret (v := .tuple #[.agg #[.complex .f64 0 0, .complex .f64 0 0], .bool false]) ?_ rfl ⟨by rw [hz.out], GZ.out⟩
    rw [results_cell_tmp rfl]
    go_simp
  · go_wp2_with fail
    have l0 := B0.out.lt
    have l1 := B1.out.lt
    have l3 := HN.out.lt
    refine region_via (fun a' W => ∃ n2, a' = ⟨#[.agg #[.complex .f64 a1 a2, .complex .f64 a3 a4], .agg #[.complex .f64 b1 b2, .complex .f64 b3 b4], .pointer (some ⟨w.heap.size, 0, none⟩), .pointer (some ⟨w.heap.size + 1, 0, none⟩), .pointer (some ⟨w.heap.size + 1 + 1, 0, none⟩), .bool false, .pointer (some ⟨n, 0, none⟩), .bool k2, .pointer (some ⟨n2, 0, none⟩), .tuple #[.agg #[.int .i64 m1, .int .i64 m2], .bool true], .agg #[.complex .f64 a1 a2, .complex .f64 a3 a4], .agg #[.int .i64 x1, .int .i64 x2], .agg #[.complex .f64 b1 b2, .complex .f64 b3 b4], .agg #[.int .i64 u1, .int .i64 u2], .tuple #[.agg #[.int .i64 m1, .int .i64 m2], .bool true], .agg #[.int .i64 m1, .int .i64 m2], .bool true, .bool true, .bool false, undef, .tuple #[.agg #[.int .i64 q1, .int .i64 q2], .bool k2], .agg #[.complex .f64 a1 a2, .complex .f64 a3 a4], .agg #[.int .i64 z1, .int .i64 z2], .agg #[.complex .f64 b1 b2, .complex .f64 b3 b4], .agg #[.int .i64 v1, .int .i64 v2], .tuple #[.agg #[.int .i64 q1, .int .i64 q2], .bool k2], .agg #[.int .i64 q1, .int .i64 q2], .bool k2, undef, undef, undef, undef, undef, undef], []⟩ ∧ W1.heap.size ≤ n2 ∧ Box W n2 #[.int .i64 q1, .int .i64 q2] 23 ∧ Below W1.heap.size W1 W) ?_ ?_
    · have HI : (fun W => Below W1.heap.size W1 W) W1.drew := (Below.refl _ _).drewN 1
-- REGION B
      refine regk_start [9] (fun W => Below W1.heap.size W1 W) (by kernel_rfl) ?_
      generalize W1.drew = y0 at *
      refine regk_take 0 21 (v := ?_) (T' := ?_) HI (by kernel_rfl) (by kernel_rfl) (by kernel_rfl) (by kernel_rfl) (by kernel_rfl) (by kernel_rfl) (fun _ _ _ h => h) (fun o ho => ?_) ?_ ?_
      rotate_left 2
      · cases ho
        refine ⟨rfl, rfl, fun W hW => ?_⟩
        have hV0 := (Below.cell (p := ⟨w.heap.size, 0, none⟩) (show Below W1.heap.size W1 W from hW) l0).trans (B0.out.cell 0 (.complex .f64 a1 a2) rfl)
        have hV1 := (Below.cell (p := ⟨w.heap.size, 1, none⟩) (show Below W1.heap.size W1 W from hW) l0).trans (B0.out.cell 1 (.complex .f64 a3 a4) rfl)
        go_simp; (try with_reducible rfl)
      · simp only [List.setIfInBounds_toArray, List.set_cons_succ, List.set_cons_zero]; exact rfl
      refine regk_take 2 23 (v := ?_) (T' := ?_) HI (by kernel_rfl) (by kernel_rfl) (by kernel_rfl) (by kernel_rfl) (by kernel_rfl) (by kernel_rfl) (fun _ _ _ h => h) (fun o ho => ?_) ?_ ?_
      rotate_left 2
      · cases ho
        refine ⟨rfl, rfl, fun W hW => ?_⟩
        have hV0 := (Below.cell (p := ⟨w.heap.size + 1, 0, none⟩) (show Below W1.heap.size W1 W from hW) l1).trans (B1.out.cell 0 (.complex .f64 b1 b2) rfl)
        have hV1 := (Below.cell (p := ⟨w.heap.size + 1, 1, none⟩) (show Below W1.heap.size W1 W from hW) l1).trans (B1.out.cell 1 (.complex .f64 b3 b4) rfl)
        go_simp; (try with_reducible rfl)
      · simp only [List.setIfInBounds_toArray, List.set_cons_succ, List.set_cons_zero]; exact rfl
      refine regk_fork 1 8 (by kernel_rfl) ?_ ?_
      ·
        refine fork_call 1 22 (by kernel_rfl) 26 #[.agg #[.complex .f64 a1 a2, .complex .f64 a3 a4]] (fun o ho => by cases ho; exact ⟨rfl, rfl, fun W => by go_simp⟩) ?_
        refine (T1.out _).mono ?_
        rintro e y1 ⟨rfl, hb⟩
        have HI : (fun W => Below W1.heap.size W1 W) y1 := (show Below W1.heap.size W1 y0 from HI).trans (hb.mono (show Below W1.heap.size W1 y0 from HI).size)
        try (have HN := HN.later hb)
        refine ⟨_, _, rfl, (by simp only [List.setIfInBounds_toArray, List.set_cons_succ, List.set_cons_zero]; exact rfl), fun _ => HI, ?_⟩
        refine regk_fork 3 8 (by kernel_rfl) ?_ ?_
        ·
          refine fork_call 3 24 (by kernel_rfl) 26 #[.agg #[.complex .f64 b1 b2, .complex .f64 b3 b4]] (fun o ho => by cases ho; exact ⟨rfl, rfl, fun W => by go_simp⟩) ?_
          refine (T2.out _).mono ?_
          rintro e y2 ⟨rfl, hb⟩
          have HI : (fun W => Below W1.heap.size W1 W) y2 := (show Below W1.heap.size W1 y1 from HI).trans (hb.mono (show Below W1.heap.size W1 y1 from HI).size)
          try (have HN := HN.later hb)
          refine ⟨_, _, rfl, (by simp only [List.setIfInBounds_toArray, List.set_cons_succ, List.set_cons_zero]; exact rfl), fun _ => HI, ?_⟩
          refine regk_fork 4 8 (by kernel_rfl) ?_ ?_
          ·
            refine fork_call 4 25 (by kernel_rfl) 30 #[.agg #[.int .i64 z1, .int .i64 z2], .agg #[.int .i64 v1, .int .i64 v2]] (fun o ho => by cases ho; exact ⟨rfl, rfl, fun W => by go_simp⟩) ?_
            refine (M2.out _).mono ?_
            rintro e y3 ⟨rfl, hb⟩
            have HI : (fun W => Below W1.heap.size W1 W) y3 := (show Below W1.heap.size W1 y2 from HI).trans (hb.mono (show Below W1.heap.size W1 y2 from HI).size)
            try (have HN := HN.later hb)
            refine ⟨_, _, rfl, (by simp only [List.setIfInBounds_toArray, List.set_cons_succ, List.set_cons_zero]; exact rfl), fun _ => HI, ?_⟩
            refine regk_free 5 20 (v := ?_) (T' := ?_) (fun _ => HI) (by kernel_rfl) (by kernel_rfl) (by kernel_rfl) (by kernel_rfl) (fun _ _ _ h => h) (fun o ho => ?_) ?_ ?_
            rotate_left 2
            · cases ho
              refine ⟨rfl, rfl, fun W => ?_⟩
              go_simp; (try with_reducible rfl)
            · simp only [List.setIfInBounds_toArray, List.set_cons_succ, List.set_cons_zero]; exact rfl
            refine regk_free 6 26 (v := ?_) (T' := ?_) (fun _ => HI) (by kernel_rfl) (by kernel_rfl) (by kernel_rfl) (by kernel_rfl) (fun _ _ _ h => h) (fun o ho => ?_) ?_ ?_
            rotate_left 2
            · cases ho
              refine ⟨rfl, rfl, fun W => ?_⟩
              go_simp; (try with_reducible rfl)
            · simp only [List.setIfInBounds_toArray, List.set_cons_succ, List.set_cons_zero]; exact rfl
            refine regk_free 7 27 (v := ?_) (T' := ?_) (fun _ => HI) (by kernel_rfl) (by kernel_rfl) (by kernel_rfl) (by kernel_rfl) (fun _ _ _ h => h) (fun o ho => ?_) ?_ ?_
            rotate_left 2
            · cases ho
              refine ⟨rfl, rfl, fun W => ?_⟩
              go_simp; (try with_reducible rfl)
            · simp only [List.setIfInBounds_toArray, List.set_cons_succ, List.set_cons_zero]; exact rfl
            refine regk_make (I' := (fun W => Below W1.heap.size W1 W)) (fun _ h => h) 8 8 (v := .pointer (some ⟨y3.heap.size, 0, none⟩)) (w' := y3.alloc (.cells #[.int .i64 0, .int .i64 0] 23)) (T' := ?_) (by kernel_rfl) (fun o ho => ?_) (fun _ => ?_) ?_ ?_
            rotate_left
            · cases ho
              refine ⟨rfl, rfl, ?_⟩
              go_simp; (try with_reducible rfl)
            · exact (show Below W1.heap.size W1 y3 from HI).alloc (show Below W1.heap.size W1 y3 from HI).size _
            · simp only [List.setIfInBounds_toArray, List.set_cons_succ, List.set_cons_zero]; exact rfl
            have HN := Box.new y3 #[.int .i64 0, .int .i64 0] 23 _ rfl
            have hn : W1.heap.size ≤ y3.heap.size := (show Below W1.heap.size W1 y3 from HI).size
            have HI : (fun W => Below W1.heap.size W1 W) (y3.alloc (.cells #[.int .i64 0, .int .i64 0] 23)) := (show Below W1.heap.size W1 y3 from HI).alloc (show Below W1.heap.size W1 y3 from HI).size _
            generalize y3.alloc (.cells #[.int .i64 0, .int .i64 0] 23) = y4 at *
            generalize y3.heap.size = n2 at *
            have f0 := HN.frozen 0
            have f1 := HN.frozen 1
            have z0 := HN.cell 0 (.int .i64 0) rfl
            have z1 := HN.cell 1 (.int .i64 0) rfl
            refine regk_store (I' := (fun W => Below W1.heap.size W1 W)) (fun _ h => h) 9 (w' := (y4.setCell ⟨n2, 0, none⟩ (.int .i64 q1)).setCell ⟨n2, 1, none⟩ (.int .i64 q2)) (by kernel_rfl) (fun o ho => ?_) (noB_no (by kernel_rfl)) ?_
            · cases ho
              refine ⟨rfl, rfl, ?_⟩
              go_simp; (try with_reducible rfl)
            refine regk_free 10 7 (v := ?_) (T' := ?_) (noB_no (by kernel_rfl)) (by kernel_rfl) (by kernel_rfl) (by kernel_rfl) (by kernel_rfl) (fun _ _ _ h => h) (fun o ho => ?_) ?_ ?_
            rotate_left 2
            · cases ho
              refine ⟨rfl, rfl, fun W => ?_⟩
              go_simp; (try with_reducible rfl)
            · simp only [List.setIfInBounds_toArray, List.set_cons_succ, List.set_cons_zero]; exact rfl
            refine regk_done (by kernel_rfl) ?_
            refine Ends.mk ⟨n2, rfl, hn, (HN.set 0 (.int .i64 q1)).set 1 (.int .i64 q2), ?_⟩
            exact ((show Below W1.heap.size W1 y4 from HI).setCell (p := ⟨n2, 0, none⟩) hn _).setCell (p := ⟨n2, 1, none⟩) hn _
          ·
            refine fork_make 8 8 (v := .pointer (some ⟨y2.heap.size, 0, none⟩)) (w' := y2.alloc (.cells #[.int .i64 0, .int .i64 0] 23)) (T' := ?_) (by kernel_rfl) (fun o ho => ?_) ?_ ?_
            rotate_left
            · cases ho
              refine ⟨rfl, rfl, ?_⟩
              go_simp; (try with_reducible rfl)
            · simp only [List.setIfInBounds_toArray, List.set_cons_succ, List.set_cons_zero]; exact rfl
            refine ⟨fun _ => (show Below W1.heap.size W1 y2 from HI).alloc (show Below W1.heap.size W1 y2 from HI).size _, ?_⟩
            have HN := Box.new y2 #[.int .i64 0, .int .i64 0] 23 _ rfl
            have hn : W1.heap.size ≤ y2.heap.size := (show Below W1.heap.size W1 y2 from HI).size
            have HI : (fun W => Below W1.heap.size W1 W) (y2.alloc (.cells #[.int .i64 0, .int .i64 0] 23)) := (show Below W1.heap.size W1 y2 from HI).alloc (show Below W1.heap.size W1 y2 from HI).size _
            generalize y2.alloc (.cells #[.int .i64 0, .int .i64 0] 23) = y5 at *
            generalize y2.heap.size = n2 at *
            refine regk_call (I' := (fun W => Below W1.heap.size W1 W)) (fun _ h => h) 4 25 (by kernel_rfl) 30 #[.agg #[.int .i64 z1, .int .i64 z2], .agg #[.int .i64 v1, .int .i64 v2]] (fun o ho => by cases ho; exact ⟨rfl, rfl, fun W => by go_simp⟩) ?_
            refine (M2.out _).mono ?_
            rintro e y6 ⟨rfl, hb⟩
            have HI : (fun W => Below W1.heap.size W1 W) y6 := (show Below W1.heap.size W1 y5 from HI).trans (hb.mono (show Below W1.heap.size W1 y5 from HI).size)
            try (have HN := HN.later hb)
            refine ⟨_, _, rfl, fun _ => HI, (by simp only [List.setIfInBounds_toArray, List.set_cons_succ, List.set_cons_zero]; exact rfl), ?_⟩
            refine regk_free 5 20 (v := ?_) (T' := ?_) (fun _ => HI) (by kernel_rfl) (by kernel_rfl) (by kernel_rfl) (by kernel_rfl) (fun _ _ _ h => h) (fun o ho => ?_) ?_ ?_
            rotate_left 2
            · cases ho
              refine ⟨rfl, rfl, fun W => ?_⟩
              go_simp; (try with_reducible rfl)
            · simp only [List.setIfInBounds_toArray, List.set_cons_succ, List.set_cons_zero]; exact rfl
            refine regk_free 6 26 (v := ?_) (T' := ?_) (fun _ => HI) (by kernel_rfl) (by kernel_rfl) (by kernel_rfl) (by kernel_rfl) (fun _ _ _ h => h) (fun o ho => ?_) ?_ ?_
            rotate_left 2
            · cases ho
              refine ⟨rfl, rfl, fun W => ?_⟩
              go_simp; (try with_reducible rfl)
            · simp only [List.setIfInBounds_toArray, List.set_cons_succ, List.set_cons_zero]; exact rfl
            refine regk_free 7 27 (v := ?_) (T' := ?_) (fun _ => HI) (by kernel_rfl) (by kernel_rfl) (by kernel_rfl) (by kernel_rfl) (fun _ _ _ h => h) (fun o ho => ?_) ?_ ?_
            rotate_left 2
            · cases ho
              refine ⟨rfl, rfl, fun W => ?_⟩
              go_simp; (try with_reducible rfl)
            · simp only [List.setIfInBounds_toArray, List.set_cons_succ, List.set_cons_zero]; exact rfl
            have f0 := HN.frozen 0
            have f1 := HN.frozen 1
            have z0 := HN.cell 0 (.int .i64 0) rfl
            have z1 := HN.cell 1 (.int .i64 0) rfl
            refine regk_store (I' := (fun W => Below W1.heap.size W1 W)) (fun _ h => h) 9 (w' := (y6.setCell ⟨n2, 0, none⟩ (.int .i64 q1)).setCell ⟨n2, 1, none⟩ (.int .i64 q2)) (by kernel_rfl) (fun o ho => ?_) (noB_no (by kernel_rfl)) ?_
            · cases ho
              refine ⟨rfl, rfl, ?_⟩
              go_simp; (try with_reducible rfl)
            refine regk_free 10 7 (v := ?_) (T' := ?_) (noB_no (by kernel_rfl)) (by kernel_rfl) (by kernel_rfl) (by kernel_rfl) (by kernel_rfl) (fun _ _ _ h => h) (fun o ho => ?_) ?_ ?_
            rotate_left 2
            · cases ho
              refine ⟨rfl, rfl, fun W => ?_⟩
              go_simp; (try with_reducible rfl)
            · simp only [List.setIfInBounds_toArray, List.set_cons_succ, List.set_cons_zero]; exact rfl
            refine regk_done (by kernel_rfl) ?_
            refine Ends.mk ⟨n2, rfl, hn, (HN.set 0 (.int .i64 q1)).set 1 (.int .i64 q2), ?_⟩
            exact ((show Below W1.heap.size W1 y6 from HI).setCell (p := ⟨n2, 0, none⟩) hn _).setCell (p := ⟨n2, 1, none⟩) hn _
        ·
          refine fork_make 8 8 (v := .pointer (some ⟨y1.heap.size, 0, none⟩)) (w' := y1.alloc (.cells #[.int .i64 0, .int .i64 0] 23)) (T' := ?_) (by kernel_rfl) (fun o ho => ?_) ?_ ?_
          rotate_left
          · cases ho
            refine ⟨rfl, rfl, ?_⟩
            go_simp; (try with_reducible rfl)
          · simp only [List.setIfInBounds_toArray, List.set_cons_succ, List.set_cons_zero]; exact rfl
          refine ⟨fun _ => (show Below W1.heap.size W1 y1 from HI).alloc (show Below W1.heap.size W1 y1 from HI).size _, ?_⟩
          have HN := Box.new y1 #[.int .i64 0, .int .i64 0] 23 _ rfl
          have hn : W1.heap.size ≤ y1.heap.size := (show Below W1.heap.size W1 y1 from HI).size
          have HI : (fun W => Below W1.heap.size W1 W) (y1.alloc (.cells #[.int .i64 0, .int .i64 0] 23)) := (show Below W1.heap.size W1 y1 from HI).alloc (show Below W1.heap.size W1 y1 from HI).size _
          generalize y1.alloc (.cells #[.int .i64 0, .int .i64 0] 23) = y7 at *
          generalize y1.heap.size = n2 at *
          refine regk_call (I' := (fun W => Below W1.heap.size W1 W)) (fun _ h => h) 3 24 (by kernel_rfl) 26 #[.agg #[.complex .f64 b1 b2, .complex .f64 b3 b4]] (fun o ho => by cases ho; exact ⟨rfl, rfl, fun W => by go_simp⟩) ?_
          refine (T2.out _).mono ?_
          rintro e y8 ⟨rfl, hb⟩
          have HI : (fun W => Below W1.heap.size W1 W) y8 := (show Below W1.heap.size W1 y7 from HI).trans (hb.mono (show Below W1.heap.size W1 y7 from HI).size)
          try (have HN := HN.later hb)
          refine ⟨_, _, rfl, fun _ => HI, (by simp only [List.setIfInBounds_toArray, List.set_cons_succ, List.set_cons_zero]; exact rfl), ?_⟩
          refine regk_call (I' := (fun W => Below W1.heap.size W1 W)) (fun _ h => h) 4 25 (by kernel_rfl) 30 #[.agg #[.int .i64 z1, .int .i64 z2], .agg #[.int .i64 v1, .int .i64 v2]] (fun o ho => by cases ho; exact ⟨rfl, rfl, fun W => by go_simp⟩) ?_
          refine (M2.out _).mono ?_
          rintro e y9 ⟨rfl, hb⟩
          have HI : (fun W => Below W1.heap.size W1 W) y9 := (show Below W1.heap.size W1 y8 from HI).trans (hb.mono (show Below W1.heap.size W1 y8 from HI).size)
          try (have HN := HN.later hb)
          refine ⟨_, _, rfl, fun _ => HI, (by simp only [List.setIfInBounds_toArray, List.set_cons_succ, List.set_cons_zero]; exact rfl), ?_⟩
          refine regk_free 5 20 (v := ?_) (T' := ?_) (fun _ => HI) (by kernel_rfl) (by kernel_rfl) (by kernel_rfl) (by kernel_rfl) (fun _ _ _ h => h) (fun o ho => ?_) ?_ ?_
          rotate_left 2
          · cases ho
            refine ⟨rfl, rfl, fun W => ?_⟩
            go_simp; (try with_reducible rfl)
          · simp only [List.setIfInBounds_toArray, List.set_cons_succ, List.set_cons_zero]; exact rfl
          refine regk_free 6 26 (v := ?_) (T' := ?_) (fun _ => HI) (by kernel_rfl) (by kernel_rfl) (by kernel_rfl) (by kernel_rfl) (fun _ _ _ h => h) (fun o ho => ?_) ?_ ?_
          rotate_left 2
          · cases ho
            refine ⟨rfl, rfl, fun W => ?_⟩
            go_simp; (try with_reducible rfl)
          · simp only [List.setIfInBounds_toArray, List.set_cons_succ, List.set_cons_zero]; exact rfl
          refine regk_free 7 27 (v := ?_) (T' := ?_) (fun _ => HI) (by kernel_rfl) (by kernel_rfl) (by kernel_rfl) (by kernel_rfl) (fun _ _ _ h => h) (fun o ho => ?_) ?_ ?_
          rotate_left 2
          · cases ho
            refine ⟨rfl, rfl, fun W => ?_⟩
            go_simp; (try with_reducible rfl)
          · simp only [List.setIfInBounds_toArray, List.set_cons_succ, List.set_cons_zero]; exact rfl
          have f0 := HN.frozen 0
          have f1 := HN.frozen 1
          have z0 := HN.cell 0 (.int .i64 0) rfl
          have z1 := HN.cell 1 (.int .i64 0) rfl
          refine regk_store (I' := (fun W => Below W1.heap.size W1 W)) (fun _ h => h) 9 (w' := (y9.setCell ⟨n2, 0, none⟩ (.int .i64 q1)).setCell ⟨n2, 1, none⟩ (.int .i64 q2)) (by kernel_rfl) (fun o ho => ?_) (noB_no (by kernel_rfl)) ?_
          · cases ho
            refine ⟨rfl, rfl, ?_⟩
            go_simp; (try with_reducible rfl)
          refine regk_free 10 7 (v := ?_) (T' := ?_) (noB_no (by kernel_rfl)) (by kernel_rfl) (by kernel_rfl) (by kernel_rfl) (by kernel_rfl) (fun _ _ _ h => h) (fun o ho => ?_) ?_ ?_
          rotate_left 2
          · cases ho
            refine ⟨rfl, rfl, fun W => ?_⟩
            go_simp; (try with_reducible rfl)
          · simp only [List.setIfInBounds_toArray, List.set_cons_succ, List.set_cons_zero]; exact rfl
          refine regk_done (by kernel_rfl) ?_
          refine Ends.mk ⟨n2, rfl, hn, (HN.set 0 (.int .i64 q1)).set 1 (.int .i64 q2), ?_⟩
          exact ((show Below W1.heap.size W1 y9 from HI).setCell (p := ⟨n2, 0, none⟩) hn _).setCell (p := ⟨n2, 1, none⟩) hn _
      ·
        refine fork_make 8 8 (v := .pointer (some ⟨y0.heap.size, 0, none⟩)) (w' := y0.alloc (.cells #[.int .i64 0, .int .i64 0] 23)) (T' := ?_) (by kernel_rfl) (fun o ho => ?_) ?_ ?_
        rotate_left
        · cases ho
          refine ⟨rfl, rfl, ?_⟩
          go_simp; (try with_reducible rfl)
        · simp only [List.setIfInBounds_toArray, List.set_cons_succ, List.set_cons_zero]; exact rfl
        refine ⟨fun _ => (show Below W1.heap.size W1 y0 from HI).alloc (show Below W1.heap.size W1 y0 from HI).size _, ?_⟩
        have HN := Box.new y0 #[.int .i64 0, .int .i64 0] 23 _ rfl
        have hn : W1.heap.size ≤ y0.heap.size := (show Below W1.heap.size W1 y0 from HI).size
        have HI : (fun W => Below W1.heap.size W1 W) (y0.alloc (.cells #[.int .i64 0, .int .i64 0] 23)) := (show Below W1.heap.size W1 y0 from HI).alloc (show Below W1.heap.size W1 y0 from HI).size _
        generalize y0.alloc (.cells #[.int .i64 0, .int .i64 0] 23) = y10 at *
        generalize y0.heap.size = n2 at *
        refine regk_call (I' := (fun W => Below W1.heap.size W1 W)) (fun _ h => h) 1 22 (by kernel_rfl) 26 #[.agg #[.complex .f64 a1 a2, .complex .f64 a3 a4]] (fun o ho => by cases ho; exact ⟨rfl, rfl, fun W => by go_simp⟩) ?_
        refine (T1.out _).mono ?_
        rintro e y11 ⟨rfl, hb⟩
        have HI : (fun W => Below W1.heap.size W1 W) y11 := (show Below W1.heap.size W1 y10 from HI).trans (hb.mono (show Below W1.heap.size W1 y10 from HI).size)
        try (have HN := HN.later hb)
        refine ⟨_, _, rfl, fun _ => HI, (by simp only [List.setIfInBounds_toArray, List.set_cons_succ, List.set_cons_zero]; exact rfl), ?_⟩
        refine regk_call (I' := (fun W => Below W1.heap.size W1 W)) (fun _ h => h) 3 24 (by kernel_rfl) 26 #[.agg #[.complex .f64 b1 b2, .complex .f64 b3 b4]] (fun o ho => by cases ho; exact ⟨rfl, rfl, fun W => by go_simp⟩) ?_
        refine (T2.out _).mono ?_
        rintro e y12 ⟨rfl, hb⟩
        have HI : (fun W => Below W1.heap.size W1 W) y12 := (show Below W1.heap.size W1 y11 from HI).trans (hb.mono (show Below W1.heap.size W1 y11 from HI).size)
        try (have HN := HN.later hb)
        refine ⟨_, _, rfl, fun _ => HI, (by simp only [List.setIfInBounds_toArray, List.set_cons_succ, List.set_cons_zero]; exact rfl), ?_⟩
        refine regk_call (I' := (fun W => Below W1.heap.size W1 W)) (fun _ h => h) 4 25 (by kernel_rfl) 30 #[.agg #[.int .i64 z1, .int .i64 z2], .agg #[.int .i64 v1, .int .i64 v2]] (fun o ho => by cases ho; exact ⟨rfl, rfl, fun W => by go_simp⟩) ?_
        refine (M2.out _).mono ?_
        rintro e y13 ⟨rfl, hb⟩
        have HI : (fun W => Below W1.heap.size W1 W) y13 := (show Below W1.heap.size W1 y12 from HI).trans (hb.mono (show Below W1.heap.size W1 y12 from HI).size)
        try (have HN := HN.later hb)
        refine ⟨_, _, rfl, fun _ => HI, (by simp only [List.setIfInBounds_toArray, List.set_cons_succ, List.set_cons_zero]; exact rfl), ?_⟩
        refine regk_free 5 20 (v := ?_) (T' := ?_) (fun _ => HI) (by kernel_rfl) (by kernel_rfl) (by kernel_rfl) (by kernel_rfl) (fun _ _ _ h => h) (fun o ho => ?_) ?_ ?_
        rotate_left 2
        · cases ho
          refine ⟨rfl, rfl, fun W => ?_⟩
          go_simp; (try with_reducible rfl)
        · simp only [List.setIfInBounds_toArray, List.set_cons_succ, List.set_cons_zero]; exact rfl
        refine regk_free 6 26 (v := ?_) (T' := ?_) (fun _ => HI) (by kernel_rfl) (by kernel_rfl) (by kernel_rfl) (by kernel_rfl) (fun _ _ _ h => h) (fun o ho => ?_) ?_ ?_
        rotate_left 2
        · cases ho
          refine ⟨rfl, rfl, fun W => ?_⟩
          go_simp; (try with_reducible rfl)
        · simp only [List.setIfInBounds_toArray, List.set_cons_succ, List.set_cons_zero]; exact rfl
        refine regk_free 7 27 (v := ?_) (T' := ?_) (fun _ => HI) (by kernel_rfl) (by kernel_rfl) (by kernel_rfl) (by kernel_rfl) (fun _ _ _ h => h) (fun o ho => ?_) ?_ ?_
        rotate_left 2
        · cases ho
          refine ⟨rfl, rfl, fun W => ?_⟩
          go_simp; (try with_reducible rfl)
        · simp only [List.setIfInBounds_toArray, List.set_cons_succ, List.set_cons_zero]; exact rfl
        have f0 := HN.frozen 0
        have f1 := HN.frozen 1
        have z0 := HN.cell 0 (.int .i64 0) rfl
        have z1 := HN.cell 1 (.int .i64 0) rfl
        refine regk_store (I' := (fun W => Below W1.heap.size W1 W)) (fun _ h => h) 9 (w' := (y13.setCell ⟨n2, 0, none⟩ (.int .i64 q1)).setCell ⟨n2, 1, none⟩ (.int .i64 q2)) (by kernel_rfl) (fun o ho => ?_) (noB_no (by kernel_rfl)) ?_
        · cases ho
          refine ⟨rfl, rfl, ?_⟩
          go_simp; (try with_reducible rfl)
        refine regk_free 10 7 (v := ?_) (T' := ?_) (noB_no (by kernel_rfl)) (by kernel_rfl) (by kernel_rfl) (by kernel_rfl) (by kernel_rfl) (fun _ _ _ h => h) (fun o ho => ?_) ?_ ?_
        rotate_left 2
        · cases ho
          refine ⟨rfl, rfl, fun W => ?_⟩
          go_simp; (try with_reducible rfl)
        · simp only [List.setIfInBounds_toArray, List.set_cons_succ, List.set_cons_zero]; exact rfl
        refine regk_done (by kernel_rfl) ?_
        refine Ends.mk ⟨n2, rfl, hn, (HN.set 0 (.int .i64 q1)).set 1 (.int .i64 q2), ?_⟩
        exact ((show Below W1.heap.size W1 y13 from HI).setCell (p := ⟨n2, 0, none⟩) hn _).setCell (p := ⟨n2, 1, none⟩) hn _
-- DONE B
    rintro a' W2 ⟨n2, rfl, hn3, hN2, hB2⟩
    have B2 := Lib.hid (B2.out.later hB2)
    have G := Lib.hid (G.out.trans (hB2.mono G.out.size))
    have HN := Lib.hid (HN.out.later hB2)
    have HN2 := Lib.hid hN2
    clear hB2 hN2 l0 l1 hn3
    have f0 := B2.out.frozen 0
    have f1 := B2.out.frozen 1
    have z0 := B2.out.cell 0 (.complex .f64 0 0) rfl
    have z1 := B2.out.cell 1 (.complex .f64 0 0) rfl
    cases k2
    · have hr := (show res = (r0, false) from by first | exact hn2.out rfl | exact hn2.out (by trivial))
      subst hr
      have GZ := Lib.hid ((G.out.setCell (p := ⟨w.heap.size + 1 + 1, 0, none⟩) (by simp only; omega) (.complex .f64 0 0)).setCell (p := ⟨w.heap.size + 1 + 1, 1, none⟩) (by simp only; omega) (.complex .f64 0 0))
      go_wp2_with fail
      refine bodyPost_ret (v := .tuple #[.agg #[.complex .f64 0 0, .complex .f64 0 0], .bool false]) ?_ rfl ⟨by rw [hz.out], GZ.out⟩
      rw [results_cell_tmp rfl]
      go_simp
    · have hr := (show res = (((m1, m2), (q1, q2)), true) from by first | exact hy.out rfl rfl | exact hy.out (by trivial) (by trivial) | exact hy.out (by trivial))
      subst hr
      have c0 := HN.out.cell 0 (.int .i64 m1) rfl
      have c1 := HN.out.cell 1 (.int .i64 m2) rfl
      have d0 := HN2.out.cell 0 (.int .i64 q1) rfl
      have d1 := HN2.out.cell 1 (.int .i64 q2) rfl
      clear f0 f1 z0 z1
      go_wp2_with fail
      refine (MR.out _).mono ?_
      rintro e w3 ⟨rfl, hb3⟩
      have B2 := Lib.hid (B2.out.later hb3)
      have G := Lib.hid (G.out.trans (hb3.mono G.out.size))
      clear hb3 c0 c1 d0 d1
      have f0 := B2.out.frozen 0
      have f1 := B2.out.frozen 1
      have z0 := B2.out.cell 0 (.complex .f64 0 0) rfl
      have z1 := B2.out.cell 1 (.complex .f64 0 0) rfl
      have GZ := Lib.hid ((G.out.setCell (p := ⟨w.heap.size + 1 + 1, 0, none⟩) (by simp only; omega) (.complex .f64 (fw m1) (fw q1))).setCell (p := ⟨w.heap.size + 1 + 1, 1, none⟩) (by simp only; omega) (.complex .f64 (fw m2) (fw q2)))
      go_wp2_with fail
      refine bodyPost_ret (v := .tuple #[.agg #[.complex .f64 (fw m1) (fw q1), .complex .f64 (fw m2) (fw q2)], .bool true]) ?_ rfl ⟨rfl, GZ.out⟩
      rw [results_cell_tmp rfl]
      go_simp
end Go.Proofs.Ytjfneppjdgfecaa
