/- PlaneTurns (P5.1, P5.2): for every two rectangles and every point: what two turned ones have in common is what they have, turned; what is left of one has no point of the other; and nothing is left of one without itself. No condition. -/
import Derived.Test.YtpmcpoacaeoleaaEo
import Derived.Test.YtpmcpoacaeoleaaBlaw
namespace Go.Proofs.Ytpmcpoacaeoleaa.L04
open Go.RowKit Go.ChangeShapes Go.WideShapes Go.ChangeAt
set_option linter.unusedVariables false
attribute [local go_sem] sto_cx

theorem left_has {a b x : Re} {e t : Int} (hx : x ∈ pMinus a b) (h : rHas x e t = true) : rHas a e t = true ∧ rHas b e t = false := by
  have hm := pMinus_many a b e t
  have h1 : 0 < rMany (pMinus a b) e t := by
    unfold rMany
    exact List.length_pos_of_mem (List.mem_filter.2 ⟨hx, h⟩)
  rw [hm] at h1
  split at h1
  · rename_i hh
    simpa using hh
  · omega

set_option maxHeartbeats 8000000 in
theorem walk (r q : Re) (u t : Int) (U : World) : Calls Try.prog 6 #[reV r, reV q, .int .i64 u, .int .i64 t] U fun e W' => e = .returned (.bool true) ∧ Below U.heap.size U W' := by
  have LV := Lib.hid l_lives
  have OA := Lib.hid (fun w => l_of r w)
  have OB := Lib.hid (fun w => l_of q w)
  have hox := orZ_ok r
  have hoy := orZ_ok q
  have hom := rMeet_ok (orZ r) (orZ q)
  have MM := Lib.hid (fun w => p_rmeet (Rc.of hox) hox (Rc.of hoy) hoy w)
  have MN := Lib.hid (fun w => p_rminus (Rc.of hox) hox (Rc.of hoy) hoy w)
  have MS := Lib.hid (fun w => p_rminus (Rc.of hox) hox (Rc.of hox) hox w)
  rw [pMinus_self hox] at MS
  have TX := Lib.hid (fun w => p_turn (Rc.of hox) hox w)
  have TY := Lib.hid (fun w => p_turn (Rc.of hoy) hoy w)
  have TM := Lib.hid (fun w => p_turn (Rc.of hom) hom w)
  have MT := Lib.hid (fun va vb (h1 : Rc va (rTurn (orZ r))) (h2 : Rc vb (rTurn (orZ q))) w => p_rmeet h1 (okR_turn hox) h2 (okR_turn hoy) w)
  rw [rMeet_turn] at MT
  have SN := Lib.hid (fun w => l_sides (Rc.of (okR_turn hom)) (okR_turn hom) w)
  have SV := Lib.hid (fun v (hv : Rc v (rTurn (rMeet (orZ r) (orZ q)).1)) w => l_sides hv (okR_turn hom) w)
  have HX := Lib.hid (fun w => p_rhas (Rc.of hox) hox u t w)
  have HY := Lib.hid (fun w => p_rhas (Rc.of hoy) hoy u t w)
  have HE := Lib.hid (fun (x : Re) (hx : x ∈ pMinus (orZ r) (orZ q)) w => p_rhas (Rc.of (.inl (pMinus_may hox hx))) (.inl (pMinus_may hox hx)) u t w)
  have HL := Lib.hid (fun (x : Re) (hx : x ∈ pMinus (orZ r) (orZ q)) => left_has (e := u) (t := t) hx)
  have hlen := Lib.hid (pMinus_len (orZ r) (orZ q))
  have hre : ∀ r : Re, reC r = .agg #[.complex .f64 (fw r.1.1) (fw r.2.1), .complex .f64 (fw r.1.2) (fw r.2.2)] := fun _ => rfl
  have hrv : ∀ r : Re, reV r = .agg #[.int .i64 r.1.1, .int .i64 r.1.2, .int .i64 r.2.1, .int .i64 r.2.2] := fun _ => rfl
  simp only [hre, hrv] at OA OB MM MN MS TX TY TM MT SN SV HX HY HE ⊢
  clear hre hrv hox hoy hom
  generalize (rMeet (orZ r) (orZ q)).2 = mk at *
  generalize (rMeet (orZ r) (orZ q)).1 = m at *
  generalize pMinus (orZ r) (orZ q) = l at *
  generalize rMay r = r_may at *
  generalize rMay q = q_may at *
  generalize fw (orZ r).1.1 = g1 at *
  generalize fw (orZ r).2.1 = g2 at *
  generalize fw (orZ r).1.2 = g3 at *
  generalize fw (orZ r).2.2 = g4 at *
  generalize fw (orZ q).1.1 = e1 at *
  generalize fw (orZ q).2.1 = e2 at *
  generalize fw (orZ q).1.2 = e3 at *
  generalize fw (orZ q).2.2 = e4 at *
  generalize rHas (orZ r) u t = hx at *
  generalize rHas (orZ q) u t = hy at *
  have hmt : rTurn m = (m.2, m.1) := rfl
  rw [hmt] at MT SN SV TM
  simp only at MT SN SV TM
  generalize fw m.1.1 = h1 at *
  generalize fw m.2.1 = h2 at *
  generalize fw m.1.2 = h3 at *
  generalize fw m.2.2 = h4 at *
  clear hmt
  obtain ⟨⟨a1, a2⟩, ⟨a3, a4⟩⟩ := r
  obtain ⟨⟨b1, b2⟩, ⟨b3, b4⟩⟩ := q
  simp only at OA OB ⊢
  have B0 := Lib.hid ((Box.new U #[.int .i64 a1, .int .i64 a2, .int .i64 a3, .int .i64 a4] 25 _ rfl).alloc (.cells #[.int .i64 b1, .int .i64 b2, .int .i64 b3, .int .i64 b4] 25))
  have B1 := Lib.hid (Box.new (U.alloc (.cells #[.int .i64 a1, .int .i64 a2, .int .i64 a3, .int .i64 a4] 25)) #[.int .i64 b1, .int .i64 b2, .int .i64 b3, .int .i64 b4] 25 (U.heap.size + 1) (by simp))
  have G := Lib.hid ((alloc_below U (.cells #[.int .i64 a1, .int .i64 a2, .int .i64 a3, .int .i64 a4] 25)).alloc (by simp) (.cells #[.int .i64 b1, .int .i64 b2, .int .i64 b3, .int .i64 b4] 25))
  go_enter Try.func6, Try.ntmps6
  have c00 := B0.out.cell 0 (.int .i64 a1) rfl
  have c01 := B0.out.cell 1 (.int .i64 a2) rfl
  have c02 := B0.out.cell 2 (.int .i64 a3) rfl
  have c03 := B0.out.cell 3 (.int .i64 a4) rfl
  go_wp2_with fail
  clear c00 c01 c02 c03
  generalize (U.alloc (.cells #[.int .i64 a1, .int .i64 a2, .int .i64 a3, .int .i64 a4] 25)).alloc (.cells #[.int .i64 b1, .int .i64 b2, .int .i64 b3, .int .i64 b4] 25) = W0 at *
  refine (OA.out _).mono ?_
  rintro e w1 ⟨rfl, hb1⟩
  have BX := Lib.hid (Box.new w1 #[.complex .f64 g1 g2, .complex .f64 g3 g4] 28 _ rfl)
  have B1 := Lib.hid ((B1.out.later hb1).alloc (.cells #[.complex .f64 g1 g2, .complex .f64 g3 g4] 28))
  have G1 := Lib.hid (G.out.trans (hb1.mono G.out.size))
  have G := Lib.hid (G1.out.alloc G1.out.size (.cells #[.complex .f64 g1 g2, .complex .f64 g3 g4] 28))
  clear hb1 G1 B0
  have c10 := B1.out.cell 0 (.int .i64 b1) rfl
  have c11 := B1.out.cell 1 (.int .i64 b2) rfl
  have c12 := B1.out.cell 2 (.int .i64 b3) rfl
  have c13 := B1.out.cell 3 (.int .i64 b4) rfl
  go_wp2_with fail
  generalize w1.alloc (.cells #[.complex .f64 g1 g2, .complex .f64 g3 g4] 28) = W1 at *
  generalize w1.heap.size = nx at *
  refine (OB.out _).mono ?_
  rintro e w2 ⟨rfl, hb2⟩
  have BY := Lib.hid (Box.new w2 #[.complex .f64 e1 e2, .complex .f64 e3 e4] 28 _ rfl)
  have BX := Lib.hid ((BX.out.later hb2).alloc (.cells #[.complex .f64 e1 e2, .complex .f64 e3 e4] 28))
  have G1 := Lib.hid (G.out.trans (hb2.mono G.out.size))
  have G := Lib.hid (G1.out.alloc G1.out.size (.cells #[.complex .f64 e1 e2, .complex .f64 e3 e4] 28))
  clear hb2 G1 B1 c10 c11 c12 c13
  have c00 := BX.out.cell 0 (.complex .f64 g1 g2) rfl
  have c01 := BX.out.cell 1 (.complex .f64 g3 g4) rfl
  have c10 := BY.out.cell 0 (.complex .f64 e1 e2) rfl
  have c11 := BY.out.cell 1 (.complex .f64 e3 e4) rfl
  go_wp2_with fail
  generalize w2.alloc (.cells #[.complex .f64 e1 e2, .complex .f64 e3 e4] 28) = W2 at *
  generalize w2.heap.size = ny at *
  refine (MM.out _).mono ?_
  rintro e w3 ⟨rfl, hb3⟩
  have BM := Lib.hid (Box.new w3 #[.complex .f64 h1 h2, .complex .f64 h3 h4] 28 _ rfl)
  have BX := Lib.hid ((BX.out.later hb3).alloc (.cells #[.complex .f64 h1 h2, .complex .f64 h3 h4] 28))
  have BY := Lib.hid ((BY.out.later hb3).alloc (.cells #[.complex .f64 h1 h2, .complex .f64 h3 h4] 28))
  have G1 := Lib.hid (G.out.trans (hb3.mono G.out.size))
  have G := Lib.hid (G1.out.alloc G1.out.size (.cells #[.complex .f64 h1 h2, .complex .f64 h3 h4] 28))
  clear hb3 G1 c00 c01 c10 c11
  go_wp2_with fail
  generalize w3.alloc (.cells #[.complex .f64 h1 h2, .complex .f64 h3 h4] 28) = W3 at *
  generalize w3.heap.size = nm at *
  have lx := BX.out.lt
  have ly := BY.out.lt
  refine region_via2 (fun T ds a' W => ∃ n va vb, a' = ⟨((((((((((T.setIfInBounds 36 (.agg #[.complex .f64 g1 g2, .complex .f64 g3 g4])).setIfInBounds 37 (va)).setIfInBounds 38 (.agg #[.complex .f64 e1 e2, .complex .f64 e3 e4])).setIfInBounds 39 (vb)).setIfInBounds 40 (.tuple #[.agg #[.complex .f64 h2 h1, .complex .f64 h4 h3], .bool mk])).setIfInBounds 35 (.tuple #[.agg #[.complex .f64 h2 h1, .complex .f64 h4 h3], .bool mk])).setIfInBounds 41 (.agg #[.complex .f64 h2 h1, .complex .f64 h4 h3])).setIfInBounds 42 (.bool mk)).setIfInBounds 15 (.pointer (some ⟨n, 0, none⟩))).setIfInBounds 16 (.bool mk)), ds⟩ ∧ W3.heap.size ≤ n ∧ Box W n #[.complex .f64 h2 h1, .complex .f64 h4 h3] 28 ∧ Below W3.heap.size W3 W) ?_ ?_
  · have HI : (fun W => Below W3.heap.size W3 W) W3.drew := (Below.refl _ _).drewN 1
-- REGION A
    refine regk_start [9] (fun W => Below W3.heap.size W3 W) (by kernel_rfl) ?_
    generalize W3.drew = y0 at *
    refine regk_take 0 36 (v := ?_) (T' := ?_) HI (by kernel_rfl) (by kernel_rfl) (by kernel_rfl) (by kernel_rfl) (by kernel_rfl) (by kernel_rfl) (fun _ _ _ h => h) (fun o ho => ?_) ?_ ?_
    rotate_left 2
    · cases ho
      refine ⟨rfl, rfl, fun W hW => ?_⟩
      have hV0 := (Below.cell (p := ⟨nx, 0, none⟩) (show Below W3.heap.size W3 W from hW) lx).trans (BX.out.cell 0 (.complex .f64 g1 g2) rfl)
      have hV1 := (Below.cell (p := ⟨nx, 1, none⟩) (show Below W3.heap.size W3 W from hW) lx).trans (BX.out.cell 1 (.complex .f64 g3 g4) rfl)
      go_simp; (try with_reducible rfl)
    · simp only [List.setIfInBounds_toArray, List.set_cons_succ, List.set_cons_zero]; exact rfl
    refine regk_take 2 38 (v := ?_) (T' := ?_) HI (by kernel_rfl) (by kernel_rfl) (by kernel_rfl) (by kernel_rfl) (by kernel_rfl) (by kernel_rfl) (fun _ _ _ h => h) (fun o ho => ?_) ?_ ?_
    rotate_left 2
    · cases ho
      refine ⟨rfl, rfl, fun W hW => ?_⟩
      have hV0 := (Below.cell (p := ⟨ny, 0, none⟩) (show Below W3.heap.size W3 W from hW) ly).trans (BY.out.cell 0 (.complex .f64 e1 e2) rfl)
      have hV1 := (Below.cell (p := ⟨ny, 1, none⟩) (show Below W3.heap.size W3 W from hW) ly).trans (BY.out.cell 1 (.complex .f64 e3 e4) rfl)
      go_simp; (try with_reducible rfl)
    · simp only [List.setIfInBounds_toArray, List.set_cons_succ, List.set_cons_zero]; exact rfl
    refine regk_fork 1 8 (by kernel_rfl) ?_ ?_
    ·
      refine fork_call 1 37 (by kernel_rfl) 14 #[.agg #[.complex .f64 g1 g2, .complex .f64 g3 g4]] (fun o ho => by cases ho; exact ⟨rfl, rfl, fun W => by go_simp⟩) ?_
      refine (TX.out _).mono ?_
      rintro e y1 ⟨va, rfl, hva, hb⟩
      have HI : (fun W => Below W3.heap.size W3 W) y1 := (show Below W3.heap.size W3 y0 from HI).trans (hb.mono (show Below W3.heap.size W3 y0 from HI).size)
      try (have HN := HN.later hb)
      refine ⟨_, _, rfl, (by simp only [List.setIfInBounds_toArray, List.set_cons_succ, List.set_cons_zero]; exact rfl), fun _ => HI, ?_⟩
      refine regk_fork 3 8 (by kernel_rfl) ?_ ?_
      ·
        refine fork_call 3 39 (by kernel_rfl) 14 #[.agg #[.complex .f64 e1 e2, .complex .f64 e3 e4]] (fun o ho => by cases ho; exact ⟨rfl, rfl, fun W => by go_simp⟩) ?_
        refine (TY.out _).mono ?_
        rintro e y2 ⟨vb, rfl, hvb, hb⟩
        have HI : (fun W => Below W3.heap.size W3 W) y2 := (show Below W3.heap.size W3 y1 from HI).trans (hb.mono (show Below W3.heap.size W3 y1 from HI).size)
        try (have HN := HN.later hb)
        refine ⟨_, _, rfl, (by simp only [List.setIfInBounds_toArray, List.set_cons_succ, List.set_cons_zero]; exact rfl), fun _ => HI, ?_⟩
        refine regk_fork 4 8 (by kernel_rfl) ?_ ?_
        ·
          refine fork_call 4 40 (by kernel_rfl) 18 #[va, vb] (fun o ho => by cases ho; exact ⟨rfl, rfl, fun W => by go_simp⟩) ?_
          refine (MT.out va vb hva hvb _).mono ?_
          rintro e y3 ⟨rfl, hb⟩
          have HI : (fun W => Below W3.heap.size W3 W) y3 := (show Below W3.heap.size W3 y2 from HI).trans (hb.mono (show Below W3.heap.size W3 y2 from HI).size)
          try (have HN := HN.later hb)
          refine ⟨_, _, rfl, (by simp only [List.setIfInBounds_toArray, List.set_cons_succ, List.set_cons_zero]; exact rfl), fun _ => HI, ?_⟩
          refine regk_free 5 35 (v := ?_) (T' := ?_) (fun _ => HI) (by kernel_rfl) (by kernel_rfl) (by kernel_rfl) (by kernel_rfl) (fun _ _ _ h => h) (fun o ho => ?_) ?_ ?_
          rotate_left 2
          · cases ho
            refine ⟨rfl, rfl, fun W => ?_⟩
            go_simp; (try with_reducible rfl)
          · simp only [List.setIfInBounds_toArray, List.set_cons_succ, List.set_cons_zero]; exact rfl
          refine regk_free 6 41 (v := ?_) (T' := ?_) (fun _ => HI) (by kernel_rfl) (by kernel_rfl) (by kernel_rfl) (by kernel_rfl) (fun _ _ _ h => h) (fun o ho => ?_) ?_ ?_
          rotate_left 2
          · cases ho
            refine ⟨rfl, rfl, fun W => ?_⟩
            go_simp; (try with_reducible rfl)
          · simp only [List.setIfInBounds_toArray, List.set_cons_succ, List.set_cons_zero]; exact rfl
          refine regk_free 7 42 (v := ?_) (T' := ?_) (fun _ => HI) (by kernel_rfl) (by kernel_rfl) (by kernel_rfl) (by kernel_rfl) (fun _ _ _ h => h) (fun o ho => ?_) ?_ ?_
          rotate_left 2
          · cases ho
            refine ⟨rfl, rfl, fun W => ?_⟩
            go_simp; (try with_reducible rfl)
          · simp only [List.setIfInBounds_toArray, List.set_cons_succ, List.set_cons_zero]; exact rfl
          refine regk_make (I' := (fun W => Below W3.heap.size W3 W)) (fun _ h => h) 8 15 (v := .pointer (some ⟨y3.heap.size, 0, none⟩)) (w' := y3.alloc (.cells #[.complex .f64 0 0, .complex .f64 0 0] 28)) (T' := ?_) (by kernel_rfl) (fun o ho => ?_) (fun _ => ?_) ?_ ?_
          rotate_left
          · cases ho
            refine ⟨rfl, rfl, ?_⟩
            go_simp; (try with_reducible rfl)
          · exact (show Below W3.heap.size W3 y3 from HI).alloc (show Below W3.heap.size W3 y3 from HI).size _
          · simp only [List.setIfInBounds_toArray, List.set_cons_succ, List.set_cons_zero]; exact rfl
          have HN := Box.new y3 #[.complex .f64 0 0, .complex .f64 0 0] 28 _ rfl
          have hn : W3.heap.size ≤ y3.heap.size := (show Below W3.heap.size W3 y3 from HI).size
          have HI : (fun W => Below W3.heap.size W3 W) (y3.alloc (.cells #[.complex .f64 0 0, .complex .f64 0 0] 28)) := (show Below W3.heap.size W3 y3 from HI).alloc (show Below W3.heap.size W3 y3 from HI).size _
          generalize y3.alloc (.cells #[.complex .f64 0 0, .complex .f64 0 0] 28) = y4 at *
          generalize y3.heap.size = n at *
          have f0 := HN.frozen 0
          have f1 := HN.frozen 1
          have z0 := HN.cell 0 (.complex .f64 0 0) rfl
          have z1 := HN.cell 1 (.complex .f64 0 0) rfl
          refine regk_store (I' := (fun W => Below W3.heap.size W3 W)) (fun _ h => h) 9 (w' := (y4.setCell ⟨n, 0, none⟩ (.complex .f64 h2 h1)).setCell ⟨n, 1, none⟩ (.complex .f64 h4 h3)) (by kernel_rfl) (fun o ho => ?_) (noB_no (by kernel_rfl)) ?_
          · cases ho
            refine ⟨rfl, rfl, ?_⟩
            go_simp; (try with_reducible rfl)
          refine regk_free 10 16 (v := ?_) (T' := ?_) (noB_no (by kernel_rfl)) (by kernel_rfl) (by kernel_rfl) (by kernel_rfl) (by kernel_rfl) (fun _ _ _ h => h) (fun o ho => ?_) ?_ ?_
          rotate_left 2
          · cases ho
            refine ⟨rfl, rfl, fun W => ?_⟩
            go_simp; (try with_reducible rfl)
          · simp only [List.setIfInBounds_toArray, List.set_cons_succ, List.set_cons_zero]; exact rfl
          refine regk_done (by kernel_rfl) ?_
          refine Ends.mk ⟨n, va, vb, ?_, hn, (HN.set 0 (.complex .f64 h2 h1)).set 1 (.complex .f64 h4 h3), ((show Below W3.heap.size W3 y4 from HI).setCell (p := ⟨n, 0, none⟩) hn _).setCell (p := ⟨n, 1, none⟩) hn _⟩
          simp only [List.setIfInBounds_toArray, List.set_cons_succ, List.set_cons_zero]
        ·
          refine fork_make 8 15 (v := .pointer (some ⟨y2.heap.size, 0, none⟩)) (w' := y2.alloc (.cells #[.complex .f64 0 0, .complex .f64 0 0] 28)) (T' := ?_) (by kernel_rfl) (fun o ho => ?_) ?_ ?_
          rotate_left
          · cases ho
            refine ⟨rfl, rfl, ?_⟩
            go_simp; (try with_reducible rfl)
          · simp only [List.setIfInBounds_toArray, List.set_cons_succ, List.set_cons_zero]; exact rfl
          refine ⟨fun _ => (show Below W3.heap.size W3 y2 from HI).alloc (show Below W3.heap.size W3 y2 from HI).size _, ?_⟩
          have HN := Box.new y2 #[.complex .f64 0 0, .complex .f64 0 0] 28 _ rfl
          have hn : W3.heap.size ≤ y2.heap.size := (show Below W3.heap.size W3 y2 from HI).size
          have HI : (fun W => Below W3.heap.size W3 W) (y2.alloc (.cells #[.complex .f64 0 0, .complex .f64 0 0] 28)) := (show Below W3.heap.size W3 y2 from HI).alloc (show Below W3.heap.size W3 y2 from HI).size _
          generalize y2.alloc (.cells #[.complex .f64 0 0, .complex .f64 0 0] 28) = y5 at *
          generalize y2.heap.size = n at *
          refine regk_call (I' := (fun W => Below W3.heap.size W3 W)) (fun _ h => h) 4 40 (by kernel_rfl) 18 #[va, vb] (fun o ho => by cases ho; exact ⟨rfl, rfl, fun W => by go_simp⟩) ?_
          refine (MT.out va vb hva hvb _).mono ?_
          rintro e y6 ⟨rfl, hb⟩
          have HI : (fun W => Below W3.heap.size W3 W) y6 := (show Below W3.heap.size W3 y5 from HI).trans (hb.mono (show Below W3.heap.size W3 y5 from HI).size)
          try (have HN := HN.later hb)
          refine ⟨_, _, rfl, fun _ => HI, (by simp only [List.setIfInBounds_toArray, List.set_cons_succ, List.set_cons_zero]; exact rfl), ?_⟩
          refine regk_free 5 35 (v := ?_) (T' := ?_) (fun _ => HI) (by kernel_rfl) (by kernel_rfl) (by kernel_rfl) (by kernel_rfl) (fun _ _ _ h => h) (fun o ho => ?_) ?_ ?_
          rotate_left 2
          · cases ho
            refine ⟨rfl, rfl, fun W => ?_⟩
            go_simp; (try with_reducible rfl)
          · simp only [List.setIfInBounds_toArray, List.set_cons_succ, List.set_cons_zero]; exact rfl
          refine regk_free 6 41 (v := ?_) (T' := ?_) (fun _ => HI) (by kernel_rfl) (by kernel_rfl) (by kernel_rfl) (by kernel_rfl) (fun _ _ _ h => h) (fun o ho => ?_) ?_ ?_
          rotate_left 2
          · cases ho
            refine ⟨rfl, rfl, fun W => ?_⟩
            go_simp; (try with_reducible rfl)
          · simp only [List.setIfInBounds_toArray, List.set_cons_succ, List.set_cons_zero]; exact rfl
          refine regk_free 7 42 (v := ?_) (T' := ?_) (fun _ => HI) (by kernel_rfl) (by kernel_rfl) (by kernel_rfl) (by kernel_rfl) (fun _ _ _ h => h) (fun o ho => ?_) ?_ ?_
          rotate_left 2
          · cases ho
            refine ⟨rfl, rfl, fun W => ?_⟩
            go_simp; (try with_reducible rfl)
          · simp only [List.setIfInBounds_toArray, List.set_cons_succ, List.set_cons_zero]; exact rfl
          have f0 := HN.frozen 0
          have f1 := HN.frozen 1
          have z0 := HN.cell 0 (.complex .f64 0 0) rfl
          have z1 := HN.cell 1 (.complex .f64 0 0) rfl
          refine regk_store (I' := (fun W => Below W3.heap.size W3 W)) (fun _ h => h) 9 (w' := (y6.setCell ⟨n, 0, none⟩ (.complex .f64 h2 h1)).setCell ⟨n, 1, none⟩ (.complex .f64 h4 h3)) (by kernel_rfl) (fun o ho => ?_) (noB_no (by kernel_rfl)) ?_
          · cases ho
            refine ⟨rfl, rfl, ?_⟩
            go_simp; (try with_reducible rfl)
          refine regk_free 10 16 (v := ?_) (T' := ?_) (noB_no (by kernel_rfl)) (by kernel_rfl) (by kernel_rfl) (by kernel_rfl) (by kernel_rfl) (fun _ _ _ h => h) (fun o ho => ?_) ?_ ?_
          rotate_left 2
          · cases ho
            refine ⟨rfl, rfl, fun W => ?_⟩
            go_simp; (try with_reducible rfl)
          · simp only [List.setIfInBounds_toArray, List.set_cons_succ, List.set_cons_zero]; exact rfl
          refine regk_done (by kernel_rfl) ?_
          refine Ends.mk ⟨n, va, vb, ?_, hn, (HN.set 0 (.complex .f64 h2 h1)).set 1 (.complex .f64 h4 h3), ((show Below W3.heap.size W3 y6 from HI).setCell (p := ⟨n, 0, none⟩) hn _).setCell (p := ⟨n, 1, none⟩) hn _⟩
          simp only [List.setIfInBounds_toArray, List.set_cons_succ, List.set_cons_zero]
      ·
        refine fork_make 8 15 (v := .pointer (some ⟨y1.heap.size, 0, none⟩)) (w' := y1.alloc (.cells #[.complex .f64 0 0, .complex .f64 0 0] 28)) (T' := ?_) (by kernel_rfl) (fun o ho => ?_) ?_ ?_
        rotate_left
        · cases ho
          refine ⟨rfl, rfl, ?_⟩
          go_simp; (try with_reducible rfl)
        · simp only [List.setIfInBounds_toArray, List.set_cons_succ, List.set_cons_zero]; exact rfl
        refine ⟨fun _ => (show Below W3.heap.size W3 y1 from HI).alloc (show Below W3.heap.size W3 y1 from HI).size _, ?_⟩
        have HN := Box.new y1 #[.complex .f64 0 0, .complex .f64 0 0] 28 _ rfl
        have hn : W3.heap.size ≤ y1.heap.size := (show Below W3.heap.size W3 y1 from HI).size
        have HI : (fun W => Below W3.heap.size W3 W) (y1.alloc (.cells #[.complex .f64 0 0, .complex .f64 0 0] 28)) := (show Below W3.heap.size W3 y1 from HI).alloc (show Below W3.heap.size W3 y1 from HI).size _
        generalize y1.alloc (.cells #[.complex .f64 0 0, .complex .f64 0 0] 28) = y7 at *
        generalize y1.heap.size = n at *
        refine regk_call (I' := (fun W => Below W3.heap.size W3 W)) (fun _ h => h) 3 39 (by kernel_rfl) 14 #[.agg #[.complex .f64 e1 e2, .complex .f64 e3 e4]] (fun o ho => by cases ho; exact ⟨rfl, rfl, fun W => by go_simp⟩) ?_
        refine (TY.out _).mono ?_
        rintro e y8 ⟨vb, rfl, hvb, hb⟩
        have HI : (fun W => Below W3.heap.size W3 W) y8 := (show Below W3.heap.size W3 y7 from HI).trans (hb.mono (show Below W3.heap.size W3 y7 from HI).size)
        try (have HN := HN.later hb)
        refine ⟨_, _, rfl, fun _ => HI, (by simp only [List.setIfInBounds_toArray, List.set_cons_succ, List.set_cons_zero]; exact rfl), ?_⟩
        refine regk_call (I' := (fun W => Below W3.heap.size W3 W)) (fun _ h => h) 4 40 (by kernel_rfl) 18 #[va, vb] (fun o ho => by cases ho; exact ⟨rfl, rfl, fun W => by go_simp⟩) ?_
        refine (MT.out va vb hva hvb _).mono ?_
        rintro e y9 ⟨rfl, hb⟩
        have HI : (fun W => Below W3.heap.size W3 W) y9 := (show Below W3.heap.size W3 y8 from HI).trans (hb.mono (show Below W3.heap.size W3 y8 from HI).size)
        try (have HN := HN.later hb)
        refine ⟨_, _, rfl, fun _ => HI, (by simp only [List.setIfInBounds_toArray, List.set_cons_succ, List.set_cons_zero]; exact rfl), ?_⟩
        refine regk_free 5 35 (v := ?_) (T' := ?_) (fun _ => HI) (by kernel_rfl) (by kernel_rfl) (by kernel_rfl) (by kernel_rfl) (fun _ _ _ h => h) (fun o ho => ?_) ?_ ?_
        rotate_left 2
        · cases ho
          refine ⟨rfl, rfl, fun W => ?_⟩
          go_simp; (try with_reducible rfl)
        · simp only [List.setIfInBounds_toArray, List.set_cons_succ, List.set_cons_zero]; exact rfl
        refine regk_free 6 41 (v := ?_) (T' := ?_) (fun _ => HI) (by kernel_rfl) (by kernel_rfl) (by kernel_rfl) (by kernel_rfl) (fun _ _ _ h => h) (fun o ho => ?_) ?_ ?_
        rotate_left 2
        · cases ho
          refine ⟨rfl, rfl, fun W => ?_⟩
          go_simp; (try with_reducible rfl)
        · simp only [List.setIfInBounds_toArray, List.set_cons_succ, List.set_cons_zero]; exact rfl
        refine regk_free 7 42 (v := ?_) (T' := ?_) (fun _ => HI) (by kernel_rfl) (by kernel_rfl) (by kernel_rfl) (by kernel_rfl) (fun _ _ _ h => h) (fun o ho => ?_) ?_ ?_
        rotate_left 2
        · cases ho
          refine ⟨rfl, rfl, fun W => ?_⟩
          go_simp; (try with_reducible rfl)
        · simp only [List.setIfInBounds_toArray, List.set_cons_succ, List.set_cons_zero]; exact rfl
        have f0 := HN.frozen 0
        have f1 := HN.frozen 1
        have z0 := HN.cell 0 (.complex .f64 0 0) rfl
        have z1 := HN.cell 1 (.complex .f64 0 0) rfl
        refine regk_store (I' := (fun W => Below W3.heap.size W3 W)) (fun _ h => h) 9 (w' := (y9.setCell ⟨n, 0, none⟩ (.complex .f64 h2 h1)).setCell ⟨n, 1, none⟩ (.complex .f64 h4 h3)) (by kernel_rfl) (fun o ho => ?_) (noB_no (by kernel_rfl)) ?_
        · cases ho
          refine ⟨rfl, rfl, ?_⟩
          go_simp; (try with_reducible rfl)
        refine regk_free 10 16 (v := ?_) (T' := ?_) (noB_no (by kernel_rfl)) (by kernel_rfl) (by kernel_rfl) (by kernel_rfl) (by kernel_rfl) (fun _ _ _ h => h) (fun o ho => ?_) ?_ ?_
        rotate_left 2
        · cases ho
          refine ⟨rfl, rfl, fun W => ?_⟩
          go_simp; (try with_reducible rfl)
        · simp only [List.setIfInBounds_toArray, List.set_cons_succ, List.set_cons_zero]; exact rfl
        refine regk_done (by kernel_rfl) ?_
        refine Ends.mk ⟨n, va, vb, ?_, hn, (HN.set 0 (.complex .f64 h2 h1)).set 1 (.complex .f64 h4 h3), ((show Below W3.heap.size W3 y9 from HI).setCell (p := ⟨n, 0, none⟩) hn _).setCell (p := ⟨n, 1, none⟩) hn _⟩
        simp only [List.setIfInBounds_toArray, List.set_cons_succ, List.set_cons_zero]
    ·
      refine fork_make 8 15 (v := .pointer (some ⟨y0.heap.size, 0, none⟩)) (w' := y0.alloc (.cells #[.complex .f64 0 0, .complex .f64 0 0] 28)) (T' := ?_) (by kernel_rfl) (fun o ho => ?_) ?_ ?_
      rotate_left
      · cases ho
        refine ⟨rfl, rfl, ?_⟩
        go_simp; (try with_reducible rfl)
      · simp only [List.setIfInBounds_toArray, List.set_cons_succ, List.set_cons_zero]; exact rfl
      refine ⟨fun _ => (show Below W3.heap.size W3 y0 from HI).alloc (show Below W3.heap.size W3 y0 from HI).size _, ?_⟩
      have HN := Box.new y0 #[.complex .f64 0 0, .complex .f64 0 0] 28 _ rfl
      have hn : W3.heap.size ≤ y0.heap.size := (show Below W3.heap.size W3 y0 from HI).size
      have HI : (fun W => Below W3.heap.size W3 W) (y0.alloc (.cells #[.complex .f64 0 0, .complex .f64 0 0] 28)) := (show Below W3.heap.size W3 y0 from HI).alloc (show Below W3.heap.size W3 y0 from HI).size _
      generalize y0.alloc (.cells #[.complex .f64 0 0, .complex .f64 0 0] 28) = y10 at *
      generalize y0.heap.size = n at *
      refine regk_call (I' := (fun W => Below W3.heap.size W3 W)) (fun _ h => h) 1 37 (by kernel_rfl) 14 #[.agg #[.complex .f64 g1 g2, .complex .f64 g3 g4]] (fun o ho => by cases ho; exact ⟨rfl, rfl, fun W => by go_simp⟩) ?_
      refine (TX.out _).mono ?_
      rintro e y11 ⟨va, rfl, hva, hb⟩
      have HI : (fun W => Below W3.heap.size W3 W) y11 := (show Below W3.heap.size W3 y10 from HI).trans (hb.mono (show Below W3.heap.size W3 y10 from HI).size)
      try (have HN := HN.later hb)
      refine ⟨_, _, rfl, fun _ => HI, (by simp only [List.setIfInBounds_toArray, List.set_cons_succ, List.set_cons_zero]; exact rfl), ?_⟩
      refine regk_call (I' := (fun W => Below W3.heap.size W3 W)) (fun _ h => h) 3 39 (by kernel_rfl) 14 #[.agg #[.complex .f64 e1 e2, .complex .f64 e3 e4]] (fun o ho => by cases ho; exact ⟨rfl, rfl, fun W => by go_simp⟩) ?_
      refine (TY.out _).mono ?_
      rintro e y12 ⟨vb, rfl, hvb, hb⟩
      have HI : (fun W => Below W3.heap.size W3 W) y12 := (show Below W3.heap.size W3 y11 from HI).trans (hb.mono (show Below W3.heap.size W3 y11 from HI).size)
      try (have HN := HN.later hb)
      refine ⟨_, _, rfl, fun _ => HI, (by simp only [List.setIfInBounds_toArray, List.set_cons_succ, List.set_cons_zero]; exact rfl), ?_⟩
      refine regk_call (I' := (fun W => Below W3.heap.size W3 W)) (fun _ h => h) 4 40 (by kernel_rfl) 18 #[va, vb] (fun o ho => by cases ho; exact ⟨rfl, rfl, fun W => by go_simp⟩) ?_
      refine (MT.out va vb hva hvb _).mono ?_
      rintro e y13 ⟨rfl, hb⟩
      have HI : (fun W => Below W3.heap.size W3 W) y13 := (show Below W3.heap.size W3 y12 from HI).trans (hb.mono (show Below W3.heap.size W3 y12 from HI).size)
      try (have HN := HN.later hb)
      refine ⟨_, _, rfl, fun _ => HI, (by simp only [List.setIfInBounds_toArray, List.set_cons_succ, List.set_cons_zero]; exact rfl), ?_⟩
      refine regk_free 5 35 (v := ?_) (T' := ?_) (fun _ => HI) (by kernel_rfl) (by kernel_rfl) (by kernel_rfl) (by kernel_rfl) (fun _ _ _ h => h) (fun o ho => ?_) ?_ ?_
      rotate_left 2
      · cases ho
        refine ⟨rfl, rfl, fun W => ?_⟩
        go_simp; (try with_reducible rfl)
      · simp only [List.setIfInBounds_toArray, List.set_cons_succ, List.set_cons_zero]; exact rfl
      refine regk_free 6 41 (v := ?_) (T' := ?_) (fun _ => HI) (by kernel_rfl) (by kernel_rfl) (by kernel_rfl) (by kernel_rfl) (fun _ _ _ h => h) (fun o ho => ?_) ?_ ?_
      rotate_left 2
      · cases ho
        refine ⟨rfl, rfl, fun W => ?_⟩
        go_simp; (try with_reducible rfl)
      · simp only [List.setIfInBounds_toArray, List.set_cons_succ, List.set_cons_zero]; exact rfl
      refine regk_free 7 42 (v := ?_) (T' := ?_) (fun _ => HI) (by kernel_rfl) (by kernel_rfl) (by kernel_rfl) (by kernel_rfl) (fun _ _ _ h => h) (fun o ho => ?_) ?_ ?_
      rotate_left 2
      · cases ho
        refine ⟨rfl, rfl, fun W => ?_⟩
        go_simp; (try with_reducible rfl)
      · simp only [List.setIfInBounds_toArray, List.set_cons_succ, List.set_cons_zero]; exact rfl
      have f0 := HN.frozen 0
      have f1 := HN.frozen 1
      have z0 := HN.cell 0 (.complex .f64 0 0) rfl
      have z1 := HN.cell 1 (.complex .f64 0 0) rfl
      refine regk_store (I' := (fun W => Below W3.heap.size W3 W)) (fun _ h => h) 9 (w' := (y13.setCell ⟨n, 0, none⟩ (.complex .f64 h2 h1)).setCell ⟨n, 1, none⟩ (.complex .f64 h4 h3)) (by kernel_rfl) (fun o ho => ?_) (noB_no (by kernel_rfl)) ?_
      · cases ho
        refine ⟨rfl, rfl, ?_⟩
        go_simp; (try with_reducible rfl)
      refine regk_free 10 16 (v := ?_) (T' := ?_) (noB_no (by kernel_rfl)) (by kernel_rfl) (by kernel_rfl) (by kernel_rfl) (by kernel_rfl) (fun _ _ _ h => h) (fun o ho => ?_) ?_ ?_
      rotate_left 2
      · cases ho
        refine ⟨rfl, rfl, fun W => ?_⟩
        go_simp; (try with_reducible rfl)
      · simp only [List.setIfInBounds_toArray, List.set_cons_succ, List.set_cons_zero]; exact rfl
      refine regk_done (by kernel_rfl) ?_
      refine Ends.mk ⟨n, va, vb, ?_, hn, (HN.set 0 (.complex .f64 h2 h1)).set 1 (.complex .f64 h4 h3), ((show Below W3.heap.size W3 y13 from HI).setCell (p := ⟨n, 0, none⟩) hn _).setCell (p := ⟨n, 1, none⟩) hn _⟩
      simp only [List.setIfInBounds_toArray, List.set_cons_succ, List.set_cons_zero]
-- DONE A
  rintro a' W4 ⟨n, va, vb, rfl, hn, hN, hB⟩
  simp only [List.setIfInBounds_toArray, List.set_cons_succ, List.set_cons_zero]
  have BX := Lib.hid (BX.out.later hB)
  have BY := Lib.hid (BY.out.later hB)
  have BM := Lib.hid (BM.out.later hB)
  have G := Lib.hid (G.out.trans (hB.mono G.out.size))
  have HN := Lib.hid hN
  clear hB hN hn lx ly
  go_wp2_with fail
  have lm := BM.out.lt
  have ln := HN.out.lt
  have HI : (fun W => Below W4.heap.size W4 W) W4.drew := (Below.refl _ _).drewN 1
-- REGION B
  refine regk_start [] (fun W => Below W4.heap.size W4 W) (by kernel_rfl) ?_
  refine regk_free 0 43 (v := ?_) (T' := ?_) (fun _ => HI) (by kernel_rfl) (by kernel_rfl) (by kernel_rfl) (by kernel_rfl) (fun _ _ _ h => h) (fun o ho => ?_) ?_ ?_
  rotate_left 2
  · cases ho
    refine ⟨rfl, rfl, fun W => ?_⟩
    go_simp; (try with_reducible rfl)
  · simp only [List.setIfInBounds_toArray, List.set_cons_succ, List.set_cons_zero]; exact rfl
  refine regk_free 1 44 (v := ?_) (T' := ?_) (fun _ => HI) (by kernel_rfl) (by kernel_rfl) (by kernel_rfl) (by kernel_rfl) (fun _ _ _ h => h) (fun o ho => ?_) ?_ ?_
  rotate_left 2
  · cases ho
    refine ⟨rfl, rfl, fun W => ?_⟩
    go_simp; (try with_reducible rfl)
  · simp only [List.setIfInBounds_toArray, List.set_cons_succ, List.set_cons_zero]; exact rfl
  refine regk_free 2 45 (v := ?_) (T' := ?_) (fun _ => HI) (by kernel_rfl) (by kernel_rfl) (by kernel_rfl) (by kernel_rfl) (fun _ _ _ h => h) (fun o ho => ?_) ?_ ?_
  rotate_left 2
  · cases ho
    refine ⟨rfl, rfl, fun W => ?_⟩
    go_simp; (try with_reducible rfl)
  · simp only [List.setIfInBounds_toArray, List.set_cons_succ, List.set_cons_zero]; exact rfl
  refine regk_free 3 46 (v := ?_) (T' := ?_) (fun _ => HI) (by kernel_rfl) (by kernel_rfl) (by kernel_rfl) (by kernel_rfl) (fun _ _ _ h => h) (fun o ho => ?_) ?_ ?_
  rotate_left 2
  · cases ho
    refine ⟨rfl, rfl, fun W => ?_⟩
    go_simp; (try with_reducible rfl)
  · simp only [List.setIfInBounds_toArray, List.set_cons_succ, List.set_cons_zero]; exact rfl
  refine regk_take 4 47 (v := ?_) (T' := ?_) HI (by kernel_rfl) (by kernel_rfl) (by kernel_rfl) (by kernel_rfl) (by kernel_rfl) (by kernel_rfl) (fun _ _ _ h => h) (fun o ho => ?_) ?_ ?_
  rotate_left 2
  · cases ho
    refine ⟨rfl, rfl, fun W hW => ?_⟩
    have hV0 := (Below.cell (p := ⟨n, 0, none⟩) (show Below W4.heap.size W4 W from hW) ln).trans (HN.out.cell 0 (.complex .f64 h2 h1) rfl)
    have hV1 := (Below.cell (p := ⟨n, 1, none⟩) (show Below W4.heap.size W4 W from hW) ln).trans (HN.out.cell 1 (.complex .f64 h4 h3) rfl)
    go_simp; (try with_reducible rfl)
  · simp only [List.setIfInBounds_toArray, List.set_cons_succ, List.set_cons_zero]; exact rfl
  refine regk_take 6 49 (v := ?_) (T' := ?_) HI (by kernel_rfl) (by kernel_rfl) (by kernel_rfl) (by kernel_rfl) (by kernel_rfl) (by kernel_rfl) (fun _ _ _ h => h) (fun o ho => ?_) ?_ ?_
  rotate_left 2
  · cases ho
    refine ⟨rfl, rfl, fun W hW => ?_⟩
    have hV0 := (Below.cell (p := ⟨nm, 0, none⟩) (show Below W4.heap.size W4 W from hW) lm).trans (BM.out.cell 0 (.complex .f64 h1 h2) rfl)
    have hV1 := (Below.cell (p := ⟨nm, 1, none⟩) (show Below W4.heap.size W4 W from hW) lm).trans (BM.out.cell 1 (.complex .f64 h3 h4) rfl)
    go_simp; (try with_reducible rfl)
  · simp only [List.setIfInBounds_toArray, List.set_cons_succ, List.set_cons_zero]; exact rfl
  refine regk_call (I' := (fun W => Below W4.heap.size W4 W)) (fun _ h => h) 5 48 (by kernel_rfl) 10 #[.agg #[.complex .f64 h2 h1, .complex .f64 h4 h3]] (fun o ho => by cases ho; exact ⟨rfl, rfl, fun W => by go_simp⟩) ?_
  refine (SN.out _).mono ?_
  rintro e y11 ⟨rfl, hb11⟩
  have HI : (fun W => Below W4.heap.size W4 W) y11 := (show Below W4.heap.size W4 _ from HI).trans (hb11.mono (show Below W4.heap.size W4 _ from HI).size)
  refine ⟨_, _, rfl, fun _ => HI, (by simp only [List.setIfInBounds_toArray, List.set_cons_succ, List.set_cons_zero]; exact rfl), ?_⟩
  refine regk_call (I' := (fun W => Below W4.heap.size W4 W)) (fun _ h => h) 7 50 (by kernel_rfl) 14 #[.agg #[.complex .f64 h1 h2, .complex .f64 h3 h4]] (fun o ho => by cases ho; exact ⟨rfl, rfl, fun W => by go_simp⟩) ?_
  refine (TM.out _).mono ?_
  rintro e y12 ⟨vz, rfl, hvz, hb12⟩
  have HI : (fun W => Below W4.heap.size W4 W) y12 := (show Below W4.heap.size W4 _ from HI).trans (hb12.mono (show Below W4.heap.size W4 _ from HI).size)
  refine ⟨_, _, rfl, fun _ => HI, (by simp only [List.setIfInBounds_toArray, List.set_cons_succ, List.set_cons_zero]; exact rfl), ?_⟩
  refine regk_call (I' := (fun W => Below W4.heap.size W4 W)) (fun _ h => h) 8 51 (by kernel_rfl) 10 #[vz] (fun o ho => by cases ho; exact ⟨rfl, rfl, fun W => by go_simp⟩) ?_
  refine (SV.out _ hvz _).mono ?_
  rintro e y13 ⟨rfl, hb13⟩
  have HI : (fun W => Below W4.heap.size W4 W) y13 := (show Below W4.heap.size W4 _ from HI).trans (hb13.mono (show Below W4.heap.size W4 _ from HI).size)
  refine ⟨_, _, rfl, fun _ => HI, (by simp only [List.setIfInBounds_toArray, List.set_cons_succ, List.set_cons_zero]; exact rfl), ?_⟩
  refine regk_free 9 52 (v := ?_) (T' := ?_) (fun _ => HI) (by kernel_rfl) (by kernel_rfl) (by kernel_rfl) (by kernel_rfl) (fun _ _ _ h => h) (fun o ho => ?_) ?_ ?_
  rotate_left 2
  · cases ho
    refine ⟨rfl, rfl, fun W => ?_⟩
    go_simp; (try with_reducible rfl)
  · simp only [List.setIfInBounds_toArray, List.set_cons_succ, List.set_cons_zero]; exact rfl
  refine regk_free 10 53 (v := ?_) (T' := ?_) (fun _ => HI) (by kernel_rfl) (by kernel_rfl) (by kernel_rfl) (by kernel_rfl) (fun _ _ _ h => h) (fun o ho => ?_) ?_ ?_
  rotate_left 2
  · cases ho
    refine ⟨rfl, rfl, fun W => ?_⟩
    go_simp; (try with_reducible rfl)
  · simp only [List.setIfInBounds_toArray, List.set_cons_succ, List.set_cons_zero]; exact rfl
  refine regk_done (by kernel_rfl) ?_
-- DONE B
  have hj := (show Below W4.heap.size W4 y13 from HI)
  have BX := Lib.hid (BX.out.later hj)
  have BY := Lib.hid (BY.out.later hj)
  have G := Lib.hid (G.out.trans (hj.mono G.out.size))
  clear HI hj lm ln hb11 hb12 hb13 BM HN
  have c00 := BX.out.cell 0 (.complex .f64 g1 g2) rfl
  have c01 := BX.out.cell 1 (.complex .f64 g3 g4) rfl
  have c10 := BY.out.cell 0 (.complex .f64 e1 e2) rfl
  have c11 := BY.out.cell 1 (.complex .f64 e3 e4) rfl
  go_wp2_with fail
  refine (MN.out _).mono ?_
  rintro e w5 ⟨v5, rfl, ho5, hb5⟩
  have BX := Lib.hid (BX.out.later hb5)
  have BY := Lib.hid (BY.out.later hb5)
  have G := Lib.hid (G.out.trans (hb5.mono G.out.size))
  have R := Lib.hid ho5.rd
  obtain ⟨A5, c5, e5, -⟩ := R.out
  subst e5
  have lx := BX.out.lt
  have ly := BY.out.lt
  clear hb5 ho5 c00 c01 c10 c11
  go_wp2_with fail
  go_loopw [18] (fun i wr => ∃ k : Nat, i = .int .i64 k ∧ k ≤ l.length ∧ Below w5.heap.size w5 wr) (fun i _ => l.length - (intOf i).toNat)
  case atStart => exact ⟨0, rfl, Nat.zero_le _, Below.refl _ _⟩
  case round =>
    obtain ⟨k, rfl, hk, hb⟩ := hrel
    have GW := Lib.hid hb
    have BXw := Lib.hid (BX.out.on hb lx)
    have BYw := Lib.hid (BY.out.on hb ly)
    clear hb
    by_cases hlt : k < l.length
    · obtain ⟨ba, oa, rfl, hba, d0, d1⟩ := RdRx.here (R.out.below GW.out) k hlt
      have HM := Lib.hid (HE.out l[k] (List.getElem_mem _))
      have HLk := Lib.hid (HL.out l[k] (List.getElem_mem _))
      have hl4 := hlen.out
      generalize l[k] = x at *
      generalize hxk : rHas x u t = hk2 at *
      clear hxk
      obtain ⟨⟨x1, x2⟩, ⟨x3, x4⟩⟩ := x
      simp only at HM d0 d1
      go_wp2_with fail
      refine (HM.out _).mono ?_
      rintro e w6 ⟨rfl, hb6⟩
      have GW := Lib.hid (GW.out.trans (hb6.mono GW.out.size))
      have BXw := Lib.hid (BXw.out.later hb6)
      have BYw := Lib.hid (BYw.out.later hb6)
      clear hb6 d0 d1
      cases hk2
      · go_wp2_with fail
        go_roundw
        case rel => exact ⟨k + 1, by go_num, by omega, GW.out⟩
        case measure => simp [intOf]; omega
      · obtain ⟨i1, i2⟩ := (show hx = true ∧ hy = false from by first | exact HLk.out rfl | exact HLk.out (by trivial) | exact HLk.out)
        subst i1 i2
        have c10 := BYw.out.cell 0 (.complex .f64 e1 e2) rfl
        have c11 := BYw.out.cell 1 (.complex .f64 e3 e4) rfl
        go_wp2_with fail
        refine (HY.out _).mono ?_
        rintro e w7 ⟨rfl, hb7⟩
        have GW := Lib.hid (GW.out.trans (hb7.mono GW.out.size))
        have BXw := Lib.hid (BXw.out.later hb7)
        clear hb7 c10 c11
        have c00 := BXw.out.cell 0 (.complex .f64 g1 g2) rfl
        have c01 := BXw.out.cell 1 (.complex .f64 g3 g4) rfl
        go_wp2_with fail
        refine (HX.out _).mono ?_
        rintro e w8 ⟨rfl, hb8⟩
        have GW := Lib.hid (GW.out.trans (hb8.mono GW.out.size))
        clear hb8 c00 c01
        go_wp2_with fail
        go_roundw
        case rel => exact ⟨k + 1, by go_num, by omega, GW.out⟩
        case measure => simp [intOf]; omega
    · have c00 := BXw.out.cell 0 (.complex .f64 g1 g2) rfl
      have c01 := BXw.out.cell 1 (.complex .f64 g3 g4) rfl
      have hl4 := hlen.out
      have G := Lib.hid (G.out.trans (GW.out.mono G.out.size))
      go_wp2_with fail
      refine (MS.out _).mono ?_
      rintro e w6 ⟨v6, rfl, ho6, hb6⟩
      have G := Lib.hid (G.out.trans (hb6.mono G.out.size))
      obtain ⟨A6, c6, e6, -⟩ := ho6.rd
      subst e6
      clear hb6 ho6 c00 c01
      go_wp2_with fail
      refine (LV.out _).mono ?_
      rintro e w7 ⟨rfl, hb7⟩
      have G := Lib.hid (G.out.trans (hb7.mono G.out.size))
      clear hb7
      go_wp2_with fail
      go_ret
      exact ⟨rfl, G.out⟩
-- END
set_option maxRecDepth 100000 in
theorem lifted (os : Os) (started : os.Started) (H : Type) (enc : TypeId × Value → H) :
    ReturnsInHanded {} Try.checked os 6 .any (Rows.planeTurnsSpec.pre6 enc Try.prog Try.f6 Rows.planeTurnsRow.domain false) (Rows.planeTurnsSpec.post enc Try.prog Try.f6 false true false false) := by
  refine returnsInHanded_of_change (C := Try.checked) Try.own started (by kernel_rfl) Try.func6
    (ChangeSpec.witness6 (enc := enc) (C := Try.checked) false ⟨#[], #[.agg #[.int .i64 0, .int .i64 0, .int .i64 0, .int .i64 0], .agg #[.int .i64 0, .int .i64 0, .int .i64 0, .int .i64 0], .int .i64 0, .int .i64 0], []⟩ 8 (by kernel_rfl) (by kernel_rfl) (by kernel_rfl) (by kernel_rfl)) ?_
  intro W base args ds gs before hval0 hW _ _
  have hval : ∀ (j : Nat) t v, Try.f6.params[j]? = some t → args[j]? = some v → Value.okWide Try.prog W .any base t v := hval0
  have hW' := hW
  obtain ⟨p, q, hA0, hV, rfl, _, _⟩ := hW
  have hA : DataW.TrodAll enc Try.prog W 0 (fun _ => true) true Try.f6.params.toList args.toList ds p := hA0
  rw [Try.params6] at hA hval
  obtain ⟨v0, v1, v2, v3, d0, d1, d2, d3, p0, p1, p2, p3, rfl, rfl, rfl, h0, h1, h2, h3⟩ := trodAll_four hA
  obtain ⟨rfl, rfl⟩ := trodVars_none hV
  obtain ⟨a0, rfl, w0⟩ := open_re (hval 0 _ v0 rfl rfl) h0
  obtain ⟨a1, rfl, w1⟩ := open_re (hval 1 _ v1 rfl rfl) h1
  obtain ⟨a2, rfl, rfl, rfl, w2⟩ := open_int Try.underlying3 (hval 2 _ v2 rfl rfl) h2
  have w2 := wf_int w2
  obtain ⟨a3, rfl, rfl, rfl, w3⟩ := open_int Try.underlying3 (hval 3 _ v3 rfl rfl) h3
  have w3 := wf_int w3
  refine (walk a0 a1 a2 a3 _).mono fun e W' ⟨he, hb⟩ => ⟨_, he, ?_⟩
  exact law_post Try.laidOut (by decide +kernel) rfl Try.underlying4 rfl hW' rfl hb

theorem holds : Rows.PlaneTurnsSaid :=
  OpenClaim.holds_of_wide 6 Try.f6 rfl rfl rfl rfl rfl rfl rfl ⟨rfl, rfl, rfl, rfl, rfl⟩ rfl rfl rfl rfl rfl (by kernel_rfl) Try.func6 (by kernel_rfl)
    (of_decide_eq_true (by kernel_rfl)) (by unfold Func.isWrapper; first | (rw [if_pos (by decide +kernel)]; kernel_rfl) | (rw [if_neg (by decide +kernel)]; exact ⟨rfl, rfl⟩))
    (fun os started H enc _ => lifted os started H enc)
end Go.Proofs.Ytpmcpoacaeoleaa.L04
