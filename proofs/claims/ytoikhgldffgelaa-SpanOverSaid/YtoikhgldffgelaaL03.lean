/- SpanOver (P4.2): for every list of pieces and every piece more: pieces with one over them, and without its span, are the document's. No condition. -/
import Derived.Test.YtoikhgldffgelaaPk
import Derived.Test.YtoikhgldffgelaaBlaw
namespace Go.Proofs.Ytoikhgldffgelaa.L03
open Go.RowKit Go.ChangeShapes Go.WideShapes Go.ChangeAt
set_option linter.unusedVariables false

theorem made_len (l : List Pc) : (madeF l).length ≤ 255 := made_small l 8 (Nat.le_refl _)

set_option maxHeartbeats 4000000 in
theorem walk (v : Value) (l : List Pc) (p : Pc) (U : World) (h : RdPc U U.heap.size v l) : Calls Try.prog 5 #[v, pcV p] U fun e W' => e = .returned (.bool true) ∧ Below U.heap.size U W' := by
  have hl := made_len l
  have MA := Lib.hid (fun w hw => ref_made1 v l w hw)
  generalize madeF l = m at *
  have hcs := cutP_sp p
  have CU := Lib.hid (fun w => ref_cut p w)
  obtain ⟨⟨p1, p2⟩, p3⟩ := p
  generalize cutP ((p1, p2), p3) = p' at *
  obtain ⟨p'1, p4⟩ := p'
  simp only at hcs
  subst hcs
  have O1 := Lib.hid (fun x w hx => p_over x m ((p1, p2), p4) w hx (by omega))
  have O2 := Lib.hid (fun x w hx => ref_over x m ((p1, p2), p4) w hx (by omega))
  have N1 := Lib.hid (fun x w hx => p_without x m (p1, p2) w hx (by omega))
  have N2 := Lib.hid (fun x w hx => ref_without x m (p1, p2) w hx (by omega))
  generalize overF m ((p1, p2), p4) = q at *
  generalize withoutF m (p1, p2) = t at *
  have hpc : ∀ x : Pc, pcV x = .agg #[.int .i64 x.1.1, .int .i64 x.1.2, .string x.2] := fun _ => rfl
  have hsp : ∀ x : Sp, spV x = .agg #[.int .i64 x.1, .int .i64 x.2] := fun _ => rfl
  simp only [hpc] at CU O1 O2
  simp only [hsp] at N1 N2
  rw [hpc]
  clear hpc hsp
  have B := Lib.hid (Box.new U #[.int .i64 p1, .int .i64 p2, .string p3] 34 _ rfl)
  have G := Lib.hid (alloc_below U (.cells #[.int .i64 p1, .int .i64 p2, .string p3] 34))
  have HV := Lib.hid (h.on G.out)
  clear h
  go_enter Try.func5, Try.ntmps5
  go_wp2_with fail
  generalize U.alloc (.cells #[.int .i64 p1, .int .i64 p2, .string p3] 34) = w0 at *
  have B0 := B
  refine (MA.out _ HV.out).mono ?_
  rintro e w1 ⟨v1, rfl, hr1, hb1⟩
  have B := Lib.hid (B.out.later hb1)
  have NW := Lib.hid (show U.heap.size < w0.heap.size from by have := B0.out.lt; exact this)
  have OM := Lib.hid hr1
  have G := Lib.hid (G.out.trans (hb1.mono G.out.size))
  have NB := Lib.hid (show U.heap.size < w1.heap.size from B.out.lt)
  clear hr1 hb1
  have c0 := B.out.cell 0 (.int .i64 p1) rfl
  have c1 := B.out.cell 1 (.int .i64 p2) rfl
  have c2 := B.out.cell 2 (.string p3) rfl
  go_wp2_with fail
  refine (CU.out _).mono ?_
  rintro e w2 ⟨rfl, hb2⟩
  have B := Lib.hid (B.out.later hb2)
  have OM := Lib.hid (OM.out.on hb2)
  have G := Lib.hid (G.out.trans (hb2.mono G.out.size))
  clear hb2 c0 c1 c2
  have c0 := B.out.cell 0 (.int .i64 p1) rfl
  have c1 := B.out.cell 1 (.int .i64 p2) rfl
  have c2 := B.out.cell 2 (.string p3) rfl
  have f0 := B.out.frozen 0
  have f1 := B.out.frozen 1
  have f2 := B.out.frozen 2
  have B3 := Lib.hid (show Box (((w2.setCell ⟨U.heap.size, 0, none⟩ (.int .i64 p1)).setCell ⟨U.heap.size, 1, none⟩ (.int .i64 p2)).setCell ⟨U.heap.size, 2, none⟩ (.string p4)) U.heap.size #[.int .i64 p1, .int .i64 p2, .string p4] 34 from ((B.out.set 0 _).set 1 _).set 2 _)
  have O3 := Lib.hid (show OwnPc (((w2.setCell ⟨U.heap.size, 0, none⟩ (.int .i64 p1)).setCell ⟨U.heap.size, 1, none⟩ (.int .i64 p2)).setCell ⟨U.heap.size, 2, none⟩ (.string p4)) w0.heap.size v1 m from
    ownsRow_setCell_below (ownsRow_setCell_below (ownsRow_setCell_below OM.out (a := ⟨U.heap.size, 0, none⟩) NW.out _) (a := ⟨U.heap.size, 1, none⟩) NW.out _) (a := ⟨U.heap.size, 2, none⟩) NW.out _)
  have G3 := Lib.hid (show Below U.heap.size U (((w2.setCell ⟨U.heap.size, 0, none⟩ (.int .i64 p1)).setCell ⟨U.heap.size, 1, none⟩ (.int .i64 p2)).setCell ⟨U.heap.size, 2, none⟩ (.string p4)) from
    ((G.out.setCell (p := ⟨U.heap.size, 0, none⟩) (Nat.le_refl _) _).setCell (p := ⟨U.heap.size, 1, none⟩) (Nat.le_refl _) _).setCell (p := ⟨U.heap.size, 2, none⟩) (Nat.le_refl _) _)
  clear OM B0 NB NW
  go_wp2_with fail
  generalize ((w2.setCell ⟨U.heap.size, 0, none⟩ (.int .i64 p1)).setCell ⟨U.heap.size, 1, none⟩ (.int .i64 p2)).setCell ⟨U.heap.size, 2, none⟩ (.string p4) = w3 at *
  clear c0 c1 c2 f0 f1 f2 B G
  have RM := Lib.hid O3.out.rd
  have LB := Lib.hid B3.out.lt
  have HI : (fun X => Below w3.heap.size w3.drew X) w3.drew := Below.refl _ _
-- REGION A
  refine regk_start [] (fun X => Below w3.heap.size w3.drew X) (by kernel_rfl) ?_
  refine regk_free 0 12 (v := ?_) (T' := ?_) (fun _ => HI) (by kernel_rfl) (by kernel_rfl) (by kernel_rfl) (by kernel_rfl) (fun _ _ _ h => h) (fun o ho => ?_) ?_ ?_
  rotate_left 2
  · cases ho
    refine ⟨rfl, rfl, fun W => ?_⟩
    go_simp; (try with_reducible rfl)
  · simp only [List.setIfInBounds_toArray, List.set_cons_succ, List.set_cons_zero]; exact rfl
  refine regk_take 1 13 (v := ?_) (T' := ?_) HI (by kernel_rfl) (by kernel_rfl) (by kernel_rfl) (by kernel_rfl) (by kernel_rfl) (by kernel_rfl) (fun _ _ _ h => h) (fun o ho => ?_) ?_ ?_
  rotate_left 2
  · cases ho
    refine ⟨rfl, rfl, fun W hW => ?_⟩
    have hV0 := (Below.cell (p := ⟨U.heap.size, 0, none⟩) (show Below w3.heap.size w3.drew W from hW) LB.out).trans (show w3.drew.cell? _ = _ from B3.out.cell 0 (.int .i64 p1) rfl)
    have hV1 := (Below.cell (p := ⟨U.heap.size, 1, none⟩) (show Below w3.heap.size w3.drew W from hW) LB.out).trans (show w3.drew.cell? _ = _ from B3.out.cell 1 (.int .i64 p2) rfl)
    have hV2 := (Below.cell (p := ⟨U.heap.size, 2, none⟩) (show Below w3.heap.size w3.drew W from hW) LB.out).trans (show w3.drew.cell? _ = _ from B3.out.cell 2 (.string p4) rfl)
    go_simp; (try with_reducible rfl)
  · simp only [List.setIfInBounds_toArray, List.set_cons_succ, List.set_cons_zero]; exact rfl
  refine regk_free 3 15 (v := ?_) (T' := ?_) (fun _ => HI) (by kernel_rfl) (by kernel_rfl) (by kernel_rfl) (by kernel_rfl) (fun _ _ _ h => h) (fun o ho => ?_) ?_ ?_
  rotate_left 2
  · cases ho
    refine ⟨rfl, rfl, fun W => ?_⟩
    go_simp; (try with_reducible rfl)
  · simp only [List.setIfInBounds_toArray, List.set_cons_succ, List.set_cons_zero]; exact rfl
  refine regk_take 4 16 (v := ?_) (T' := ?_) HI (by kernel_rfl) (by kernel_rfl) (by kernel_rfl) (by kernel_rfl) (by kernel_rfl) (by kernel_rfl) (fun _ _ _ h => h) (fun o ho => ?_) ?_ ?_
  rotate_left 2
  · cases ho
    refine ⟨rfl, rfl, fun W hW => ?_⟩
    have hV0 := (Below.cell (p := ⟨U.heap.size, 0, none⟩) (show Below w3.heap.size w3.drew W from hW) LB.out).trans (show w3.drew.cell? _ = _ from B3.out.cell 0 (.int .i64 p1) rfl)
    have hV1 := (Below.cell (p := ⟨U.heap.size, 1, none⟩) (show Below w3.heap.size w3.drew W from hW) LB.out).trans (show w3.drew.cell? _ = _ from B3.out.cell 1 (.int .i64 p2) rfl)
    have hV2 := (Below.cell (p := ⟨U.heap.size, 2, none⟩) (show Below w3.heap.size w3.drew W from hW) LB.out).trans (show w3.drew.cell? _ = _ from B3.out.cell 2 (.string p4) rfl)
    go_simp; (try with_reducible rfl)
  · simp only [List.setIfInBounds_toArray, List.set_cons_succ, List.set_cons_zero]; exact rfl
  refine regk_call (I' := (fun X => Below w3.heap.size w3.drew X)) (fun _ h => h) 2 14 (by kernel_rfl) 23 #[v1, .agg #[.int .i64 p1, .int .i64 p2, .string p4]] (fun o ho => by cases ho; exact ⟨rfl, rfl, fun W => by go_simp⟩) ?_
  refine (O1.out _ _ (show RdPc w3.drew w3.drew.heap.size v1 m from RM.out)).mono ?_
  rintro e x4 ⟨y4, rfl, ho, hc⟩
  have hb4 := hc
  have Y4 := Lib.hid ho.rd
  clear ho
  clear hc
  have HI : (fun X => Below w3.heap.size w3.drew X) x4 := hb4
  refine ⟨_, _, rfl, fun _ => HI, (by simp only [List.setIfInBounds_toArray, List.set_cons_succ, List.set_cons_zero]; exact rfl), ?_⟩
  refine regk_call (I' := (fun X => Below w3.heap.size w3.drew X)) (fun _ h => h) 5 17 (by kernel_rfl) 24 #[v1, .agg #[.int .i64 p1, .int .i64 p2, .string p4]] (fun o ho => by cases ho; exact ⟨rfl, rfl, fun W => by go_simp⟩) ?_
  refine (O2.out _ _ ((show RdPc w3.drew w3.drew.heap.size v1 m from RM.out).on hb4)).mono ?_
  rintro e x5 ⟨y5, rfl, ho, hc⟩
  have hb5 := hb4.trans (hc.mono hb4.size)
  have Y5 := Lib.hid ho
  have Y4 := Lib.hid (Y4.out.on hc)
  clear ho
  clear hc
  have HI : (fun X => Below w3.heap.size w3.drew X) x5 := hb5
  refine ⟨_, _, rfl, fun _ => HI, (by simp only [List.setIfInBounds_toArray, List.set_cons_succ, List.set_cons_zero]; exact rfl), ?_⟩
  refine regk_call (I' := (fun X => Below w3.heap.size w3.drew X)) (fun _ h => h) 6 18 (by kernel_rfl) 22 #[y4, y5] (fun o ho => by cases ho; exact ⟨rfl, rfl, fun W => by go_simp⟩) ?_
  refine (same_self y4 y5 q _ Y4.out Y5.out).mono ?_
  rintro e x6 ⟨rfl, hc⟩
  have hb6 := hb5.trans (hc.mono hb5.size)
  clear hc
  have HI : (fun X => Below w3.heap.size w3.drew X) x6 := hb6
  refine ⟨_, _, rfl, fun _ => HI, (by simp only [List.setIfInBounds_toArray, List.set_cons_succ, List.set_cons_zero]; exact rfl), ?_⟩
  refine regk_free 7 6 (v := ?_) (T' := ?_) (fun _ => HI) (by kernel_rfl) (by kernel_rfl) (by kernel_rfl) (by kernel_rfl) (fun _ _ _ h => h) (fun o ho => ?_) ?_ ?_
  rotate_left 2
  · cases ho
    refine ⟨rfl, rfl, fun W => ?_⟩
    go_simp; (try with_reducible rfl)
  · simp only [List.setIfInBounds_toArray, List.set_cons_succ, List.set_cons_zero]; exact rfl
  refine regk_done (by kernel_rfl) ?_
-- DONE A
  have B4 := Lib.hid (Box.on (show Box w3.drew _ _ _ from B3.out) hb6 LB.out)
  have RM := Lib.hid ((show RdPc w3.drew w3.drew.heap.size v1 m from RM.out).on hb6)
  have G := Lib.hid ((G3.out.drewN 1).trans (hb6.mono G3.out.size))
  clear hb6 HI
  go_wp2_with fail
  have LB := Lib.hid B4.out.lt
  have HI : (fun X => Below x6.heap.size x6.drew X) x6.drew := Below.refl _ _
-- REGION B
  refine regk_start [] (fun X => Below x6.heap.size x6.drew X) (by kernel_rfl) ?_
  refine regk_free 0 19 (v := ?_) (T' := ?_) (fun _ => HI) (by kernel_rfl) (by kernel_rfl) (by kernel_rfl) (by kernel_rfl) (fun _ _ _ h => h) (fun o ho => ?_) ?_ ?_
  rotate_left 2
  · cases ho
    refine ⟨rfl, rfl, fun W => ?_⟩
    go_simp; (try with_reducible rfl)
  · simp only [List.setIfInBounds_toArray, List.set_cons_succ, List.set_cons_zero]; exact rfl
  refine regk_free 1 20 (v := ?_) (T' := ?_) (fun _ => HI) (by kernel_rfl) (by kernel_rfl) (by kernel_rfl) (by kernel_rfl) (fun _ _ _ h => h) (fun o ho => ?_) ?_ ?_
  rotate_left 2
  · cases ho
    refine ⟨rfl, rfl, fun W => ?_⟩
    go_simp; (try with_reducible rfl)
  · simp only [List.setIfInBounds_toArray, List.set_cons_succ, List.set_cons_zero]; exact rfl
  refine regk_take 2 21 (v := ?_) (T' := ?_) HI (by kernel_rfl) (by kernel_rfl) (by kernel_rfl) (by kernel_rfl) (by kernel_rfl) (by kernel_rfl) (fun _ _ _ h => h) (fun o ho => ?_) ?_ ?_
  rotate_left 2
  · cases ho
    refine ⟨rfl, rfl, fun W hW => ?_⟩
    have hV0 := (Below.cell (p := ⟨U.heap.size, 0, none⟩) (show Below x6.heap.size x6.drew W from hW) LB.out).trans (show x6.drew.cell? _ = _ from B4.out.cell 0 (.int .i64 p1) rfl)
    have hV1 := (Below.cell (p := ⟨U.heap.size, 1, none⟩) (show Below x6.heap.size x6.drew W from hW) LB.out).trans (show x6.drew.cell? _ = _ from B4.out.cell 1 (.int .i64 p2) rfl)
    go_simp; (try with_reducible rfl)
  · simp only [List.setIfInBounds_toArray, List.set_cons_succ, List.set_cons_zero]; exact rfl
  refine regk_free 4 23 (v := ?_) (T' := ?_) (fun _ => HI) (by kernel_rfl) (by kernel_rfl) (by kernel_rfl) (by kernel_rfl) (fun _ _ _ h => h) (fun o ho => ?_) ?_ ?_
  rotate_left 2
  · cases ho
    refine ⟨rfl, rfl, fun W => ?_⟩
    go_simp; (try with_reducible rfl)
  · simp only [List.setIfInBounds_toArray, List.set_cons_succ, List.set_cons_zero]; exact rfl
  refine regk_free 5 24 (v := ?_) (T' := ?_) (fun _ => HI) (by kernel_rfl) (by kernel_rfl) (by kernel_rfl) (by kernel_rfl) (fun _ _ _ h => h) (fun o ho => ?_) ?_ ?_
  rotate_left 2
  · cases ho
    refine ⟨rfl, rfl, fun W => ?_⟩
    go_simp; (try with_reducible rfl)
  · simp only [List.setIfInBounds_toArray, List.set_cons_succ, List.set_cons_zero]; exact rfl
  refine regk_take 6 25 (v := ?_) (T' := ?_) HI (by kernel_rfl) (by kernel_rfl) (by kernel_rfl) (by kernel_rfl) (by kernel_rfl) (by kernel_rfl) (fun _ _ _ h => h) (fun o ho => ?_) ?_ ?_
  rotate_left 2
  · cases ho
    refine ⟨rfl, rfl, fun W hW => ?_⟩
    have hV0 := (Below.cell (p := ⟨U.heap.size, 0, none⟩) (show Below x6.heap.size x6.drew W from hW) LB.out).trans (show x6.drew.cell? _ = _ from B4.out.cell 0 (.int .i64 p1) rfl)
    have hV1 := (Below.cell (p := ⟨U.heap.size, 1, none⟩) (show Below x6.heap.size x6.drew W from hW) LB.out).trans (show x6.drew.cell? _ = _ from B4.out.cell 1 (.int .i64 p2) rfl)
    go_simp; (try with_reducible rfl)
  · simp only [List.setIfInBounds_toArray, List.set_cons_succ, List.set_cons_zero]; exact rfl
  refine regk_call (I' := (fun X => Below x6.heap.size x6.drew X)) (fun _ h => h) 3 22 (by kernel_rfl) 25 #[v1, .agg #[.int .i64 p1, .int .i64 p2]] (fun o ho => by cases ho; exact ⟨rfl, rfl, fun W => by go_simp⟩) ?_
  refine (N1.out _ _ (show RdPc x6.drew x6.drew.heap.size v1 m from RM.out)).mono ?_
  rintro e x7 ⟨y7, rfl, ho, hc⟩
  have hb7 := hc
  have Y7 := Lib.hid ho.rd
  clear ho
  clear hc
  have HI : (fun X => Below x6.heap.size x6.drew X) x7 := hb7
  refine ⟨_, _, rfl, fun _ => HI, (by simp only [List.setIfInBounds_toArray, List.set_cons_succ, List.set_cons_zero]; exact rfl), ?_⟩
  refine regk_call (I' := (fun X => Below x6.heap.size x6.drew X)) (fun _ h => h) 7 26 (by kernel_rfl) 26 #[v1, .agg #[.int .i64 p1, .int .i64 p2]] (fun o ho => by cases ho; exact ⟨rfl, rfl, fun W => by go_simp⟩) ?_
  refine (N2.out _ _ ((show RdPc x6.drew x6.drew.heap.size v1 m from RM.out).on hb7)).mono ?_
  rintro e x8 ⟨y8, rfl, ho, hc⟩
  have hb8 := hb7.trans (hc.mono hb7.size)
  have Y8 := Lib.hid ho
  have Y7 := Lib.hid (Y7.out.on hc)
  clear ho
  clear hc
  have HI : (fun X => Below x6.heap.size x6.drew X) x8 := hb8
  refine ⟨_, _, rfl, fun _ => HI, (by simp only [List.setIfInBounds_toArray, List.set_cons_succ, List.set_cons_zero]; exact rfl), ?_⟩
  refine regk_call (I' := (fun X => Below x6.heap.size x6.drew X)) (fun _ h => h) 8 27 (by kernel_rfl) 22 #[y7, y8] (fun o ho => by cases ho; exact ⟨rfl, rfl, fun W => by go_simp⟩) ?_
  refine (same_self y7 y8 t _ Y7.out Y8.out).mono ?_
  rintro e x9 ⟨rfl, hc⟩
  have hb9 := hb8.trans (hc.mono hb8.size)
  clear hc
  have HI : (fun X => Below x6.heap.size x6.drew X) x9 := hb9
  refine ⟨_, _, rfl, fun _ => HI, (by simp only [List.setIfInBounds_toArray, List.set_cons_succ, List.set_cons_zero]; exact rfl), ?_⟩
  refine regk_free 9 7 (v := ?_) (T' := ?_) (fun _ => HI) (by kernel_rfl) (by kernel_rfl) (by kernel_rfl) (by kernel_rfl) (fun _ _ _ h => h) (fun o ho => ?_) ?_ ?_
  rotate_left 2
  · cases ho
    refine ⟨rfl, rfl, fun W => ?_⟩
    go_simp; (try with_reducible rfl)
  · simp only [List.setIfInBounds_toArray, List.set_cons_succ, List.set_cons_zero]; exact rfl
  refine regk_done (by kernel_rfl) ?_
-- DONE B
  have G := Lib.hid ((G.out.drewN 1).trans (hb9.mono G.out.size))
  clear hb9 HI
  go_wp2_with fail
  refine (lives_any _).mono ?_
  rintro e w9 ⟨rfl, hb9⟩
  have G := Lib.hid (G.out.trans (hb9.mono G.out.size))
  clear hb9
  go_wp2_with fail
  go_ret
  exact ⟨rfl, G.out⟩
-- END
set_option maxRecDepth 100000 in
theorem lifted (os : Os) (started : os.Started) (H : Type) (enc : TypeId × Value → H) :
    ReturnsInHanded {} Try.checked os 5 .any (Rows.spanOverSpec.pre6 enc Try.prog Try.f5 Rows.spanOverRow.domain false) (Rows.spanOverSpec.post enc Try.prog Try.f5 false true false false) := by
  refine returnsInHanded_of_change (C := Try.checked) Try.own started (by kernel_rfl) Try.func5
    (ChangeSpec.witness6 (enc := enc) (C := Try.checked) false ⟨#[], #[.slice none 0 0, .agg #[.int .i64 0, .int .i64 0, .string ⟨#[]⟩]], []⟩ 8 (by kernel_rfl) (by kernel_rfl) (by kernel_rfl) (by kernel_rfl)) ?_
  intro W base args ds gs before hval0 hW _ _
  have hval : ∀ (j : Nat) t v, Try.f5.params[j]? = some t → args[j]? = some v → Value.okWide Try.prog W .any base t v := hval0
  have hW' := hW
  obtain ⟨p, q, hA0, hV, rfl, _, _⟩ := hW
  have hA : DataW.TrodAll enc Try.prog W 0 (fun _ => true) true Try.f5.params.toList args.toList ds p := hA0
  rw [Try.params5] at hA hval
  obtain ⟨v0, v1, d0, d1, p0, p1, rfl, rfl, rfl, h0, h1⟩ := trodAll_two hA
  obtain ⟨rfl, rfl⟩ := trodVars_none hV
  have hlt := fun x hx => hW'.lt x hx
  obtain ⟨a0, r0, b0⟩ := open_pcs (hval 0 _ v0 rfl rfl) h0 (fun x hx => by simpa using hlt x (by simp [hx]))
  obtain ⟨a1, rfl, w1, x1, z1⟩ := open_pc (hval 1 _ v1 rfl rfl) h1
  refine (walk v0 a0 a1 W r0).mono fun e W' ⟨he, hb⟩ => ⟨_, he, ?_⟩
  exact law_post Try.laidOut (by decide +kernel) rfl Try.underlying4 rfl hW' rfl hb

theorem holds : Rows.SpanOverSaid :=
  OpenClaim.holds_of_wide 5 Try.f5 rfl rfl rfl rfl rfl rfl rfl ⟨rfl, rfl, rfl, rfl, rfl⟩ rfl rfl rfl rfl rfl (by kernel_rfl) Try.func5 (by kernel_rfl)
    (of_decide_eq_true (by kernel_rfl)) (by unfold Func.isWrapper; first | (rw [if_pos (by decide +kernel)]; kernel_rfl) | (rw [if_neg (by decide +kernel)]; exact ⟨rfl, rfl⟩))
    (fun os started H enc _ => lifted os started H enc)
end Go.Proofs.Ytoikhgldffgelaa.L03
