/- Layer 4: pieces without a span, by the document's answer. -/
import Derived.Test.YtoikhgldffgelaaSf
namespace Go.Proofs.Ytoikhgldffgelaa
open Go.RowKit
set_option linter.unusedVariables false

def cutF (s : Sp) (p : Pc) : List Pc := (minusF p.1 s).map fun m => (m, p.2)
theorem without_pos {l : List Pc} {s : Sp} (h : mayB s = true) : withoutF l s = l.flatMap (cutF s) := if_pos h
theorem without_neg {l : List Pc} {s : Sp} (h : mayB s = false) : withoutF l s = l := if_neg (by simp [h])
theorem flat_snoc (l : List Pc) (s : Sp) (k : Nat) (h : k < l.length) : (l.take (k + 1)).flatMap (cutF s) = (l.take k).flatMap (cutF s) ++ cutF s l[k] := by
  rw [List.take_succ_eq_append_getElem h, List.flatMap_append]; simp
theorem cut_len (l : List Pc) (s : Sp) : (l.flatMap (cutF s)).length ≤ 2 * l.length := by
  induction l with
  | nil => simp
  | cons p l ih =>
    rw [List.flatMap_cons, List.length_append, List.length_cons]
    have : (cutF s p).length ≤ 2 := by unfold cutF; rw [List.length_map]; exact minus_len _ _
    omega

set_option maxHeartbeats 4000000 in
theorem ref_without (v : Value) (l : List Pc) (s : Sp) (w : World) (h : RdPc w w.heap.size v l) (hl : l.length ≤ 100000) :
    Calls Try.prog 26 #[v, spV s] w fun e w' => ∃ v', e = .returned v' ∧ RdPc w' w'.heap.size v' (withoutF l s) ∧ Below w.heap.size w w' := by
  have H := Lib.hid h
  obtain ⟨A, c, rfl, hlc, hc, -⟩ := h
  obtain ⟨s1, s2⟩ := s
  have M1 := Lib.hid (ref_may (s1, s2))
  have B0 := Lib.hid (Box.new w #[.int .i64 s1, .int .i64 s2] 23 _ rfl)
  have G := Lib.hid (alloc_below w (.cells #[.int .i64 s1, .int .i64 s2] 23))
  have hsp : spV (s1, s2) = .agg #[.int .i64 s1, .int .i64 s2] := rfl
  unfold spV at M1
  rw [hsp]
  clear hsp
  go_enter Try.func26, Try.ntmps26
  go_wp2_with fail
  generalize w.alloc (.cells #[.int .i64 s1, .int .i64 s2] 23) = W0 at *
  refine (M1.out _).mono ?_
  rintro e w1 ⟨rfl, hb1⟩
  have B0 := Lib.hid (B0.out.later hb1)
  have G := Lib.hid (G.out.trans (hb1.mono G.out.size))
  clear hb1
  cases hm : mayB (s1, s2)
  · have HW := Lib.hid (show RdPc w1 w1.heap.size (.slice A l.length c) (withoutF l (s1, s2)) from by rw [without_neg hm]; exact H.out.on G.out)
    clear hm
    go_wp2_with fail
    go_ret
    exact ⟨_, rfl, HW.out, G.out⟩
  · have HW := Lib.hid (without_pos (l := l) hm)
    clear hm
    go_wp2_with fail
    go_loopw [5, 7] (fun x i wr => ∃ k : Nat, i = .int .i64 k ∧ k ≤ l.length ∧ OwnPc wr w1.heap.size x ((l.take k).flatMap (cutF (s1, s2))) ∧ Below w1.heap.size w1 wr) (fun _ i _ => l.length - (intOf i).toNat)
    case atStart => exact ⟨0, rfl, by omega, by simpa using OwnX.nil _ _, Below.refl _ _⟩
    case round =>
      obtain ⟨k, rfl, hk, ho, hb⟩ := hrel
      have O := Lib.hid ho
      have GW := Lib.hid hb
      have B0w := Lib.hid (B0.out.later hb)
      clear ho hb
      by_cases hlt : k < l.length
      · obtain ⟨ba, oa, rfl, hba, c0, c1, c2⟩ := RdPc.here (H.out.below (G.out.trans (GW.out.mono G.out.size))) k hlt
        have hba2 : ba < wr.heap.size := by have := GW.out.size; have := G.out.size; omega
        have hbs := B0w.out.lt
        have cs0 := B0w.out.cell 0 (.int .i64 s1) rfl
        have cs1 := B0w.out.cell 1 (.int .i64 s2) rfl
        have FS := Lib.hid (flat_snoc l (s1, s2) k hlt)
        have hcl := cut_len (l.take k) (s1, s2)
        have hcl2 : (l.take k).length ≤ k := List.length_take_le _ _
        have HCL := Lib.hid (show ((l.take k).flatMap (cutF (s1, s2))).length ≤ 200000 from by omega)
        clear hcl hcl2
        generalize (l.take k).flatMap (cutF (s1, s2)) = acc at *
        generalize l[k] = p at *
        obtain ⟨⟨p1, p2⟩, p3⟩ := p
        have hcut := Lib.hid (show cutF (s1, s2) ((p1, p2), p3) = (minusF (p1, p2) (s1, s2)).map (fun m => (m, p3)) from rfl)
        have hml := minus_len (p1, p2) (s1, s2)
        go_wp2_with fail
        have HI : (fun W => Below wr.heap.size wr.drew W) wr.drew := Below.refl _ _
-- REGION A
        refine regk_start [] (fun W => Below wr.heap.size wr.drew W) (by kernel_rfl) ?_
        refine regk_free 0 21 (v := ?_) (T' := ?_) (fun _ => HI) (by kernel_rfl) (by kernel_rfl) (by kernel_rfl) (by kernel_rfl) (fun _ _ _ h => h) (fun o ho => ?_) ?_ ?_
        rotate_left 2
        · cases ho
          refine ⟨rfl, rfl, fun W => ?_⟩
          go_simp; (try with_reducible rfl)
        · simp only [List.setIfInBounds_toArray, List.set_cons_succ, List.set_cons_zero]; exact rfl
        refine regk_free 1 22 (v := ?_) (T' := ?_) (fun _ => HI) (by kernel_rfl) (by kernel_rfl) (by kernel_rfl) (by kernel_rfl) (fun _ _ _ h => h) (fun o ho => ?_) ?_ ?_
        rotate_left 2
        · cases ho
          refine ⟨rfl, rfl, fun W => ?_⟩
          go_simp; (try with_reducible rfl)
        · simp only [List.setIfInBounds_toArray, List.set_cons_succ, List.set_cons_zero]; exact rfl
        refine regk_free 2 23 (v := ?_) (T' := ?_) (fun _ => HI) (by kernel_rfl) (by kernel_rfl) (by kernel_rfl) (by kernel_rfl) (fun _ _ _ h => h) (fun o ho => ?_) ?_ ?_
        rotate_left 2
        · cases ho
          refine ⟨rfl, rfl, fun W => ?_⟩
          go_simp; (try with_reducible rfl)
        · simp only [List.setIfInBounds_toArray, List.set_cons_succ, List.set_cons_zero]; exact rfl
        refine regk_free 3 24 (v := ?_) (T' := ?_) (fun _ => HI) (by kernel_rfl) (by kernel_rfl) (by kernel_rfl) (by kernel_rfl) (fun _ _ _ h => h) (fun o ho => ?_) ?_ ?_
        rotate_left 2
        · cases ho
          refine ⟨rfl, rfl, fun W => ?_⟩
          go_simp; (try with_reducible rfl)
        · simp only [List.setIfInBounds_toArray, List.set_cons_succ, List.set_cons_zero]; exact rfl
        refine regk_take 4 25 (v := ?_) (T' := ?_) HI (by kernel_rfl) (by kernel_rfl) (by kernel_rfl) (by kernel_rfl) (by kernel_rfl) (by kernel_rfl) (fun _ _ _ h => h) (fun o ho => ?_) ?_ ?_
        rotate_left 2
        · cases ho
          refine ⟨rfl, rfl, fun W hW => ?_⟩
          have hV0 := (Below.cell (p := ⟨ba, oa + k * 3, none⟩) (show Below wr.heap.size wr.drew W from hW) hba2).trans (show wr.drew.cell? _ = _ from c0)
          have hV1 := (Below.cell (p := ⟨ba, oa + k * 3 + 1, none⟩) (show Below wr.heap.size wr.drew W from hW) hba2).trans (show wr.drew.cell? _ = _ from c1)
          go_simp; (try with_reducible rfl)
        · simp only [List.setIfInBounds_toArray, List.set_cons_succ, List.set_cons_zero]; exact rfl
        refine regk_take 5 26 (v := ?_) (T' := ?_) HI (by kernel_rfl) (by kernel_rfl) (by kernel_rfl) (by kernel_rfl) (by kernel_rfl) (by kernel_rfl) (fun _ _ _ h => h) (fun o ho => ?_) ?_ ?_
        rotate_left 2
        · cases ho
          refine ⟨rfl, rfl, fun W hW => ?_⟩
          have hV0 := (Below.cell (p := ⟨w.heap.size, 0, none⟩) (show Below wr.heap.size wr.drew W from hW) hbs).trans (show wr.drew.cell? _ = _ from cs0)
          have hV1 := (Below.cell (p := ⟨w.heap.size, 1, none⟩) (show Below wr.heap.size wr.drew W from hW) hbs).trans (show wr.drew.cell? _ = _ from cs1)
          go_simp; (try with_reducible rfl)
        · simp only [List.setIfInBounds_toArray, List.set_cons_succ, List.set_cons_zero]; exact rfl
        refine regk_call (I' := (fun W => Below wr.heap.size wr.drew W)) (fun _ h => h) 6 27 (by kernel_rfl) 14 #[.agg #[.int .i64 p1, .int .i64 p2], .agg #[.int .i64 s1, .int .i64 s2]] (fun o ho => by cases ho; exact ⟨rfl, rfl, fun W => by go_simp⟩) ?_
        refine (ref_minus (p1, p2) (s1, s2) _).mono ?_
        rintro e x1 ⟨vm, rfl, hm1, hb1⟩
        have HI : (fun W => Below wr.heap.size wr.drew W) x1 := hb1
        refine ⟨_, _, rfl, fun _ => HI, (by simp only [List.setIfInBounds_toArray, List.set_cons_succ, List.set_cons_zero]; exact rfl), ?_⟩
        refine regk_free 7 8 (v := ?_) (T' := ?_) (fun _ => HI) (by kernel_rfl) (by kernel_rfl) (by kernel_rfl) (by kernel_rfl) (fun _ _ _ h => h) (fun o ho => ?_) ?_ ?_
        rotate_left 2
        · cases ho
          refine ⟨rfl, rfl, fun W => ?_⟩
          go_simp; (try with_reducible rfl)
        · simp only [List.setIfInBounds_toArray, List.set_cons_succ, List.set_cons_zero]; exact rfl
        refine regk_done (by kernel_rfl) ?_
-- DONE A
        have hbx := (GW.out.drewN 1).trans (hb1.mono GW.out.size)
        have c2 := (hb1.cell (p := ⟨ba, oa + k * 3 + 2, none⟩) hba2).trans (show wr.drew.cell? _ = _ from c2)
        have O1 := Lib.hid (OwnX.on (show OwnPc wr.drew _ _ _ from O.out) hb1)
        have GX := Lib.hid hbx
        have OM := Lib.hid (hm1.mono (show w1.heap.size ≤ wr.drew.heap.size from GW.out.size))
        have hba3 : ba < w1.heap.size := by have := G.out.size; omega
        clear hb1 HI hm1 hbx c0 c1 cs0 cs1
        generalize minusF (p1, p2) (s1, s2) = ms at *
        obtain ⟨Am, cm, rfl, -⟩ := OM.out.rd
        go_wp2_with fail
        go_loopw [5, 9] (fun x j wt => ∃ i : Nat, j = .int .i64 i ∧ i ≤ ms.length ∧ OwnPc wt w1.heap.size x (acc ++ (ms.take i).map (fun m => (m, p3))) ∧ OwnSp wt w1.heap.size (.slice Am ms.length cm) ms ∧ Below w1.heap.size w1 wt) (fun _ j _ => ms.length - (intOf j).toNat)
        case atStart => exact ⟨0, rfl, by omega, by simpa using O1.out, OM.out, GX.out⟩
        case round =>
          obtain ⟨i, rfl, hi, ho, hm2, hb2⟩ := hrel
          obtain ⟨ws, rfl⟩ : ∃ ws : World, ws = wr := ⟨_, rfl⟩
          have OP := Lib.hid ho
          have OM := Lib.hid hm2
          have GS := Lib.hid hb2
          clear ho hm2 O1
          by_cases hli : i < ms.length
          · obtain ⟨bm, om, rfl, hbm, d0, d1⟩ := RdSp.here OM.out.rd i hli
            have c2 := (hb2.cell (p := ⟨ba, oa + k * 3 + 2, none⟩) hba3).trans ((GX.out.cell (p := ⟨ba, oa + k * 3 + 2, none⟩) hba3).symm.trans c2)
            have MS := Lib.hid (show ((ms.take (i + 1)).map (fun m => (m, p3)) : List Pc) = (ms.take i).map (fun m => (m, p3)) ++ [(ms[i], p3)] from by
              rw [List.take_succ_eq_append_getElem hli, List.map_append]; rfl)
            have hol : (acc ++ (ms.take i).map (fun m => (m, p3))).length + 1 ≤ 1000000000 := by
              have := HCL.out
              rw [List.length_append, List.length_map, List.length_take]; omega
            generalize ((ms.take i).map (fun m => (m, p3)) : List Pc) = part at *
            generalize ms[i] = m at *
            obtain ⟨m1, m2⟩ := m
            go_wp2_with fail
            have HI : (fun W => W = ws.drew) ws.drew := rfl
-- REGION B
            refine regk_start [11, 12] (fun W => W = ws.drew) (by kernel_rfl) ?_
            refine regk_free 0 34 (v := ?_) (T' := ?_) (fun _ => HI) (by kernel_rfl) (by kernel_rfl) (by kernel_rfl) (by kernel_rfl) (fun _ _ _ h => h) (fun o ho => ?_) ?_ ?_
            rotate_left 2
            · cases ho
              refine ⟨rfl, rfl, fun W => ?_⟩
              go_simp; (try with_reducible rfl)
            · simp only [List.setIfInBounds_toArray, List.set_cons_succ, List.set_cons_zero]; exact rfl
            refine regk_free 1 35 (v := ?_) (T' := ?_) (fun _ => HI) (by kernel_rfl) (by kernel_rfl) (by kernel_rfl) (by kernel_rfl) (fun _ _ _ h => h) (fun o ho => ?_) ?_ ?_
            rotate_left 2
            · cases ho
              refine ⟨rfl, rfl, fun W => ?_⟩
              go_simp; (try with_reducible rfl)
            · simp only [List.setIfInBounds_toArray, List.set_cons_succ, List.set_cons_zero]; exact rfl
            refine regk_free 2 36 (v := ?_) (T' := ?_) (fun _ => HI) (by kernel_rfl) (by kernel_rfl) (by kernel_rfl) (by kernel_rfl) (fun _ _ _ h => h) (fun o ho => ?_) ?_ ?_
            rotate_left 2
            · cases ho
              refine ⟨rfl, rfl, fun W => ?_⟩
              go_simp; (try with_reducible rfl)
            · simp only [List.setIfInBounds_toArray, List.set_cons_succ, List.set_cons_zero]; exact rfl
            refine regk_free 3 37 (v := ?_) (T' := ?_) (fun _ => HI) (by kernel_rfl) (by kernel_rfl) (by kernel_rfl) (by kernel_rfl) (fun _ _ _ h => h) (fun o ho => ?_) ?_ ?_
            rotate_left 2
            · cases ho
              refine ⟨rfl, rfl, fun W => ?_⟩
              go_simp; (try with_reducible rfl)
            · simp only [List.setIfInBounds_toArray, List.set_cons_succ, List.set_cons_zero]; exact rfl
            refine regk_take 4 38 (v := ?_) (T' := ?_) HI (by kernel_rfl) (by kernel_rfl) (by kernel_rfl) (by kernel_rfl) (by kernel_rfl) (by kernel_rfl) (fun _ _ _ h => h) (fun o ho => ?_) ?_ ?_
            rotate_left 2
            · cases ho
              refine ⟨rfl, rfl, fun W hW => ?_⟩
              have hW := (show W = _ from hW); subst hW; go_simp; (try with_reducible rfl)
            · simp only [List.setIfInBounds_toArray, List.set_cons_succ, List.set_cons_zero]; exact rfl
            refine regk_free 5 39 (v := ?_) (T' := ?_) (fun _ => HI) (by kernel_rfl) (by kernel_rfl) (by kernel_rfl) (by kernel_rfl) (fun _ _ _ h => h) (fun o ho => ?_) ?_ ?_
            rotate_left 2
            · cases ho
              refine ⟨rfl, rfl, fun W => ?_⟩
              go_simp; (try with_reducible rfl)
            · simp only [List.setIfInBounds_toArray, List.set_cons_succ, List.set_cons_zero]; exact rfl
            refine regk_free 6 40 (v := ?_) (T' := ?_) (fun _ => HI) (by kernel_rfl) (by kernel_rfl) (by kernel_rfl) (by kernel_rfl) (fun _ _ _ h => h) (fun o ho => ?_) ?_ ?_
            rotate_left 2
            · cases ho
              refine ⟨rfl, rfl, fun W => ?_⟩
              go_simp; (try with_reducible rfl)
            · simp only [List.setIfInBounds_toArray, List.set_cons_succ, List.set_cons_zero]; exact rfl
            refine regk_free 7 41 (v := ?_) (T' := ?_) (fun _ => HI) (by kernel_rfl) (by kernel_rfl) (by kernel_rfl) (by kernel_rfl) (fun _ _ _ h => h) (fun o ho => ?_) ?_ ?_
            rotate_left 2
            · cases ho
              refine ⟨rfl, rfl, fun W => ?_⟩
              go_simp; (try with_reducible rfl)
            · simp only [List.setIfInBounds_toArray, List.set_cons_succ, List.set_cons_zero]; exact rfl
            refine regk_free 8 42 (v := ?_) (T' := ?_) (fun _ => HI) (by kernel_rfl) (by kernel_rfl) (by kernel_rfl) (by kernel_rfl) (fun _ _ _ h => h) (fun o ho => ?_) ?_ ?_
            rotate_left 2
            · cases ho
              refine ⟨rfl, rfl, fun W => ?_⟩
              go_simp; (try with_reducible rfl)
            · simp only [List.setIfInBounds_toArray, List.set_cons_succ, List.set_cons_zero]; exact rfl
            refine regk_take 9 43 (v := ?_) (T' := ?_) HI (by kernel_rfl) (by kernel_rfl) (by kernel_rfl) (by kernel_rfl) (by kernel_rfl) (by kernel_rfl) (fun _ _ _ h => h) (fun o ho => ?_) ?_ ?_
            rotate_left 2
            · cases ho
              refine ⟨rfl, rfl, fun W hW => ?_⟩
              have hW := (show W = _ from hW); subst hW; go_simp; (try with_reducible rfl)
            · simp only [List.setIfInBounds_toArray, List.set_cons_succ, List.set_cons_zero]; exact rfl
            refine regk_free 10 44 (v := ?_) (T' := ?_) (fun _ => HI) (by kernel_rfl) (by kernel_rfl) (by kernel_rfl) (by kernel_rfl) (fun _ _ _ h => h) (fun o ho => ?_) ?_ ?_
            rotate_left 2
            · cases ho
              refine ⟨rfl, rfl, fun W => ?_⟩
              go_simp; (try with_reducible rfl)
            · simp only [List.setIfInBounds_toArray, List.set_cons_succ, List.set_cons_zero]; exact rfl
            refine regk_make (I' := (fun W => W = ws.drew)) (fun _ h => h) 11 45 (v := .slice (some ⟨ws.heap.size, 0, none⟩) 1 1) (w' := ws.drew.alloc (.cells #[.int .i64 m1, .int .i64 m2, .string p3] 34)) (T' := ?_) (by kernel_rfl) (fun o ho => ?_) (noB_no (by kernel_rfl)) ?_ ?_
            rotate_left
            · cases ho
              refine ⟨rfl, rfl, ?_⟩
              go_simp
            · simp only [List.setIfInBounds_toArray, List.set_cons_succ, List.set_cons_zero]; exact rfl
            obtain ⟨v7, w7, hrun, ho7, hg7, hb7⟩ := appX_run (P := Try.prog) (L := pcL) (W := ws.drew.alloc (.cells #[.int .i64 m1, .int .i64 m2, .string p3] 34)) (g := ws.heap.size) (c := 1) (m := 1) (ty := 32) (r := [((m1, m2), p3)]) Try.underlying32 pc_info rfl ((show OwnPc ws.drew _ _ _ from OP.out).on (alloc_below _ _)) (heap_alloc_new ws.drew _) rfl (by have := GS.out.size; simp; omega) hol (by decide)
            refine regk_make (I' := (fun W => W = ws.drew)) (fun _ h => h) 12 46 (v := v7) (w' := w7) (T' := ?_) (by kernel_rfl) (fun o ho => ?_) (noB_no (by kernel_rfl)) ?_ ?_
            rotate_left
            · cases ho
              exact ⟨rfl, rfl, exec_appK (.tmp 34) (.tmp 45) rfl rfl rfl hrun⟩
            · simp only [List.setIfInBounds_toArray, List.set_cons_succ, List.set_cons_zero]; exact rfl
            refine regk_free 13 5 (v := ?_) (T' := ?_) (noB_no (by kernel_rfl)) (by kernel_rfl) (by kernel_rfl) (by kernel_rfl) (by kernel_rfl) (fun _ _ _ h => h) (fun o ho => ?_) ?_ ?_
            rotate_left 2
            · cases ho
              refine ⟨rfl, rfl, fun W => ?_⟩
              go_simp; (try with_reducible rfl)
            · simp only [List.setIfInBounds_toArray, List.set_cons_succ, List.set_cons_zero]; exact rfl
            refine regk_done (by kernel_rfl) ?_
-- DONE B
            have hz := ((show Below ws.heap.size ws ws.drew from (Below.refl _ _).drewN 1).trans (alloc_below ws.drew (.cells #[.int .i64 m1, .int .i64 m2, .string p3] 34)))
            have hz2 := (hz.mono GS.out.size).trans hb7
            have hrel2 := Lib.hid (show ∃ i' : Nat, Value.int .i64 ((i : Int) + 1) = .int .i64 i' ∧ i' ≤ ms.length ∧ OwnPc w7 w1.heap.size v7 (acc ++ (ms.take i').map (fun m => (m, p3))) ∧ OwnSp w7 w1.heap.size (.slice (some ⟨bm, om, none⟩) ms.length cm) ms ∧ Below w1.heap.size w1 w7 from
              ⟨i + 1, by go_num, by omega, by rw [MS.out, ← List.append_assoc]; exact ho7, (OM.out.on hz).beside ((show OwnPc ws.drew _ _ _ from OP.out).on (alloc_below _ _)) (by decide) hg7, GS.out.trans hz2⟩)
            clear hz hz2 hrun ho7 hg7 hb7 HI
            go_wp2_with fail
            go_roundw
            case rel => exact hrel2.out
            case measure => simp [intOf]; omega
          · have hmi : ms.take i = ms := List.take_of_length_le (by omega)
            have OP := Lib.hid (show OwnPc ws w1.heap.size u5 ((l.take (k + 1)).flatMap (cutF (s1, s2))) from by
              have := OP.out
              rw [hmi] at this
              rw [FS.out, hcut.out]
              exact this)
            clear hmi
            go_wp2_with fail
            go_roundw
            case rel => exact ⟨k + 1, by go_num, by omega, OP.out, GS.out⟩
            case measure => simp [intOf]; omega
      · have hke : l.take k = l := List.take_of_length_le (by omega)
        have O1 := Lib.hid (show RdPc wr wr.heap.size u5 (withoutF l (s1, s2)) from by
          have := O.out.rd
          rw [hke, ← HW.out] at this
          exact this)
        have G1 := Lib.hid (G.out.trans (GW.out.mono G.out.size))
        clear hke
        go_wp2_with fail
        go_ret
        exact ⟨_, rfl, O1.out, G1.out⟩
end Go.Proofs.Ytoikhgldffgelaa
