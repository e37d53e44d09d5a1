/- Layer 6: a version read with what stands behind, by the project. -/
import Derived.Test.YtmchiebpijnpiaaRi
import Derived.Test.YtmchiebpijnpiaaBregk
namespace Go.Proofs.Ytmchiebpijnpiaa
open Go.RowKit
set_option linter.unusedVariables false

theorem results_cell_tmp2 {fn : Func} {p u q : Tmp} {ty : TypeId} (h : fn.results = #[.cell p ty, .tmp u, .tmp q]) (tmps : Array Value) (P : Program) (w : World) :
    (results fn tmps).run P w =
      ((asAddr (tmps.getD p undef)).run P w).andThen fun a w₁ => ((loadVar ty a).run P w₁).andThen fun v w₂ => .ok (.tuple #[v, tmps.getD u undef, tmps.getD q undef]) w₂ := by
  simp only [results, h]
  simp [Sem.run_bind, Result.andThen]

set_option maxHeartbeats 4000000 in
theorem row_read (v : Value) (l : List UInt8) (w : World) (h : RdB w w.heap.size v l) (hl : l.length ≤ 1000000) :
    Calls Try.prog 16 #[v] w fun r w' => ∃ v', r = .returned (.tuple #[verV (takeL l 0).1, v', .int .i64 (takeL l 0).2]) ∧ OwnB w' w.heap.size v' (if (takeL l 0).2 = 0 then (valL l 0).2.1 else []) ∧ Below w.heap.size w w' := by
  have R := Lib.hid (h.on (alloc_below w (.cells #[.string ⟨#[]⟩, .int .i64 0, .int .i64 0, .int .i64 0, .int .i64 0, .int .i64 0, .string ⟨#[]⟩, .bool false] 27)))
  have G := Lib.hid (alloc_below w (.cells #[.string ⟨#[]⟩, .int .i64 0, .int .i64 0, .int .i64 0, .int .i64 0, .int .i64 0, .string ⟨#[]⟩, .bool false] 27))
  have BZ := Lib.hid (Box.new w #[.string ⟨#[]⟩, .int .i64 0, .int .i64 0, .int .i64 0, .int .i64 0, .int .i64 0, .string ⟨#[]⟩, .bool false] 27 _ rfl)
  have VRD := Lib.hid (fun w h => vary_read v l w h (by omega))
  have NX := Lib.hid (fun w base g p h => row_next w base g p l 0 h hl)
  have TZ := Lib.hid (take_zero l 0)
  have SF := Lib.hid (val_suf l 0)
  have HV0 := Lib.hid h
  obtain ⟨A0, c0, rfl, -⟩ := h
  generalize takeL l 0 = tk at *
  generalize valL l 0 = vq at *
  obtain ⟨⟨k, b, e, s, ⟨x, y⟩, u, gg⟩, te⟩ := tk
  obtain ⟨vx, vl, ve⟩ := vq
  unfold verV at NX ⊢
  unfold zeroV at TZ
  simp only at NX TZ SF ⊢
  go_enter Try.func16, Try.ntmps16
  go_wp2_with fail
  generalize w.alloc (.cells #[.string ⟨#[]⟩, .int .i64 0, .int .i64 0, .int .i64 0, .int .i64 0, .int .i64 0, .string ⟨#[]⟩, .bool false] 27) = W0 at *
  refine (VRD.out _ R.out).mono ?_
  rintro z w1 ⟨p, g, rfl, hd, hb⟩
  have hz0 := BZ.out.lt
  have hgl := hd.lt
  have hgf := hd.from'
  have R := Lib.hid (R.out.on hb)
  have BZ := Lib.hid (BZ.out.later hb)
  have D := Lib.hid hd
  have G := Lib.hid (G.out.trans (hb.mono G.out.size))
  clear hd hb
  go_wp2_with fail
  refine (NX.out _ _ _ _ D.out).mono ?_
  rintro z w2 ⟨rfl, hd, hg⟩
  have hne : some w.heap.size ≠ some g := by intro e2; injection e2 with e2; omega
  have BZ := Lib.hid (BZ.out.keep hg hne)
  have R := Lib.hid (((HV0.out.below G.out).below ((Below.refl w.heap.size _).grown hg G.out.size (by intro k hk; injection hk with hk; omega))))
  have D := Lib.hid hd
  have G := Lib.hid (G.out.grown hg G.out.size (by intro k hk; injection hk with hk; omega))
  clear hd hg
  have hz2 := Lib.hid BZ.out.lt
  have BZ := Lib.hid (BZ.out.alloc (.cells #[.string k, .int .i64 b, .int .i64 e, .int .i64 s, .int .i64 x, .int .i64 y, .string u, .bool gg] 27))
  have BV := Lib.hid (Box.new w2 #[.string k, .int .i64 b, .int .i64 e, .int .i64 s, .int .i64 x, .int .i64 y, .string u, .bool gg] 27 _ rfl)
  have D := Lib.hid (D.out.on (alloc_below w2 (.cells #[.string k, .int .i64 b, .int .i64 e, .int .i64 s, .int .i64 x, .int .i64 y, .string u, .bool gg] 27)))
  have R := Lib.hid (R.out.below ((alloc_below w2 (.cells #[.string k, .int .i64 b, .int .i64 e, .int .i64 s, .int .i64 x, .int .i64 y, .string u, .bool gg] 27)).mono G.out.size))
  have G := Lib.hid (G.out.trans ((alloc_below w2 (.cells #[.string k, .int .i64 b, .int .i64 e, .int .i64 s, .int .i64 x, .int .i64 y, .string u, .bool gg] 27)).mono G.out.size))
  have hbv := BV.out.lt
  by_cases he : te = 0
  · subst he
    simp only []
    have NW := hz2
    have hle := SF.out.length_le
    have hwr : IntKind.i64.wrap ((l.length : Int) - (vl.length : Int)) = (l.length : Int) - (vl.length : Int) := by rw [IntKind.wrap_i64]; omega
    obtain ⟨A2, c2, hsl, hrd⟩ := sl_tail R.out (l.length - vl.length) ((l.length : Int) - (vl.length : Int)) (by omega) (by omega)
    rw [suf_drop SF.out, show l.length - (l.length - vl.length) = vl.length from by omega] at hrd
    rw [show l.length - (l.length - vl.length) = vl.length from by omega] at hsl
    have R2 := Lib.hid hrd
    clear hrd
    go_wp2_with fail
    have NWE := hz2
    generalize hwv : w2.alloc (.cells #[.string k, .int .i64 b, .int .i64 e, .int .i64 s, .int .i64 x, .int .i64 y, .string u, .bool gg] 27) = W3 at *
    have HI : (fun W => Below W3.heap.size W3 W) W3.drew := (Below.refl _ _).drewN 1
-- REGION A
    refine regk_start [9] (fun W => Below W3.heap.size W3 W) (by kernel_rfl) ?_
    refine regk_take 0 19 (v := ?_) (T' := ?_) HI (by kernel_rfl) (by kernel_rfl) (by kernel_rfl) (by kernel_rfl) (by kernel_rfl) (by kernel_rfl) (fun _ _ _ h => h) (fun o ho => ?_) ?_ ?_
    rotate_left 2
    · cases ho
      refine ⟨rfl, rfl, fun W hW => ?_⟩
      have BW := BV.out.later (show Below W3.heap.size W3 W from hW)
      have c0 := BW.cell 0 (.string k) rfl
      have c1 := BW.cell 1 (.int .i64 b) rfl
      have c2 := BW.cell 2 (.int .i64 e) rfl
      have c3 := BW.cell 3 (.int .i64 s) rfl
      have c4 := BW.cell 4 (.int .i64 x) rfl
      have c5 := BW.cell 5 (.int .i64 y) rfl
      have c6 := BW.cell 6 (.string u) rfl
      have c7 := BW.cell 7 (.bool gg) rfl
      go_simp; (try with_reducible rfl)
    · simp only [List.setIfInBounds_toArray, List.set_cons_succ, List.set_cons_zero]; exact rfl
    refine regk_free 1 20 (v := ?_) (T' := ?_) (fun _ => HI) (by kernel_rfl) (by kernel_rfl) (by kernel_rfl) (by kernel_rfl) (fun _ _ _ h => h) (fun o ho => ?_) ?_ ?_
    rotate_left 2
    · cases ho
      refine ⟨rfl, rfl, fun W => ?_⟩
      go_simp; (try with_reducible rfl)
    · simp only [List.setIfInBounds_toArray, List.set_cons_succ, List.set_cons_zero]; exact rfl
    refine regk_free 2 21 (v := ?_) (T' := ?_) (fun _ => HI) (by kernel_rfl) (by kernel_rfl) (by kernel_rfl) (by kernel_rfl) (fun _ _ _ h => h) (fun o ho => ?_) ?_ ?_
    rotate_left 2
    · cases ho
      refine ⟨rfl, rfl, fun W => ?_⟩
      go_simp; (try with_reducible rfl)
    · simp only [List.setIfInBounds_toArray, List.set_cons_succ, List.set_cons_zero]; exact rfl
    refine regk_free 3 22 (v := ?_) (T' := ?_) (fun _ => HI) (by kernel_rfl) (by kernel_rfl) (by kernel_rfl) (by kernel_rfl) (fun _ _ _ h => h) (fun o ho => ?_) ?_ ?_
    rotate_left 2
    · cases ho
      refine ⟨rfl, rfl, fun W => ?_⟩
      go_simp; (try with_reducible rfl)
    · simp only [List.setIfInBounds_toArray, List.set_cons_succ, List.set_cons_zero]; exact rfl
    refine regk_free 4 23 (v := ?_) (T' := ?_) (fun _ => HI) (by kernel_rfl) (by kernel_rfl) (by kernel_rfl) (by kernel_rfl) (fun _ _ _ h => h) (fun o ho => ?_) ?_ ?_
    rotate_left 2
    · cases ho
      refine ⟨rfl, rfl, fun W => ?_⟩
      go_simp; (try with_reducible rfl)
    · simp only [List.setIfInBounds_toArray, List.set_cons_succ, List.set_cons_zero]; exact rfl
    refine regk_call (I' := (fun W => Below W3.heap.size W3 W)) (fun _ h => h) 5 24 (by kernel_rfl) 39 #[p] (fun o ho => by cases ho; exact ⟨rfl, rfl, fun W => by go_simp⟩) ?_
    refine (rest_any _ _ _ _ _ _ (D.out.on (show Below W3.heap.size W3 _ from HI))).mono ?_
    rintro z y1 ⟨rfl, ey1⟩
    have HI0 := HI
    rw [ey1] at HI0 HI
    refine ⟨_, _, rfl, fun _ => HI, (by simp only [List.setIfInBounds_toArray, List.set_cons_succ, List.set_cons_zero]; exact rfl), ?_⟩
    refine regk_free 6 25 (v := ?_) (T' := ?_) (fun _ => HI) (by kernel_rfl) (by kernel_rfl) (by kernel_rfl) (by kernel_rfl) (fun _ _ _ h => h) (fun o ho => ?_) ?_ ?_
    rotate_left 2
    · cases ho
      refine ⟨rfl, rfl, fun W => ?_⟩
      go_simp; (try with_reducible rfl)
    · simp only [List.setIfInBounds_toArray, List.set_cons_succ, List.set_cons_zero]; exact rfl
    refine regk_free 7 26 (v := ?_) (T' := ?_) (fun _ => HI) (by kernel_rfl) (by kernel_rfl) (by kernel_rfl) (by kernel_rfl) (fun _ _ _ h => h) (fun o ho => ?_) ?_ ?_
    rotate_left 2
    · cases ho
      refine ⟨rfl, rfl, fun W => ?_⟩
      go_simp; (try with_reducible rfl)
    · simp only [List.setIfInBounds_toArray, List.set_cons_succ, List.set_cons_zero]; exact rfl
    refine regk_call (I' := (fun W => Below W3.heap.size W3 W)) (fun _ h => h) 8 27 (by kernel_rfl) 38 #[.slice A2 vl.length c2] (fun o ho => by cases ho; exact ⟨rfl, rfl, fun W => by go_simp⟩) ?_
    refine (clone_any _ vl _ ((R2.out.below ((show Below W3.heap.size W3 _ from HI).mono G.out.size)).more (Nat.le_trans G.out.size (show Below W3.heap.size W3 _ from HI).size)) (by omega)).mono ?_
    rintro z y2 ⟨v5, rfl, ho5, hb5⟩
    have HI : (fun W => Below W3.heap.size W3 W) y2 := (show Below W3.heap.size W3 _ from HI).trans (hb5.mono (show Below W3.heap.size W3 _ from HI).size)
    have HO := Lib.hid ho5
    have BZ := Lib.hid (BZ.out.later (show Below W3.heap.size W3 _ from HI))
    have G := Lib.hid (G.out.trans ((show Below W3.heap.size W3 _ from HI).mono G.out.size))
    obtain ⟨A5, c5, e5, -⟩ := own_cap ho5
    subst e5
    have HB := Lib.hid (show w.heap.size ≤ y1.heap.size from Nat.le_trans (Nat.le_trans (Nat.le_of_lt NW.out) (show w2.heap.size ≤ W3.heap.size from by rw [← hwv]; simp)) (show Below W3.heap.size W3 _ from HI0).size)
    have OB := Lib.hid (show (Value.slice A5 vl.length c5).ownBlock = none ∨ (Value.slice A5 vl.length c5).ownBlock ≠ some w.heap.size from .inr (fun e => by
      have h1 := OwnB.base ho5 _ e
      have h2 := (show Below W3.heap.size W3 _ from HI0).size
      have h3 : w2.heap.size < W3.heap.size := by rw [← hwv]; simp
      have h4 := NW.out
      omega))
    have GG := Lib.hid ((((((((grown_set (g := w.heap.size) y2 0 (.string k)).trans (grown_set (g := w.heap.size) _ 1 (.int .i64 b))).trans (grown_set (g := w.heap.size) _ 2 (.int .i64 e))).trans (grown_set (g := w.heap.size) _ 3 (.int .i64 s))).trans (grown_set (g := w.heap.size) _ 4 (.int .i64 x))).trans (grown_set (g := w.heap.size) _ 5 (.int .i64 y))).trans (grown_set (g := w.heap.size) _ 6 (.string u))).trans (grown_set (g := w.heap.size) _ 7 (.bool gg)))
    have z0 := BZ.out.cell 0 (.string ⟨#[]⟩) rfl
    have f0 := BZ.out.frozen 0
    have z1 := BZ.out.cell 1 (.int .i64 0) rfl
    have f1 := BZ.out.frozen 1
    have z2 := BZ.out.cell 2 (.int .i64 0) rfl
    have f2 := BZ.out.frozen 2
    have z3 := BZ.out.cell 3 (.int .i64 0) rfl
    have f3 := BZ.out.frozen 3
    have z4 := BZ.out.cell 4 (.int .i64 0) rfl
    have f4 := BZ.out.frozen 4
    have z5 := BZ.out.cell 5 (.int .i64 0) rfl
    have f5 := BZ.out.frozen 5
    have z6 := BZ.out.cell 6 (.string ⟨#[]⟩) rfl
    have f6 := BZ.out.frozen 6
    have z7 := BZ.out.cell 7 (.bool false) rfl
    have f7 := BZ.out.frozen 7
    have GZ := Lib.hid (G.out.trans ((((((((((Below.refl w.heap.size y2).setCell (p := ⟨w.heap.size, 0, none⟩) (Nat.le_refl _) (.string k)).setCell (p := ⟨w.heap.size, 1, none⟩) (Nat.le_refl _) (.int .i64 b)).setCell (p := ⟨w.heap.size, 2, none⟩) (Nat.le_refl _) (.int .i64 e)).setCell (p := ⟨w.heap.size, 3, none⟩) (Nat.le_refl _) (.int .i64 s)).setCell (p := ⟨w.heap.size, 4, none⟩) (Nat.le_refl _) (.int .i64 x)).setCell (p := ⟨w.heap.size, 5, none⟩) (Nat.le_refl _) (.int .i64 y)).setCell (p := ⟨w.heap.size, 6, none⟩) (Nat.le_refl _) (.string u)).setCell (p := ⟨w.heap.size, 7, none⟩) (Nat.le_refl _) (.bool gg)).mono (Nat.le_refl _)))
    refine ⟨_, _, rfl, fun _ => HI, (by simp only [List.setIfInBounds_toArray, List.set_cons_succ, List.set_cons_zero]; exact rfl), ?_⟩
    clear ho5 hb5
    refine regk_store (I' := (fun W => Below W3.heap.size W3 W)) (fun _ h => h) 9 (w' := ((((((((y2.setCell ⟨w.heap.size, 0, none⟩ (.string k)).setCell ⟨w.heap.size, 1, none⟩ (.int .i64 b)).setCell ⟨w.heap.size, 2, none⟩ (.int .i64 e)).setCell ⟨w.heap.size, 3, none⟩ (.int .i64 s)).setCell ⟨w.heap.size, 4, none⟩ (.int .i64 x)).setCell ⟨w.heap.size, 5, none⟩ (.int .i64 y)).setCell ⟨w.heap.size, 6, none⟩ (.string u)).setCell ⟨w.heap.size, 7, none⟩ (.bool gg))) (by kernel_rfl) (fun o ho => ?_) (noB_no (by kernel_rfl)) ?_
    · cases ho
      refine ⟨rfl, rfl, ?_⟩
      go_simp; (try with_reducible rfl)
    refine regk_free 10 3 (v := ?_) (T' := ?_) (noB_no (by kernel_rfl)) (by kernel_rfl) (by kernel_rfl) (by kernel_rfl) (by kernel_rfl) (fun _ _ _ h => h) (fun o ho => ?_) ?_ ?_
    rotate_left 2
    · cases ho
      refine ⟨rfl, rfl, fun W => ?_⟩
      go_simp; (try with_reducible rfl)
    · simp only [List.setIfInBounds_toArray, List.set_cons_succ, List.set_cons_zero]; exact rfl
    refine regk_free 11 4 (v := ?_) (T' := ?_) (noB_no (by kernel_rfl)) (by kernel_rfl) (by kernel_rfl) (by kernel_rfl) (by kernel_rfl) (fun _ _ _ h => h) (fun o ho => ?_) ?_ ?_
    rotate_left 2
    · cases ho
      refine ⟨rfl, rfl, fun W => ?_⟩
      go_simp; (try with_reducible rfl)
    · simp only [List.setIfInBounds_toArray, List.set_cons_succ, List.set_cons_zero]; exact rfl
    refine regk_done (by kernel_rfl) ?_
-- DONE A
    go_wp2_with fail
    refine bodyPost_ret (v := .tuple #[.agg #[.string k, .int .i64 b, .int .i64 e, .int .i64 s, .int .i64 x, .int .i64 y, .string u, .bool gg], .slice A5 vl.length c5, .int .i64 0]) ?_ rfl ⟨_, rfl, ?_, ?_⟩
    · rw [results_cell_tmp2 rfl]
      go_simp
    · exact ownB_mono (OwnB.keep HO.out GG.out OB.out) HB.out
    · exact GZ.out
  · have hnz : (te != 0) = true := by simpa [bne] using he
    have tz := TZ.out he
    injection tz with t1 t2 t3 t4 t5 t6 t7
    injection t5 with t5 t8
    subst t1 t2 t3 t4 t5 t6 t7 t8
    have HZ := Lib.hid ((((((((((Below.refl w.heap.size (w2.alloc (.cells #[.string ⟨#[]⟩, .int .i64 0, .int .i64 0, .int .i64 0, .int .i64 0, .int .i64 0, .string ⟨#[]⟩, .bool false] 27))).setCell (p := ⟨w.heap.size, 0, none⟩) (Nat.le_refl _) (.string ⟨#[]⟩)).setCell (p := ⟨w.heap.size, 1, none⟩) (Nat.le_refl _) (.int .i64 0)).setCell (p := ⟨w.heap.size, 2, none⟩) (Nat.le_refl _) (.int .i64 0)).setCell (p := ⟨w.heap.size, 3, none⟩) (Nat.le_refl _) (.int .i64 0)).setCell (p := ⟨w.heap.size, 4, none⟩) (Nat.le_refl _) (.int .i64 0)).setCell (p := ⟨w.heap.size, 5, none⟩) (Nat.le_refl _) (.int .i64 0)).setCell (p := ⟨w.heap.size, 6, none⟩) (Nat.le_refl _) (.string ⟨#[]⟩)).setCell (p := ⟨w.heap.size, 7, none⟩) (Nat.le_refl _) (.bool false)))
    have z0 := BZ.out.cell 0 (.string ⟨#[]⟩) rfl
    have f0 := BZ.out.frozen 0
    have z1 := BZ.out.cell 1 (.int .i64 0) rfl
    have f1 := BZ.out.frozen 1
    have z2 := BZ.out.cell 2 (.int .i64 0) rfl
    have f2 := BZ.out.frozen 2
    have z3 := BZ.out.cell 3 (.int .i64 0) rfl
    have f3 := BZ.out.frozen 3
    have z4 := BZ.out.cell 4 (.int .i64 0) rfl
    have f4 := BZ.out.frozen 4
    have z5 := BZ.out.cell 5 (.int .i64 0) rfl
    have f5 := BZ.out.frozen 5
    have z6 := BZ.out.cell 6 (.string ⟨#[]⟩) rfl
    have f6 := BZ.out.frozen 6
    have z7 := BZ.out.cell 7 (.bool false) rfl
    have f7 := BZ.out.frozen 7
    go_wp2_with fail
    refine bodyPost_ret (v := .tuple #[.agg #[.string ⟨#[]⟩, .int .i64 0, .int .i64 0, .int .i64 0, .int .i64 0, .int .i64 0, .string ⟨#[]⟩, .bool false], .slice none 0 0, .int .i64 te]) ?_ rfl ⟨_, rfl, OwnB.nil _ _, G.out.trans (HZ.out.mono (Nat.le_refl _))⟩
    rw [results_cell_tmp2 rfl]
    go_simp
end Go.Proofs.Ytmchiebpijnpiaa
