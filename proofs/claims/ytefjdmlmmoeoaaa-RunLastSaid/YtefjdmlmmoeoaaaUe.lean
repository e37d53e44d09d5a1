/- Layer 8: a version read, behind another one, by the project. -/
import Derived.Test.YtefjdmlmmoeoaaaTg
import Derived.Test.YtefjdmlmmoeoaaaRR
import Derived.Test.YtefjdmlmmoeoaaaBE
namespace Go.Proofs.Ytefjdmlmmoeoaaa
open Go.RowKit
set_option linter.unusedVariables false

/-- What next tells, and where the reader is then. -/
def nxR (l : List UInt8) (e : Int) : List UInt8 × List UInt8 × Int := stepT l e 200
def nxT (l : List UInt8) (e : Int) : List UInt8 × List UInt8 × Int := stepT (sN (nxR l e).2.1 (nxR l e).2.2 6).1 (sN (nxR l e).2.1 (nxR l e).2.2 6).2 200
def nxV (l : List UInt8) (e : Int) : Ver := ⟨⟨(nxR l e).1.toArray⟩, nN (nxR l e).2.1 (nxR l e).2.2 0, nN (nxR l e).2.1 (nxR l e).2.2 1, nN (nxR l e).2.1 (nxR l e).2.2 2, (nN (nxR l e).2.1 (nxR l e).2.2 3, nN (nxR l e).2.1 (nxR l e).2.2 3 + nN (nxR l e).2.1 (nxR l e).2.2 4), ⟨(nxT l e).1.toArray⟩, (nN (nxR l e).2.1 (nxR l e).2.2 5 == 1)⟩

set_option maxHeartbeats 8000000 in
set_option maxRecDepth 100000 in
theorem blk_next (w : World) (base g : Nat) (p : Value) (l : List UInt8) (e : Int) (h : RdR w base g p l e) (hl : l.length ≤ 1000000) :
    Calls Try.prog 96 #[p] w fun x w' => x = .returned (verV (nxV l e)) ∧ RdR w' base g p (nxT l e).2.1 (nxT l e).2.2 ∧ w.grownBy w' (some g) := by
  have hrl : (nxR l e).2.1.length ≤ l.length := (text_suf l e 200).length_le
  have KT := Lib.hid (show ∀ w, RdR w base g p l e → Calls Try.prog 107 #[p, .int .i64 200] w (fun x w' => x = .returned (.string ⟨(nxR l e).1.toArray⟩) ∧ RdR w' base g p (nxR l e).2.1 (nxR l e).2.2 ∧ w.grownBy w' (some g)) from fun w h => text_any w base g p _ _ 200 h (by omega) (by omega))
  have hsl : (sN (nxR l e).2.1 (nxR l e).2.2 6).1.length ≤ l.length := Nat.le_trans (sN_suf _ _ 6).length_le hrl
  have VX := Lib.hid (show ∀ w, RdR w base g p (sN (nxR l e).2.1 (nxR l e).2.2 6).1 (sN (nxR l e).2.1 (nxR l e).2.2 6).2 → Calls Try.prog 107 #[p, .int .i64 200] w (fun x w' => x = .returned (.string ⟨(nxT l e).1.toArray⟩) ∧ RdR w' base g p (nxT l e).2.1 (nxT l e).2.2 ∧ w.grownBy w' (some g)) from fun w h => text_any w base g p _ _ 200 h (by omega) (by omega))
  have hraw := Lib.hid (show nxV l e = ⟨⟨(nxR l e).1.toArray⟩, nN (nxR l e).2.1 (nxR l e).2.2 0, nN (nxR l e).2.1 (nxR l e).2.2 1, nN (nxR l e).2.1 (nxR l e).2.2 2, (nN (nxR l e).2.1 (nxR l e).2.2 3, nN (nxR l e).2.1 (nxR l e).2.2 3 + nN (nxR l e).2.1 (nxR l e).2.2 4), ⟨(nxT l e).1.toArray⟩, (nN (nxR l e).2.1 (nxR l e).2.2 5 == 1)⟩ from rfl)
  rw [hraw.out]
  have H := Lib.hid h
  have hgl := h.lt
  clear h hraw hsl
  generalize nxT l e = vq at *
  generalize nxR l e = rq at *
  obtain ⟨kx, l2, e2⟩ := rq
  simp only at *
  have NK := fun (k : Nat) => (fun w h => number_any w base g p (sN l2 e2 k).1 (sN l2 e2 k).2 h (by have := (sN_suf l2 e2 k).length_le; omega))
  have N0 := Lib.hid (show ∀ w, RdR w base g p (sN l2 e2 0).1 (sN l2 e2 0).2 → Calls Try.prog 95 #[p] w (fun x w' => x = .returned (.int .i64 (nN l2 e2 0)) ∧ RdR w' base g p (sN l2 e2 1).1 (sN l2 e2 1).2 ∧ w.grownBy w' (some g)) from NK 0)
  have N1 := Lib.hid (show ∀ w, RdR w base g p (sN l2 e2 1).1 (sN l2 e2 1).2 → Calls Try.prog 95 #[p] w (fun x w' => x = .returned (.int .i64 (nN l2 e2 1)) ∧ RdR w' base g p (sN l2 e2 2).1 (sN l2 e2 2).2 ∧ w.grownBy w' (some g)) from NK 1)
  have N2 := Lib.hid (show ∀ w, RdR w base g p (sN l2 e2 2).1 (sN l2 e2 2).2 → Calls Try.prog 95 #[p] w (fun x w' => x = .returned (.int .i64 (nN l2 e2 2)) ∧ RdR w' base g p (sN l2 e2 3).1 (sN l2 e2 3).2 ∧ w.grownBy w' (some g)) from NK 2)
  have N3 := Lib.hid (show ∀ w, RdR w base g p (sN l2 e2 3).1 (sN l2 e2 3).2 → Calls Try.prog 95 #[p] w (fun x w' => x = .returned (.int .i64 (nN l2 e2 3)) ∧ RdR w' base g p (sN l2 e2 4).1 (sN l2 e2 4).2 ∧ w.grownBy w' (some g)) from NK 3)
  have N4 := Lib.hid (show ∀ w, RdR w base g p (sN l2 e2 4).1 (sN l2 e2 4).2 → Calls Try.prog 95 #[p] w (fun x w' => x = .returned (.int .i64 (nN l2 e2 4)) ∧ RdR w' base g p (sN l2 e2 5).1 (sN l2 e2 5).2 ∧ w.grownBy w' (some g)) from NK 4)
  have N5 := Lib.hid (show ∀ w, RdR w base g p (sN l2 e2 5).1 (sN l2 e2 5).2 → Calls Try.prog 95 #[p] w (fun x w' => x = .returned (.int .i64 (nN l2 e2 5)) ∧ RdR w' base g p (sN l2 e2 6).1 (sN l2 e2 6).2 ∧ w.grownBy w' (some g)) from NK 5)
  clear NK
  have h3 := nN_bd l2 e2 3
  have h4 := nN_bd l2 e2 4
  generalize sN l2 e2 1 = st1 at *
  generalize sN l2 e2 2 = st2 at *
  generalize sN l2 e2 3 = st3 at *
  generalize sN l2 e2 4 = st4 at *
  generalize sN l2 e2 5 = st5 at *
  generalize sN l2 e2 6 = st6 at *
  generalize nN l2 e2 0 = n0 at *
  generalize nN l2 e2 1 = n1 at *
  generalize nN l2 e2 2 = n2 at *
  generalize nN l2 e2 3 = n3 at *
  generalize nN l2 e2 4 = n4 at *
  generalize nN l2 e2 5 = n5 at *
  obtain ⟨vx, vl, ve⟩ := vq
  simp only at *
  have hws : IntKind.i64.wrap (n3 + n4) = n3 + n4 := by rw [IntKind.wrap_i64]; omega
  have D := Lib.hid (H.out.on (alloc_below w (.cells #[.string ⟨#[]⟩, .int .i64 0, .int .i64 0, .int .i64 0, .int .i64 0, .int .i64 0, .string ⟨#[]⟩, .bool false] 42)))
  have G := Lib.hid (show w.grownBy (w.alloc (.cells #[.string ⟨#[]⟩, .int .i64 0, .int .i64 0, .int .i64 0, .int .i64 0, .int .i64 0, .string ⟨#[]⟩, .bool false] 42)) (some g) from grown_of_below (alloc_below w _))
  have BZ := Lib.hid (Box.new w #[.string ⟨#[]⟩, .int .i64 0, .int .i64 0, .int .i64 0, .int .i64 0, .int .i64 0, .string ⟨#[]⟩, .bool false] 42 _ rfl)
  have hne : some w.heap.size ≠ some g := by intro e2; injection e2 with e2; omega
  go_enter Try.func96, Try.ntmps96
  go_wp2_with fail
  generalize w.alloc (.cells #[.string ⟨#[]⟩, .int .i64 0, .int .i64 0, .int .i64 0, .int .i64 0, .int .i64 0, .string ⟨#[]⟩, .bool false] 42) = W0 at *
  refine (KT.out _ D.out).mono ?_
  rintro z w1 ⟨rfl, hd, hg⟩
  have D := Lib.hid hd
  have G := Lib.hid (G.out.trans hg)
  have BZ := Lib.hid (BZ.out.keep hg hne)
  clear hd hg
  go_wp2_with fail
  refine (N0.out _ D.out).mono ?_
  rintro z w1 ⟨rfl, hd, hg⟩
  have D := Lib.hid hd
  have G := Lib.hid (G.out.trans hg)
  have BZ := Lib.hid (BZ.out.keep hg hne)
  clear hd hg
  go_wp2_with fail
  refine (N1.out _ D.out).mono ?_
  rintro z w1 ⟨rfl, hd, hg⟩
  have D := Lib.hid hd
  have G := Lib.hid (G.out.trans hg)
  have BZ := Lib.hid (BZ.out.keep hg hne)
  clear hd hg
  go_wp2_with fail
  refine (N2.out _ D.out).mono ?_
  rintro z w1 ⟨rfl, hd, hg⟩
  have D := Lib.hid hd
  have G := Lib.hid (G.out.trans hg)
  have BZ := Lib.hid (BZ.out.keep hg hne)
  clear hd hg
  have hgl1 := D.out.lt
  have hne1 : some w1.heap.size ≠ some g := by intro e2; injection e2 with e2; omega
  have D := Lib.hid (D.out.on (alloc_below w1 (.cells #[.int .i64 n0, .int .i64 n1, .int .i64 n2] 38)))
  have G := Lib.hid (G.out.trans (grown_of_below (alloc_below w1 (.cells #[.int .i64 n0, .int .i64 n1, .int .i64 n2] 38))))
  have BS := Lib.hid (Box.new w1 #[.int .i64 n0, .int .i64 n1, .int .i64 n2] 38 _ rfl)
  have BZ := Lib.hid (BZ.out.alloc (.cells #[.int .i64 n0, .int .i64 n1, .int .i64 n2] 38))
  go_wp2_with fail
  generalize w1.heap.size = ns at *
  generalize w1.alloc (.cells #[.int .i64 n0, .int .i64 n1, .int .i64 n2] 38) = w1 at *
  refine (N3.out _ D.out).mono ?_
  rintro z w1 ⟨rfl, hd, hg⟩
  have D := Lib.hid hd
  have G := Lib.hid (G.out.trans hg)
  have BZ := Lib.hid (BZ.out.keep hg hne)
  have BS := Lib.hid (BS.out.keep hg hne1)
  clear hd hg
  go_wp2_with fail
  refine (N4.out _ D.out).mono ?_
  rintro z w1 ⟨rfl, hd, hg⟩
  have D := Lib.hid hd
  have G := Lib.hid (G.out.trans hg)
  have BZ := Lib.hid (BZ.out.keep hg hne)
  have BS := Lib.hid (BS.out.keep hg hne1)
  clear hd hg
  go_wp2_with fail
  refine (N5.out _ D.out).mono ?_
  rintro z w1 ⟨rfl, hd, hg⟩
  have D := Lib.hid hd
  have G := Lib.hid (G.out.trans hg)
  have BZ := Lib.hid (BZ.out.keep hg hne)
  have BS := Lib.hid (BS.out.keep hg hne1)
  clear hd hg
  go_wp2_with fail
  have HI : (fun W => Box W ns #[.int .i64 n0, .int .i64 n1, .int .i64 n2] 38) w1.drew := BS.out
  have D := Lib.hid (show RdR w1.drew base g _ _ _ from D.out.on ((Below.refl _ w1).drewN 1))
  have G := Lib.hid (show w.grownBy w1.drew (some g) from grown_then_below G.out ((Below.refl _ w1).drewN 1))
  have BZ := Lib.hid (show Box w1.drew w.heap.size #[.string ⟨#[]⟩, .int .i64 0, .int .i64 0, .int .i64 0, .int .i64 0, .int .i64 0, .string ⟨#[]⟩, .bool false] 42 from BZ.out)
  have BS := Lib.hid (show Box w1.drew ns #[.int .i64 n0, .int .i64 n1, .int .i64 n2] 38 from BS.out)
  refine regk_start [12] (fun W => Box W ns #[.int .i64 n0, .int .i64 n1, .int .i64 n2] 38) (by kernel_rfl) ?_
  refine regk_free 0 23 (v := ?_) (T' := ?_) (fun _ => HI) (by kernel_rfl) (by kernel_rfl) (by kernel_rfl) (by kernel_rfl) (fun _ _ _ h => h) (fun o ho => ?_) ?_ ?_
  rotate_left 2
  · cases ho
    refine ⟨rfl, rfl, fun W => ?_⟩
    go_simp; (try with_reducible rfl)
  · simp only [List.setIfInBounds_toArray, List.set_cons_succ, List.set_cons_zero]; exact rfl
  refine regk_take 1 24 (v := ?_) (T' := ?_) HI (by kernel_rfl) (by kernel_rfl) (by kernel_rfl) (by kernel_rfl) (by kernel_rfl) (by kernel_rfl) (fun _ _ _ h => h) (fun o ho => ?_) ?_ ?_
  rotate_left 2
  · cases ho
    refine ⟨rfl, rfl, fun W hW => ?_⟩
    have BW := (show Box W ns #[.int .i64 n0, .int .i64 n1, .int .i64 n2] 38 from hW)
    have c0 := BW.cell 0 (.int .i64 n0) rfl
    have c1 := BW.cell 1 (.int .i64 n1) rfl
    have c2 := BW.cell 2 (.int .i64 n2) rfl
    go_simp; (try with_reducible rfl)
  · simp only [List.setIfInBounds_toArray, List.set_cons_succ, List.set_cons_zero]; exact rfl
  refine regk_free 2 25 (v := ?_) (T' := ?_) (fun _ => HI) (by kernel_rfl) (by kernel_rfl) (by kernel_rfl) (by kernel_rfl) (fun _ _ _ h => h) (fun o ho => ?_) ?_ ?_
  rotate_left 2
  · cases ho
    refine ⟨rfl, rfl, fun W => ?_⟩
    go_simp; (try with_reducible rfl)
  · simp only [List.setIfInBounds_toArray, List.set_cons_succ, List.set_cons_zero]; exact rfl
  refine regk_free 3 26 (v := ?_) (T' := ?_) (fun _ => HI) (by kernel_rfl) (by kernel_rfl) (by kernel_rfl) (by kernel_rfl) (fun _ _ _ h => h) (fun o ho => ?_) ?_ ?_
  rotate_left 2
  · cases ho
    refine ⟨rfl, rfl, fun W => ?_⟩
    go_simp; (try with_reducible rfl)
  · simp only [List.setIfInBounds_toArray, List.set_cons_succ, List.set_cons_zero]; exact rfl
  refine regk_free 4 27 (v := ?_) (T' := ?_) (fun _ => HI) (by kernel_rfl) (by kernel_rfl) (by kernel_rfl) (by kernel_rfl) (fun _ _ _ h => h) (fun o ho => ?_) ?_ ?_
  rotate_left 2
  · cases ho
    refine ⟨rfl, rfl, fun W => ?_⟩
    go_simp; (try with_reducible rfl)
  · simp only [List.setIfInBounds_toArray, List.set_cons_succ, List.set_cons_zero]; exact rfl
  refine regk_free 5 28 (v := ?_) (T' := ?_) (fun _ => HI) (by kernel_rfl) (by kernel_rfl) (by kernel_rfl) (by kernel_rfl) (fun _ _ _ h => h) (fun o ho => ?_) ?_ ?_
  rotate_left 2
  · cases ho
    refine ⟨rfl, rfl, fun W => ?_⟩
    go_simp; (try with_reducible rfl)
  · simp only [List.setIfInBounds_toArray, List.set_cons_succ, List.set_cons_zero]; exact rfl
  refine regk_free 6 29 (v := ?_) (T' := ?_) (fun _ => HI) (by kernel_rfl) (by kernel_rfl) (by kernel_rfl) (by kernel_rfl) (fun _ _ _ h => h) (fun o ho => ?_) ?_ ?_
  rotate_left 2
  · cases ho
    refine ⟨rfl, rfl, fun W => ?_⟩
    go_simp; (try with_reducible rfl)
  · simp only [List.setIfInBounds_toArray, List.set_cons_succ, List.set_cons_zero]; exact rfl
  refine regk_free 7 30 (v := ?_) (T' := ?_) (fun _ => HI) (by kernel_rfl) (by kernel_rfl) (by kernel_rfl) (by kernel_rfl) (fun _ _ _ h => h) (fun o ho => ?_) ?_ ?_
  rotate_left 2
  · cases ho
    refine ⟨rfl, rfl, fun W => ?_⟩
    go_simp; (try with_reducible rfl)
  · simp only [List.setIfInBounds_toArray, List.set_cons_succ, List.set_cons_zero]; exact rfl
  refine regk_free 9 32 (v := ?_) (T' := ?_) (fun _ => HI) (by kernel_rfl) (by kernel_rfl) (by kernel_rfl) (by kernel_rfl) (fun _ _ _ h => h) (fun o ho => ?_) ?_ ?_
  rotate_left 2
  · cases ho
    refine ⟨rfl, rfl, fun W => ?_⟩
    go_simp; (try with_reducible rfl)
  · simp only [List.setIfInBounds_toArray, List.set_cons_succ, List.set_cons_zero]; exact rfl
  refine regk_free 10 33 (v := ?_) (T' := ?_) (fun _ => HI) (by kernel_rfl) (by kernel_rfl) (by kernel_rfl) (by kernel_rfl) (fun _ _ _ h => h) (fun o ho => ?_) ?_ ?_
  rotate_left 2
  · cases ho
    refine ⟨rfl, rfl, fun W => ?_⟩
    go_simp; (try with_reducible rfl)
  · simp only [List.setIfInBounds_toArray, List.set_cons_succ, List.set_cons_zero]; exact rfl
  refine regk_call (I' := (fun W => Box W ns #[.int .i64 n0, .int .i64 n1, .int .i64 n2] 38)) (fun _ h => h) 8 31 (by kernel_rfl) 107 #[p, .int .i64 200] (fun o ho => by cases ho; exact ⟨rfl, rfl, fun W => by go_simp⟩) ?_
  refine (VX.out _ D.out).mono ?_
  rintro z w2 ⟨rfl, hd, hg⟩
  have D := Lib.hid hd
  have G := Lib.hid (G.out.trans hg)
  have BZ := Lib.hid (BZ.out.keep hg hne)
  have BS := Lib.hid (BS.out.keep hg hne1)
  have HI : (fun W => Box W ns #[.int .i64 n0, .int .i64 n1, .int .i64 n2] 38) w2 := BS.out
  refine ⟨_, _, rfl, fun _ => HI, (by simp only [List.setIfInBounds_toArray, List.set_cons_succ, List.set_cons_zero]; exact rfl), ?_⟩
  clear hd hg
  refine regk_free 11 34 (v := ?_) (T' := ?_) (fun _ => HI) (by kernel_rfl) (by kernel_rfl) (by kernel_rfl) (by kernel_rfl) (fun _ _ _ h => h) (fun o ho => ?_) ?_ ?_
  rotate_left 2
  · cases ho
    refine ⟨rfl, rfl, fun W => ?_⟩
    go_simp; (try with_reducible rfl)
  · simp only [List.setIfInBounds_toArray, List.set_cons_succ, List.set_cons_zero]; exact rfl
  refine regk_store (I' := (fun W => Box W ns #[.int .i64 n0, .int .i64 n1, .int .i64 n2] 38)) (fun _ h => h) 12 (w' := ((((((((w2.setCell ⟨w.heap.size, 0, none⟩ (.string ⟨kx.toArray⟩)).setCell ⟨w.heap.size, 1, none⟩ (.int .i64 n0)).setCell ⟨w.heap.size, 2, none⟩ (.int .i64 n1)).setCell ⟨w.heap.size, 3, none⟩ (.int .i64 n2)).setCell ⟨w.heap.size, 4, none⟩ (.int .i64 n3)).setCell ⟨w.heap.size, 5, none⟩ (.int .i64 (n3 + n4))).setCell ⟨w.heap.size, 6, none⟩ (.string ⟨vx.toArray⟩)).setCell ⟨w.heap.size, 7, none⟩ (.bool (n5 == 1)))) (by kernel_rfl) (fun o ho => ?_) (noB_no (by kernel_rfl)) ?_
  · cases ho
    refine ⟨rfl, rfl, ?_⟩
    have z0 := BZ.out.cell 0 (.string ⟨#[]⟩) rfl
    have f0 := BZ.out.frozen 0
    have z1 := BZ.out.cell 1 (.int .i64 0) rfl
    have f1 := BZ.out.frozen 1
    have z2 := BZ.out.cell 2 (.int .i64 0) rfl
    have f2 := BZ.out.frozen 2
    have z3 := BZ.out.cell 3 (.int .i64 0) rfl
    have f3 := BZ.out.frozen 3
    have z4 := BZ.out.cell 4 (.int .i64 0) rfl
    have f4 := BZ.out.frozen 4
    have z5 := BZ.out.cell 5 (.int .i64 0) rfl
    have f5 := BZ.out.frozen 5
    have z6 := BZ.out.cell 6 (.string ⟨#[]⟩) rfl
    have f6 := BZ.out.frozen 6
    have z7 := BZ.out.cell 7 (.bool false) rfl
    have f7 := BZ.out.frozen 7
    go_simp; (try with_reducible rfl)
  refine regk_done (by kernel_rfl) ?_
  have HZ := Lib.hid (((((((((Below.refl w.heap.size w2).setCell (p := ⟨w.heap.size, 0, none⟩) (Nat.le_refl _) (.string ⟨kx.toArray⟩)).setCell (p := ⟨w.heap.size, 1, none⟩) (Nat.le_refl _) (.int .i64 n0)).setCell (p := ⟨w.heap.size, 2, none⟩) (Nat.le_refl _) (.int .i64 n1)).setCell (p := ⟨w.heap.size, 3, none⟩) (Nat.le_refl _) (.int .i64 n2)).setCell (p := ⟨w.heap.size, 4, none⟩) (Nat.le_refl _) (.int .i64 n3)).setCell (p := ⟨w.heap.size, 5, none⟩) (Nat.le_refl _) (.int .i64 (n3 + n4))).setCell (p := ⟨w.heap.size, 6, none⟩) (Nat.le_refl _) (.string ⟨vx.toArray⟩)).setCell (p := ⟨w.heap.size, 7, none⟩) (Nat.le_refl _) (.bool (n5 == 1)))
  have D := Lib.hid (D.out.below HZ.out hgl)
  have G := Lib.hid (grown_then_below G.out HZ.out)
  have z0 := BZ.out.cell 0 (.string ⟨#[]⟩) rfl
  have f0 := BZ.out.frozen 0
  have z1 := BZ.out.cell 1 (.int .i64 0) rfl
  have f1 := BZ.out.frozen 1
  have z2 := BZ.out.cell 2 (.int .i64 0) rfl
  have f2 := BZ.out.frozen 2
  have z3 := BZ.out.cell 3 (.int .i64 0) rfl
  have f3 := BZ.out.frozen 3
  have z4 := BZ.out.cell 4 (.int .i64 0) rfl
  have f4 := BZ.out.frozen 4
  have z5 := BZ.out.cell 5 (.int .i64 0) rfl
  have f5 := BZ.out.frozen 5
  have z6 := BZ.out.cell 6 (.string ⟨#[]⟩) rfl
  have f6 := BZ.out.frozen 6
  have z7 := BZ.out.cell 7 (.bool false) rfl
  have f7 := BZ.out.frozen 7
  go_wp2_with fail
  refine bodyPost_ret (v := .agg #[.string ⟨kx.toArray⟩, .int .i64 n0, .int .i64 n1, .int .i64 n2, .int .i64 n3, .int .i64 (n3 + n4), .string ⟨vx.toArray⟩, .bool (n5 == 1)]) ?_ rfl ⟨rfl, D.out, G.out⟩
  rw [results_cell1 rfl]
  go_simp
end Go.Proofs.Ytefjdmlmmoeoaaa
