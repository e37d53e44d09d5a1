/- Layer 6: a version read, by the project. -/
import Derived.Test.YtmchiebpijnpiaaRg
import Derived.Test.YtmchiebpijnpiaaRk
namespace Go.Proofs.Ytmchiebpijnpiaa
open Go.RowKit
set_option linter.unusedVariables false

theorem textT_len (l : List UInt8) (e most : Int) : (stepT l e most).1.length ≤ l.length := by
  have := (step_suf l e).length_le
  unfold stepT
  split
  · simp
  · split
    · simp
    · split
      · simp
      · simp only [List.length_take]; omega
theorem RdR.below {w w' : World} {base g B : Nat} {p : Value} {l : List UInt8} {e : Int} (h : RdR w base g p l e) (hb : Below B w w') (hB : g < B) : RdR w' base g p l e := by
  obtain ⟨h1, h2, h3, h4, h5, h6, sl, h7, h8, h9⟩ := h
  exact ⟨h1, Nat.lt_of_lt_of_le h2 hb.size, h3, (hb.cell (p := ⟨g, 1, none⟩) hB).trans h4, (hb.frozen (p := ⟨g, 0, none⟩) hB).trans h5, (hb.frozen (p := ⟨g, 1, none⟩) hB).trans h6, sl, (hb.cell (p := ⟨g, 0, none⟩) hB).trans h7, h8.below (hb.mono (Nat.le_of_lt hB)), h9⟩
theorem key_len (l : List UInt8) (e : Int) : (keyL l e).1.length ≤ l.length := Nat.le_trans (textT_len _ _ _) (sN_suf l e 6).length_le

set_option maxHeartbeats 8000000 in
theorem row_next (w : World) (base g : Nat) (p : Value) (l : List UInt8) (e : Int) (h : RdR w base g p l e) (hl : l.length ≤ 1000000) :
    Calls Try.prog 37 #[p] w fun x w' => x = .returned (.tuple #[verV (takeL l e).1, .int .i64 (takeL l e).2]) ∧ RdR w' base g p (valL l e).2.1 (valL l e).2.2 ∧ w.grownBy w' (some g) := by
  have NK := fun (k : Nat) => (fun w h => number_any w base g p (sN l e k).1 (sN l e k).2 h (by have := (sN_suf l e k).length_le; omega))
  have N0 := Lib.hid (show ∀ w, RdR w base g p (sN l e 0).1 (sN l e 0).2 → Calls Try.prog 44 #[p] w (fun x w' => x = .returned (.int .i64 (nN l e 0)) ∧ RdR w' base g p (sN l e 1).1 (sN l e 1).2 ∧ w.grownBy w' (some g)) from NK 0)
  have N1 := Lib.hid (show ∀ w, RdR w base g p (sN l e 1).1 (sN l e 1).2 → Calls Try.prog 44 #[p] w (fun x w' => x = .returned (.int .i64 (nN l e 1)) ∧ RdR w' base g p (sN l e 2).1 (sN l e 2).2 ∧ w.grownBy w' (some g)) from NK 1)
  have N2 := Lib.hid (show ∀ w, RdR w base g p (sN l e 2).1 (sN l e 2).2 → Calls Try.prog 44 #[p] w (fun x w' => x = .returned (.int .i64 (nN l e 2)) ∧ RdR w' base g p (sN l e 3).1 (sN l e 3).2 ∧ w.grownBy w' (some g)) from NK 2)
  have N3 := Lib.hid (show ∀ w, RdR w base g p (sN l e 3).1 (sN l e 3).2 → Calls Try.prog 44 #[p] w (fun x w' => x = .returned (.int .i64 (nN l e 3)) ∧ RdR w' base g p (sN l e 4).1 (sN l e 4).2 ∧ w.grownBy w' (some g)) from NK 3)
  have N4 := Lib.hid (show ∀ w, RdR w base g p (sN l e 4).1 (sN l e 4).2 → Calls Try.prog 44 #[p] w (fun x w' => x = .returned (.int .i64 (nN l e 4)) ∧ RdR w' base g p (sN l e 5).1 (sN l e 5).2 ∧ w.grownBy w' (some g)) from NK 4)
  have N5 := Lib.hid (show ∀ w, RdR w base g p (sN l e 5).1 (sN l e 5).2 → Calls Try.prog 44 #[p] w (fun x w' => x = .returned (.int .i64 (nN l e 5)) ∧ RdR w' base g p (sN l e 6).1 (sN l e 6).2 ∧ w.grownBy w' (some g)) from NK 5)
  clear NK
  have KT := Lib.hid (show ∀ w, RdR w base g p (sN l e 6).1 (sN l e 6).2 → Calls Try.prog 55 #[p, .int .i64 100] w (fun x w' => x = .returned (.string ⟨(keyL l e).1.toArray⟩) ∧ RdR w' base g p (keyL l e).2.1 (keyL l e).2.2 ∧ w.grownBy w' (some g)) from fun w h => text_any w base g p _ _ 100 h (by have := (sN_suf l e 6).length_le; omega) (by omega))
  have VX := Lib.hid (show ∀ w, RdR w base g p (keyL l e).2.1 (keyL l e).2.2 → Calls Try.prog 55 #[p, .int .i64 200] w (fun x w' => x = .returned (.string ⟨(valL l e).1.toArray⟩) ∧ RdR w' base g p (valL l e).2.1 (valL l e).2.2 ∧ w.grownBy w' (some g)) from fun w h => text_any w base g p _ _ 200 h (by have := (key_suf l e).length_le; omega) (by omega))
  have EX := Lib.hid (fun w h => err_any w base g p (valL l e).2.1 (valL l e).2.2 h)
  have htk := Lib.hid (show takeL l e = if (valL l e).2.2 ≠ 0 then (zeroV, (valL l e).2.2) else if mayV (rawL l e) = true ∧ nN l e 5 ≤ 1 then (rawL l e, 0) else (zeroV, 2) from rfl)
  have hraw := Lib.hid (show rawL l e = ⟨⟨(keyL l e).1.toArray⟩, nN l e 0, nN l e 1, nN l e 2, (nN l e 3, nN l e 3 + nN l e 4), ⟨(valL l e).1.toArray⟩, (nN l e 5 == 1)⟩ from rfl)
  have hkl := key_len l e
  have MR := Lib.hid (fun w => row_may (rawL l e) w (by rw [hraw.out]; exact (show (keyL l e).1.toArray.size ≤ 1000000 from by simp; omega)))
  rw [hraw.out] at MR htk
  unfold verV at MR
  simp only at MR
  have h3 := nN_bd l e 3
  have h4 := nN_bd l e 4
  have H := Lib.hid (show RdR w base g p (sN l e 0).1 (sN l e 0).2 from h)
  have hgl := h.lt
  clear h hraw hkl
  generalize takeL l e = tk at *
  generalize keyL l e = kq at *
  generalize valL l e = vq at *
  generalize sN l e 0 = st0 at *
  generalize sN l e 1 = st1 at *
  generalize sN l e 2 = st2 at *
  generalize sN l e 3 = st3 at *
  generalize sN l e 4 = st4 at *
  generalize sN l e 5 = st5 at *
  generalize sN l e 6 = st6 at *
  generalize nN l e 0 = n0 at *
  generalize nN l e 1 = n1 at *
  generalize nN l e 2 = n2 at *
  generalize nN l e 3 = n3 at *
  generalize nN l e 4 = n4 at *
  generalize nN l e 5 = n5 at *
  obtain ⟨kx, kl, ke⟩ := kq
  obtain ⟨vx, vl, ve⟩ := vq
  simp only at *
  have hws : IntKind.i64.wrap (n3 + n4) = n3 + n4 := by rw [IntKind.wrap_i64]; omega
  have D := Lib.hid (H.out.on (alloc_below w (.cells #[.string ⟨#[]⟩, .int .i64 0, .int .i64 0, .int .i64 0, .int .i64 0, .int .i64 0, .string ⟨#[]⟩, .bool false] 27)))
  have G := Lib.hid (show w.grownBy (w.alloc (.cells #[.string ⟨#[]⟩, .int .i64 0, .int .i64 0, .int .i64 0, .int .i64 0, .int .i64 0, .string ⟨#[]⟩, .bool false] 27)) (some g) from grown_of_below (alloc_below w _))
  have BZ := Lib.hid (Box.new w #[.string ⟨#[]⟩, .int .i64 0, .int .i64 0, .int .i64 0, .int .i64 0, .int .i64 0, .string ⟨#[]⟩, .bool false] 27 _ rfl)
  have hne : some w.heap.size ≠ some g := by intro e2; injection e2 with e2; omega
  go_enter Try.func37, Try.ntmps37
  go_wp2_with fail
  generalize w.alloc (.cells #[.string ⟨#[]⟩, .int .i64 0, .int .i64 0, .int .i64 0, .int .i64 0, .int .i64 0, .string ⟨#[]⟩, .bool false] 27) = W0 at *
  refine (N0.out _ D.out).mono ?_
  rintro z w1 ⟨rfl, hd, hg⟩
  have D := Lib.hid hd
  have G := Lib.hid (G.out.trans hg)
  have BZ := Lib.hid (BZ.out.keep hg hne)
  clear hd hg
  go_wp2_with fail
  refine (N1.out _ D.out).mono ?_
  rintro z w1 ⟨rfl, hd, hg⟩
  have D := Lib.hid hd
  have G := Lib.hid (G.out.trans hg)
  have BZ := Lib.hid (BZ.out.keep hg hne)
  clear hd hg
  go_wp2_with fail
  refine (N2.out _ D.out).mono ?_
  rintro z w1 ⟨rfl, hd, hg⟩
  have D := Lib.hid hd
  have G := Lib.hid (G.out.trans hg)
  have BZ := Lib.hid (BZ.out.keep hg hne)
  clear hd hg
  have hgl1 := D.out.lt
  have hne1 : some w1.heap.size ≠ some g := by intro e2; injection e2 with e2; omega
  have D := Lib.hid (D.out.on (alloc_below w1 (.cells #[.int .i64 n0, .int .i64 n1, .int .i64 n2] 23)))
  have G := Lib.hid (G.out.trans (grown_of_below (alloc_below w1 (.cells #[.int .i64 n0, .int .i64 n1, .int .i64 n2] 23))))
  have BS := Lib.hid (Box.new w1 #[.int .i64 n0, .int .i64 n1, .int .i64 n2] 23 _ rfl)
  have BZ := Lib.hid (BZ.out.alloc (.cells #[.int .i64 n0, .int .i64 n1, .int .i64 n2] 23))
  go_wp2_with fail
  generalize w1.alloc (.cells #[.int .i64 n0, .int .i64 n1, .int .i64 n2] 23) = w1 at *
  refine (N3.out _ D.out).mono ?_
  rintro z w1 ⟨rfl, hd, hg⟩
  have D := Lib.hid hd
  have G := Lib.hid (G.out.trans hg)
  have BZ := Lib.hid (BZ.out.keep hg hne)
  have BS := Lib.hid (BS.out.keep hg hne1)
  clear hd hg
  go_wp2_with fail
  refine (N4.out _ D.out).mono ?_
  rintro z w1 ⟨rfl, hd, hg⟩
  have D := Lib.hid hd
  have G := Lib.hid (G.out.trans hg)
  have BZ := Lib.hid (BZ.out.keep hg hne)
  have BS := Lib.hid (BS.out.keep hg hne1)
  clear hd hg
  go_wp2_with fail
  refine (N5.out _ D.out).mono ?_
  rintro z w1 ⟨rfl, hd, hg⟩
  have D := Lib.hid hd
  have G := Lib.hid (G.out.trans hg)
  have BZ := Lib.hid (BZ.out.keep hg hne)
  have BS := Lib.hid (BS.out.keep hg hne1)
  clear hd hg
  go_wp2_with fail
  refine (KT.out _ D.out).mono ?_
  rintro z w1 ⟨rfl, hd, hg⟩
  have D := Lib.hid hd
  have G := Lib.hid (G.out.trans hg)
  have BZ := Lib.hid (BZ.out.keep hg hne)
  have BS := Lib.hid (BS.out.keep hg hne1)
  clear hd hg
  go_wp2_with fail
  refine (VX.out _ D.out).mono ?_
  rintro z w1 ⟨rfl, hd, hg⟩
  have D := Lib.hid hd
  have G := Lib.hid (G.out.trans hg)
  have BZ := Lib.hid (BZ.out.keep hg hne)
  have BS := Lib.hid (BS.out.keep hg hne1)
  clear hd hg
  go_wp2_with fail
  refine (EX.out _ D.out).mono ?_
  rintro z w2 ⟨rfl, rfl⟩
  by_cases he : ve = 0
  · subst he
    rw [if_neg (by simp)] at htk
    have cs0 := BS.out.cell 0 (.int .i64 n0) rfl
    have cs1 := BS.out.cell 1 (.int .i64 n1) rfl
    have cs2 := BS.out.cell 2 (.int .i64 n2) rfl
    have D := Lib.hid (D.out.on (alloc_below w1 (.cells #[.string ⟨kx.toArray⟩, .int .i64 n0, .int .i64 n1, .int .i64 n2, .int .i64 n3, .int .i64 (n3 + n4), .string ⟨vx.toArray⟩, .bool (n5 == 1)] 27)))
    have BV := Lib.hid (Box.new w1 #[.string ⟨kx.toArray⟩, .int .i64 n0, .int .i64 n1, .int .i64 n2, .int .i64 n3, .int .i64 (n3 + n4), .string ⟨vx.toArray⟩, .bool (n5 == 1)] 27 _ rfl)
    have BZ := Lib.hid (BZ.out.alloc (.cells #[.string ⟨kx.toArray⟩, .int .i64 n0, .int .i64 n1, .int .i64 n2, .int .i64 n3, .int .i64 (n3 + n4), .string ⟨vx.toArray⟩, .bool (n5 == 1)] 27))
    have G := Lib.hid (G.out.trans (grown_of_below (alloc_below w1 (.cells #[.string ⟨kx.toArray⟩, .int .i64 n0, .int .i64 n1, .int .i64 n2, .int .i64 n3, .int .i64 (n3 + n4), .string ⟨vx.toArray⟩, .bool (n5 == 1)] 27))))
    by_cases h1 : n5 ≤ 1
    · have zg : decide ((1 : Int) < n5) = false := by simp; omega
      generalize hmv : mayV _ = mv at MR htk
      go_wp2_with fail
      generalize w1.alloc (.cells #[.string ⟨kx.toArray⟩, .int .i64 n0, .int .i64 n1, .int .i64 n2, .int .i64 n3, .int .i64 (n3 + n4), .string ⟨vx.toArray⟩, .bool (n5 == 1)] 27) = W7 at *
      have c0 := BV.out.cell 0 (.string ⟨kx.toArray⟩) rfl
      have c1 := BV.out.cell 1 (.int .i64 n0) rfl
      have c2 := BV.out.cell 2 (.int .i64 n1) rfl
      have c3 := BV.out.cell 3 (.int .i64 n2) rfl
      have c4 := BV.out.cell 4 (.int .i64 n3) rfl
      have c5 := BV.out.cell 5 (.int .i64 (n3 + n4)) rfl
      have c6 := BV.out.cell 6 (.string ⟨vx.toArray⟩) rfl
      have c7 := BV.out.cell 7 (.bool (n5 == 1)) rfl
      go_wp2_with fail
      refine (MR.out _).mono ?_
      rintro z w8 ⟨rfl, hb8⟩
      have BZ := Lib.hid (BZ.out.later hb8)
      have BV := Lib.hid (BV.out.later hb8)
      have D := Lib.hid (D.out.on hb8)
      have G := Lib.hid (G.out.trans (grown_of_below hb8))
      clear hb8 c0 c1 c2 c3 c4 c5 c6 c7 cs0 cs1 cs2
      cases mv
      · have ht := Lib.hid (show tk = (zeroV, 2) from by rw [htk.out, if_neg (by simp)])
        have z0 := BZ.out.cell 0 (.string ⟨#[]⟩) rfl
        have z1 := BZ.out.cell 1 (.int .i64 0) rfl
        have z2 := BZ.out.cell 2 (.int .i64 0) rfl
        have z3 := BZ.out.cell 3 (.int .i64 0) rfl
        have z4 := BZ.out.cell 4 (.int .i64 0) rfl
        have z5 := BZ.out.cell 5 (.int .i64 0) rfl
        have z6 := BZ.out.cell 6 (.string ⟨#[]⟩) rfl
        have z7 := BZ.out.cell 7 (.bool false) rfl
        have f0 := BZ.out.frozen 0
        have f1 := BZ.out.frozen 1
        have f2 := BZ.out.frozen 2
        have f3 := BZ.out.frozen 3
        have f4 := BZ.out.frozen 4
        have f5 := BZ.out.frozen 5
        have f6 := BZ.out.frozen 6
        have f7 := BZ.out.frozen 7
        have HZ := Lib.hid (((((((((Below.refl w.heap.size w8).setCell (p := ⟨w.heap.size, 0, none⟩) (Nat.le_refl _) (.string ⟨#[]⟩)).setCell (p := ⟨w.heap.size, 1, none⟩) (Nat.le_refl _) (.int .i64 0)).setCell (p := ⟨w.heap.size, 2, none⟩) (Nat.le_refl _) (.int .i64 0)).setCell (p := ⟨w.heap.size, 3, none⟩) (Nat.le_refl _) (.int .i64 0)).setCell (p := ⟨w.heap.size, 4, none⟩) (Nat.le_refl _) (.int .i64 0)).setCell (p := ⟨w.heap.size, 5, none⟩) (Nat.le_refl _) (.int .i64 0)).setCell (p := ⟨w.heap.size, 6, none⟩) (Nat.le_refl _) (.string ⟨#[]⟩)).setCell (p := ⟨w.heap.size, 7, none⟩) (Nat.le_refl _) (.bool false))
        go_wp2_with fail
        refine bodyPost_ret (v := .tuple #[.agg #[.string ⟨#[]⟩, .int .i64 0, .int .i64 0, .int .i64 0, .int .i64 0, .int .i64 0, .string ⟨#[]⟩, .bool false], .int .i64 (2)]) ?_ rfl ⟨by rw [ht.out]; rfl, D.out.below HZ.out hgl, grown_then_below G.out HZ.out⟩
        rw [results_cell_tmp rfl]
        go_simp
      · have ht := Lib.hid (show tk = (⟨⟨kx.toArray⟩, n0, n1, n2, (n3, n3 + n4), ⟨vx.toArray⟩, n5 == 1⟩, 0) from by rw [htk.out, if_pos ⟨rfl, h1⟩])
        have c0 := BV.out.cell 0 (.string ⟨kx.toArray⟩) rfl
        have c1 := BV.out.cell 1 (.int .i64 n0) rfl
        have c2 := BV.out.cell 2 (.int .i64 n1) rfl
        have c3 := BV.out.cell 3 (.int .i64 n2) rfl
        have c4 := BV.out.cell 4 (.int .i64 n3) rfl
        have c5 := BV.out.cell 5 (.int .i64 (n3 + n4)) rfl
        have c6 := BV.out.cell 6 (.string ⟨vx.toArray⟩) rfl
        have c7 := BV.out.cell 7 (.bool (n5 == 1)) rfl
        have z0 := BZ.out.cell 0 (.string ⟨#[]⟩) rfl
        have z1 := BZ.out.cell 1 (.int .i64 0) rfl
        have z2 := BZ.out.cell 2 (.int .i64 0) rfl
        have z3 := BZ.out.cell 3 (.int .i64 0) rfl
        have z4 := BZ.out.cell 4 (.int .i64 0) rfl
        have z5 := BZ.out.cell 5 (.int .i64 0) rfl
        have z6 := BZ.out.cell 6 (.string ⟨#[]⟩) rfl
        have z7 := BZ.out.cell 7 (.bool false) rfl
        have f0 := BZ.out.frozen 0
        have f1 := BZ.out.frozen 1
        have f2 := BZ.out.frozen 2
        have f3 := BZ.out.frozen 3
        have f4 := BZ.out.frozen 4
        have f5 := BZ.out.frozen 5
        have f6 := BZ.out.frozen 6
        have f7 := BZ.out.frozen 7
        have HZ := Lib.hid (((((((((Below.refl w.heap.size w8).setCell (p := ⟨w.heap.size, 0, none⟩) (Nat.le_refl _) (.string ⟨kx.toArray⟩)).setCell (p := ⟨w.heap.size, 1, none⟩) (Nat.le_refl _) (.int .i64 n0)).setCell (p := ⟨w.heap.size, 2, none⟩) (Nat.le_refl _) (.int .i64 n1)).setCell (p := ⟨w.heap.size, 3, none⟩) (Nat.le_refl _) (.int .i64 n2)).setCell (p := ⟨w.heap.size, 4, none⟩) (Nat.le_refl _) (.int .i64 n3)).setCell (p := ⟨w.heap.size, 5, none⟩) (Nat.le_refl _) (.int .i64 (n3 + n4))).setCell (p := ⟨w.heap.size, 6, none⟩) (Nat.le_refl _) (.string ⟨vx.toArray⟩)).setCell (p := ⟨w.heap.size, 7, none⟩) (Nat.le_refl _) (.bool (n5 == 1)))
        go_wp2_with fail
        refine bodyPost_ret (v := .tuple #[.agg #[.string ⟨kx.toArray⟩, .int .i64 n0, .int .i64 n1, .int .i64 n2, .int .i64 n3, .int .i64 (n3 + n4), .string ⟨vx.toArray⟩, .bool (n5 == 1)], .int .i64 (0)]) ?_ rfl ⟨by rw [ht.out]; rfl, D.out.below HZ.out hgl, grown_then_below G.out HZ.out⟩
        rw [results_cell_tmp rfl]
        go_simp
    · have zg : decide ((1 : Int) < n5) = true := by simp; omega
      have ht := Lib.hid (show tk = (zeroV, 2) from by rw [htk.out, if_neg (by simp; omega)])
      have z0 := BZ.out.cell 0 (.string ⟨#[]⟩) rfl
      have z1 := BZ.out.cell 1 (.int .i64 0) rfl
      have z2 := BZ.out.cell 2 (.int .i64 0) rfl
      have z3 := BZ.out.cell 3 (.int .i64 0) rfl
      have z4 := BZ.out.cell 4 (.int .i64 0) rfl
      have z5 := BZ.out.cell 5 (.int .i64 0) rfl
      have z6 := BZ.out.cell 6 (.string ⟨#[]⟩) rfl
      have z7 := BZ.out.cell 7 (.bool false) rfl
      have f0 := BZ.out.frozen 0
      have f1 := BZ.out.frozen 1
      have f2 := BZ.out.frozen 2
      have f3 := BZ.out.frozen 3
      have f4 := BZ.out.frozen 4
      have f5 := BZ.out.frozen 5
      have f6 := BZ.out.frozen 6
      have f7 := BZ.out.frozen 7
      have HZ := Lib.hid (((((((((Below.refl w.heap.size (w1.alloc (.cells #[.string ⟨kx.toArray⟩, .int .i64 n0, .int .i64 n1, .int .i64 n2, .int .i64 n3, .int .i64 (n3 + n4), .string ⟨vx.toArray⟩, .bool (n5 == 1)] 27))).setCell (p := ⟨w.heap.size, 0, none⟩) (Nat.le_refl _) (.string ⟨#[]⟩)).setCell (p := ⟨w.heap.size, 1, none⟩) (Nat.le_refl _) (.int .i64 0)).setCell (p := ⟨w.heap.size, 2, none⟩) (Nat.le_refl _) (.int .i64 0)).setCell (p := ⟨w.heap.size, 3, none⟩) (Nat.le_refl _) (.int .i64 0)).setCell (p := ⟨w.heap.size, 4, none⟩) (Nat.le_refl _) (.int .i64 0)).setCell (p := ⟨w.heap.size, 5, none⟩) (Nat.le_refl _) (.int .i64 0)).setCell (p := ⟨w.heap.size, 6, none⟩) (Nat.le_refl _) (.string ⟨#[]⟩)).setCell (p := ⟨w.heap.size, 7, none⟩) (Nat.le_refl _) (.bool false))
      go_wp2_with fail
      refine bodyPost_ret (v := .tuple #[.agg #[.string ⟨#[]⟩, .int .i64 0, .int .i64 0, .int .i64 0, .int .i64 0, .int .i64 0, .string ⟨#[]⟩, .bool false], .int .i64 (2)]) ?_ rfl ⟨by rw [ht.out]; rfl, D.out.below HZ.out hgl, grown_then_below G.out HZ.out⟩
      rw [results_cell_tmp rfl]
      go_simp
  · have hnz : (ve != 0) = true := by simpa [bne] using he
    have ht := Lib.hid (show tk = (zeroV, ve) from by rw [htk.out, if_pos he])
    go_wp2_with fail
    refine (EX.out _ D.out).mono ?_
    rintro z w2 ⟨rfl, rfl⟩
    have z0 := BZ.out.cell 0 (.string ⟨#[]⟩) rfl
    have z1 := BZ.out.cell 1 (.int .i64 0) rfl
    have z2 := BZ.out.cell 2 (.int .i64 0) rfl
    have z3 := BZ.out.cell 3 (.int .i64 0) rfl
    have z4 := BZ.out.cell 4 (.int .i64 0) rfl
    have z5 := BZ.out.cell 5 (.int .i64 0) rfl
    have z6 := BZ.out.cell 6 (.string ⟨#[]⟩) rfl
    have z7 := BZ.out.cell 7 (.bool false) rfl
    have f0 := BZ.out.frozen 0
    have f1 := BZ.out.frozen 1
    have f2 := BZ.out.frozen 2
    have f3 := BZ.out.frozen 3
    have f4 := BZ.out.frozen 4
    have f5 := BZ.out.frozen 5
    have f6 := BZ.out.frozen 6
    have f7 := BZ.out.frozen 7
    have HZ := Lib.hid (((((((((Below.refl w.heap.size w1).setCell (p := ⟨w.heap.size, 0, none⟩) (Nat.le_refl _) (.string ⟨#[]⟩)).setCell (p := ⟨w.heap.size, 1, none⟩) (Nat.le_refl _) (.int .i64 0)).setCell (p := ⟨w.heap.size, 2, none⟩) (Nat.le_refl _) (.int .i64 0)).setCell (p := ⟨w.heap.size, 3, none⟩) (Nat.le_refl _) (.int .i64 0)).setCell (p := ⟨w.heap.size, 4, none⟩) (Nat.le_refl _) (.int .i64 0)).setCell (p := ⟨w.heap.size, 5, none⟩) (Nat.le_refl _) (.int .i64 0)).setCell (p := ⟨w.heap.size, 6, none⟩) (Nat.le_refl _) (.string ⟨#[]⟩)).setCell (p := ⟨w.heap.size, 7, none⟩) (Nat.le_refl _) (.bool false))
    go_wp2_with fail
    refine bodyPost_ret (v := .tuple #[.agg #[.string ⟨#[]⟩, .int .i64 0, .int .i64 0, .int .i64 0, .int .i64 0, .int .i64 0, .string ⟨#[]⟩, .bool false], .int .i64 (ve)]) ?_ rfl ⟨by rw [ht.out]; rfl, D.out.below HZ.out hgl, grown_then_below G.out HZ.out⟩
    rw [results_cell_tmp rfl]
    go_simp
end Go.Proofs.Ytmchiebpijnpiaa
