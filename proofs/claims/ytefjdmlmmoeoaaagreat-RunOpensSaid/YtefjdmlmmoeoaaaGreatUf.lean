/- Layer 8: the versions of bytes, as they are read, by the project. -/
import Derived.Test.YtefjdmlmmoeoaaaGreatUe
import Derived.Test.YtefjdmlmmoeoaaaGreatTb
namespace Go.Proofs.YtefjdmlmmoeoaaaGreat
open Go.RowKit
set_option linter.unusedVariables false

theorem ba_full (a : ByteArray) : a.extract 0 a.size = a := by simp
theorem itT_nx (x : List UInt8 × Int) : itT x = nxT (stepN x.1 x.2).2.1 (stepN x.1 x.2).2.2 := rfl
theorem itR_nx (x : List UInt8 × Int) : itR x = nxR (stepN x.1 x.2).2.1 (stepN x.1 x.2).2.2 := rfl
theorem itV_nx (key : ByteArray) (x : List UInt8 × Int) : itV key x = { nxV (stepN x.1 x.2).2.1 (stepN x.1 x.2).2.2 with key := itK key x } := rfl

set_option maxHeartbeats 8000000 in
set_option maxRecDepth 100000 in
theorem blk_rows (w : World) (base g : Nat) (p : Value) (m : List UInt8) (h : RdR w base g p m 0) (hl : m.length ≤ 100000) :
    Calls Tryz.prog 47 #[p] w fun x w' => ∃ v', x = .returned v' ∧ OwnVr w' w.heap.size v' (if blkE m ≠ 0 then [] else (blkO m).take 8) ∧ (∃ q, RdR w' base g p q (blkE m)) ∧ w.grownBy w' (some g) := by
  generalize hres : (if blkE m ≠ 0 then ([] : List Ver) else (blkO m).take 8) = RES
  have HRES := Lib.hid hres
  clear hres
  have NU := Lib.hid (fun w q e (hq : q.length ≤ m.length) h => number_any w base g p q e h (by omega))
  have NX := Lib.hid (fun w q e (hq : q.length ≤ m.length) h => blk_next w base g p q e h (by omega))
  have NU0 := Lib.hid (fun w h => number_any w base g p m 0 h (by omega))
  have hbd := stepN_bd m 0
  have hE := Lib.hid (show blkE m = (bS (stepN m 0).2 (stepN m 0).1).2 from rfl)
  have hO := Lib.hid (show blkO m = bOut (stepN m 0).2 (stepN m 0).1 from rfl)
  have hsuf := (step_suf m 0).length_le
  have hzero : (stepN m 0).2.2 ≠ 0 → (stepN m 0).1 = 0 := fun hne => by
    have h0 := rdN_zero m
    unfold stepN at hne ⊢
    rw [if_neg (by simp)] at hne ⊢
    split
    · rfl
    · rename_i h1; rw [if_neg h1] at hne; exact absurd rfl hne
  have H := Lib.hid h
  have hgl := h.lt
  generalize blkE m = E at *
  generalize blkO m = OO at *
  generalize stepN m 0 = sn at *
  obtain ⟨n, x0⟩ := sn
  simp only at hE hO hbd NU0 hsuf hzero
  have hbd2 : (n : Int) ≤ 4611686018427387903 := by omega
  have HZERO := Lib.hid hzero
  have HSUF := Lib.hid hsuf
  clear h hbd hzero hsuf
  go_enter Tryz.func47, Tryz.ntmps47
  go_wp2_with fail
  refine (NU0.out _ H.out).mono ?_
  rintro z w2 ⟨rfl, hd, hg⟩
  have D := Lib.hid hd
  have G := Lib.hid hg
  have hsw := hg.size
  clear hd hg
  by_cases he : x0.2 = 0
  · go_wp2_with fail
    go_loopw [3, 4, 10] (fun x y i wr => ∃ (k : Nat), i = .int .i64 k ∧ k ≤ n ∧ (bS x0 k).2 = 0 ∧ y = .string (bKey x0 (min k 8)) ∧ OwnVr wr w2.heap.size x (bOut x0 (min k 8)) ∧ RdR wr base g p (bS x0 k).1 0 ∧ w2.grownBy wr (some g)) (fun _ _ i _ => n - (intOf i).toNat)
    case atStart => exact ⟨0, rfl, by omega, he, rfl, OwnX.nil _ _, by rw [← he]; exact D.out, World.grownBy.refl _ _⟩
    case round =>
      obtain ⟨k, rfl, hk, hz, rfl, ho, hd, hg⟩ := hrel
      have O := Lib.hid ho
      have DR := Lib.hid hd
      have GW := Lib.hid hg
      have HZ := Lib.hid hz
      clear ho hd hg hz
      by_cases hlt : k < n
      · have zlt : decide ((k : Int) < (n : Int)) = true := by simp; omega
        have hbl := bS_len x0 k
        have hles := bS_less k HZ.out
        have hsufk := (step_suf (bS x0 k).1 0).length_le
        have h1 := HSUF.out
        have hxy : bS x0 k = ((bS x0 k).1, 0) := Prod.ext rfl HZ.out
        have hS1 : bS x0 (k + 1) = (nxT (stepN (bS x0 k).1 0).2.1 (stepN (bS x0 k).1 0).2.2).2 := by
          show (itT (bS x0 k)).2 = _
          rw [itT_nx, HZ.out]
        have hV1 : ∀ key, itV key (bS x0 k) = { nxV (stepN (bS x0 k).1 0).2.1 (stepN (bS x0 k).1 0).2.2 with key := itK key (bS x0 k) } := fun key => by rw [itV_nx, HZ.out]
        have hK1 : ∀ key, itK key (bS x0 k) = key.extract 0 (min (stepN (bS x0 k).1 0).1 key.size) ++ ⟨(nxR (stepN (bS x0 k).1 0).2.1 (stepN (bS x0 k).1 0).2.2).1.toArray⟩ := fun key => by
          unfold itK itC
          rw [itR_nx, HZ.out]
        have hkv : (nxV (stepN (bS x0 k).1 0).2.1 (stepN (bS x0 k).1 0).2.2).key = ⟨(nxR (stepN (bS x0 k).1 0).2.1 (stepN (bS x0 k).1 0).2.2).1.toArray⟩ := rfl
        have hkl : (nxV (stepN (bS x0 k).1 0).2.1 (stepN (bS x0 k).1 0).2.2).key.size ≤ 100000 := by
          rw [hkv]
          have := stepT_len (stepN (bS x0 k).1 0).2.1 (stepN (bS x0 k).1 0).2.2 200
          show (stepT (stepN (bS x0 k).1 0).2.1 (stepN (bS x0 k).1 0).2.2 200).1.toArray.size ≤ 100000
          rw [List.size_toArray]; omega
        rw [← hkv] at hK1
        have hcb := stepN_bd (bS x0 k).1 0
        have NUK := Lib.hid (NU.out wr (bS x0 k).1 0 (by omega) DR.out)
        have NXK := Lib.hid (fun w h => NX.out w (stepN (bS x0 k).1 0).2.1 (stepN (bS x0 k).1 0).2.2 (by omega) h)
        rw [← hS1] at NXK
        have HS1 := Lib.hid hS1
        have HV1 := Lib.hid hV1
        have HK1 := Lib.hid hK1
        clear hxy hS1 hV1 hK1 hkv hsufk h1 hbl
        generalize nxV (stepN (bS x0 k).1 0).2.1 (stepN (bS x0 k).1 0).2.2 = xv at *
        clear HS1
        generalize stepN (bS x0 k).1 0 = sk at *
        obtain ⟨c, l1, e1⟩ := sk
        obtain ⟨kx, n0, n1, n2, ⟨x3, y3⟩, vx, g5⟩ := xv
        unfold verV at NXK
        simp only at NUK NXK HV1 HK1 hkl hcb
        have hE1 := Lib.hid (fun h : (bS x0 (k + 1)).2 ≠ 0 => bS_end h (show k + 1 ≤ n from hlt))
        generalize hsk1 : bS x0 (k + 1) = sk1 at *
        have HSK1 := Lib.hid hsk1
        clear hsk1
        obtain ⟨l3, e3⟩ := sk1
        simp only at NXK hE1
        have EX := Lib.hid (fun w h => err_any w base g p l3 e3 h)
        go_wp2_with fail
        refine NUK.out.mono ?_
        rintro z w3 ⟨rfl, hd3, hg3⟩
        have hnb := Lib.hid (show u3.ownBlock = none ∨ u3.ownBlock ≠ some g from by
          cases hb : u3.ownBlock with
          | none => exact .inl rfl
          | some b' => exact .inr (fun e2 => by injection e2 with e2; have := O.out.base b' hb; have := D.out.lt; omega))
        have O := Lib.hid (O.out.keep hg3 hnb.out)
        have GW := Lib.hid (GW.out.trans hg3)
        clear NUK
        go_wp2_with fail
        refine (NXK.out _ hd3).mono ?_
        rintro z w4 ⟨rfl, hd4, hg4⟩
        have O := Lib.hid (O.out.keep hg4 hnb.out)
        have GW := Lib.hid (GW.out.trans hg4)
        clear hd3 hg3 NXK hnb
        have hg7 := Lib.hid (show g < w4.heap.size ∧ w2.heap.size ≤ w4.heap.size from ⟨hd4.lt, GW.out.size⟩)
        have hnob := Lib.hid (show u3.ownBlock ≠ some w4.heap.size from fun e2 => by have := (O.out.lt _ e2).2; omega)
        have BX := Lib.hid (Box.new w4 #[.string kx, .int .i64 n0, .int .i64 n1, .int .i64 n2, .int .i64 x3, .int .i64 y3, .string vx, .bool g5] 55 _ rfl)
        have O := Lib.hid (O.out.on (alloc_below w4 (.cells #[.string kx, .int .i64 n0, .int .i64 n1, .int .i64 n2, .int .i64 x3, .int .i64 y3, .string vx, .bool g5] 55)))
        have DR := Lib.hid (hd4.on (alloc_below w4 (.cells #[.string kx, .int .i64 n0, .int .i64 n1, .int .i64 n2, .int .i64 x3, .int .i64 y3, .string vx, .bool g5] 55)))
        have GW := Lib.hid (GW.out.trans (grown_of_below (alloc_below w4 (.cells #[.string kx, .int .i64 n0, .int .i64 n1, .int .i64 n2, .int .i64 x3, .int .i64 y3, .string vx, .bool g5] 55))))
        clear hd4 hg4
        go_wp2_with fail
        generalize w4.heap.size = n7 at *
        generalize w4.alloc (.cells #[.string kx, .int .i64 n0, .int .i64 n1, .int .i64 n2, .int .i64 x3, .int .i64 y3, .string vx, .bool g5] 55) = w5 at *
        refine (EX.out _ DR.out).mono ?_
        rintro z _ ⟨rfl, rfl⟩
        by_cases he3 : e3 = 0
        · subst he3
          have HZ1 := Lib.hid (show (bS x0 (k + 1)).2 = 0 from by rw [HSK1.out])
          have DR := Lib.hid (show RdR w5 base g p (bS x0 (k + 1)).1 0 from by rw [HSK1.out]; exact DR.out)
          by_cases hk8 : k < 8
          · have z8 : decide ((k : Int) < 8) = true := by simp; omega
            have hm1 : min k 8 = k := by omega
            have hm2 : min (k + 1) 8 = k + 1 := by omega
            rw [hm1] at O
            have HKE := Lib.hid (show bKey x0 (k + 1) = (bKey x0 k).extract 0 (min c (bKey x0 k).size) ++ kx from HK1.out (bKey x0 k))
            have HOE := Lib.hid (show bOut x0 (k + 1) = bOut x0 k ++ [(⟨bKey x0 (k + 1), n0, n1, n2, (x3, y3), vx, g5⟩ : Ver)] from by
              rw [bOut, HV1.out]; rfl)
            have hbk := bKey_size x0 k
            have hksz : (bKey x0 k).size ≤ 100000 := by have := HSUF.out; omega
            rw [hm1]
            rw [HKE.out] at HOE
            have hle := bOut_len x0 k
            have hal1 := Lib.hid (show (bOut x0 k).length + 1 ≤ 1000000000 from by omega)
            generalize bKey x0 k = key at *
            generalize bOut x0 k = acc at *
            clear hbk hle hles
            have hlen : (key.extract 0 (min c key.size)).size + kx.size ≤ 1000000 := by rw [ByteArray.size_extract]; omega
            generalize hak : key.extract 0 (min c key.size) = ak at *
            have c0 := BX.out.cell 0 (.string kx) rfl
            have f0 := BX.out.frozen 0
            have hlen2 : ak.size + kx.size ≤ 1000000 := hlen
            rcases Nat.lt_or_ge key.size c with hcm | hcm
            case' inl =>
              have hmn : min c key.size = key.size := by omega
              have zm1 : decide ((c : Int) < (key.size : Int)) = false := by rw [decide_eq_false_iff_not]; omega
              have zm2 : decide ((key.size : Int) < (c : Int)) = true := by simp; omega
              have zm3 : decide ((c : Int) ≤ (key.size : Int)) = false := by rw [decide_eq_false_iff_not]; omega
              have zm4 : decide (c < key.size) = false := by rw [decide_eq_false_iff_not]; omega
              have zm5 : decide (key.size < c) = true := by simp; omega
            case' inr =>
              have hmn : min c key.size = c := by omega
              have zm0 : (c : Int) ≤ (key.size : Int) := by omega
            case inl =>
              rw [hmn, ba_full] at hak
              subst hak
              clear hlen hmn
              go_wp2_with fail
              go_region_with (fail)
              all_goals
                generalize hw9 : (w5.setCell ⟨n7, 0, none⟩ (.string (key ++ kx))).drew = W9
                have BZ := Lib.hid (show Box W9.drew n7 #[.string (key ++ kx), .int .i64 n0, .int .i64 n1, .int .i64 n2, .int .i64 x3, .int .i64 y3, .string vx, .bool g5] 55 from by rw [← hw9]; exact BX.out.set 0 (.string (key ++ kx)))
                have hno : Hid (u3.ownBlock ≠ some n7) := hnob
                have hgr : w5.grownBy (w5.setCell ⟨n7, 0, none⟩ (.string (key ++ kx))) (some n7) := grown_set w5 0 _
                have hd9 : Below (w5.setCell ⟨n7, 0, none⟩ (.string (key ++ kx))).heap.size (w5.setCell ⟨n7, 0, none⟩ (.string (key ++ kx))) W9.drew := by rw [← hw9]; exact ((Below.refl _ _).drewN 1).drewN 1
                have O := Lib.hid ((O.out.keep hgr (.inr hno.out)).on hd9)
                have DR := Lib.hid ((DR.out.below (below_set (g := n7) w5 0 (.string (key ++ kx))) hg7.out.1).on hd9)
                have GW := Lib.hid (grown_then_below (grown_then_below GW.out ((below_set (g := n7) w5 0 (.string (key ++ kx))).mono hg7.out.2)) (hd9.mono (by have := GW.out.size; simp [World.setCell]; omega)))
                have hsz := Lib.hid GW.out.size
                have HI : (fun W => Box W n7 #[.string (key ++ kx), .int .i64 n0, .int .i64 n1, .int .i64 n2, .int .i64 x3, .int .i64 y3, .string vx, .bool g5] 55) W9.drew := BZ.out
                clear hw9 hgr hd9 c0 f0
                go_wp2_with fail
                refine regk_start [] (fun W => Box W n7 #[.string (key ++ kx), .int .i64 n0, .int .i64 n1, .int .i64 n2, .int .i64 x3, .int .i64 y3, .string vx, .bool g5] 55) (by kernel_rfl) ?_
                refine regk_free 0 32 (v := ?_) (T' := ?_) (fun _ => HI) (by kernel_rfl) (by kernel_rfl) (by kernel_rfl) (by kernel_rfl) (fun _ _ _ h => h) (fun o ho => ?_) ?_ ?_
                rotate_left 2
                · cases ho
                  refine ⟨rfl, rfl, fun W => ?_⟩
                  go_simp; (try with_reducible rfl)
                · simp only [List.setIfInBounds_toArray, List.set_cons_succ, List.set_cons_zero]; exact rfl
                refine regk_take 1 33 (v := ?_) (T' := ?_) HI (by kernel_rfl) (by kernel_rfl) (by kernel_rfl) (by kernel_rfl) (by kernel_rfl) (by kernel_rfl) (fun _ _ _ h => h) (fun o ho => ?_) ?_ ?_
                rotate_left 2
                · cases ho
                  refine ⟨rfl, rfl, fun W hW => ?_⟩
                  have BW := (show Box W n7 #[.string (key ++ kx), .int .i64 n0, .int .i64 n1, .int .i64 n2, .int .i64 x3, .int .i64 y3, .string vx, .bool g5] 55 from hW)
                  have c0 := BW.cell 0 (.string (key ++ kx)) rfl
                  have c1 := BW.cell 1 (.int .i64 n0) rfl
                  have c2 := BW.cell 2 (.int .i64 n1) rfl
                  have c3 := BW.cell 3 (.int .i64 n2) rfl
                  have c4 := BW.cell 4 (.int .i64 x3) rfl
                  have c5 := BW.cell 5 (.int .i64 y3) rfl
                  have c6 := BW.cell 6 (.string vx) rfl
                  have c7 := BW.cell 7 (.bool g5) rfl
                  go_simp; (try with_reducible rfl)
                · simp only [List.setIfInBounds_toArray, List.set_cons_succ, List.set_cons_zero]; exact rfl
                refine regk_free 4 36 (v := ?_) (T' := ?_) (fun _ => HI) (by kernel_rfl) (by kernel_rfl) (by kernel_rfl) (by kernel_rfl) (fun _ _ _ h => h) (fun o ho => ?_) ?_ ?_
                rotate_left 2
                · cases ho
                  refine ⟨rfl, rfl, fun W => ?_⟩
                  go_simp; (try with_reducible rfl)
                · simp only [List.setIfInBounds_toArray, List.set_cons_succ, List.set_cons_zero]; exact rfl
                refine regk_take 5 37 (v := ?_) (T' := ?_) HI (by kernel_rfl) (by kernel_rfl) (by kernel_rfl) (by kernel_rfl) (by kernel_rfl) (by kernel_rfl) (fun _ _ _ h => h) (fun o ho => ?_) ?_ ?_
                rotate_left 2
                · cases ho
                  refine ⟨rfl, rfl, fun W hW => ?_⟩
                  have BW := (show Box W n7 #[.string (key ++ kx), .int .i64 n0, .int .i64 n1, .int .i64 n2, .int .i64 x3, .int .i64 y3, .string vx, .bool g5] 55 from hW)
                  have c0 := BW.cell 0 (.string (key ++ kx)) rfl
                  go_simp; (try with_reducible rfl)
                · simp only [List.setIfInBounds_toArray, List.set_cons_succ, List.set_cons_zero]; exact rfl
                refine regk_make (I' := (fun W => Box W n7 #[.string (key ++ kx), .int .i64 n0, .int .i64 n1, .int .i64 n2, .int .i64 x3, .int .i64 y3, .string vx, .bool g5] 55)) (fun _ h => h) 2 34 (v := .slice (some ⟨W9.drew.heap.size, 0, none⟩) 1 1) (w' := W9.drew.alloc (.cells #[.string (key ++ kx), .int .i64 n0, .int .i64 n1, .int .i64 n2, .int .i64 x3, .int .i64 y3, .string vx, .bool g5] 55)) (T' := ?_) (by kernel_rfl) (fun o ho => ?_) (fun _ => BZ.out.alloc _) ?_ ?_
                rotate_left
                · cases ho
                  refine ⟨rfl, rfl, ?_⟩
                  go_simp; (try (constructor <;> with_reducible rfl)); (try with_reducible rfl)
                · simp only [List.setIfInBounds_toArray, List.set_cons_succ, List.set_cons_zero]; exact rfl
                have B10 := Lib.hid (BZ.out.alloc (.cells #[.string (key ++ kx), .int .i64 n0, .int .i64 n1, .int .i64 n2, .int .i64 x3, .int .i64 y3, .string vx, .bool g5] 55))
                have O10 := Lib.hid (O.out.on (alloc_below W9.drew (.cells #[.string (key ++ kx), .int .i64 n0, .int .i64 n1, .int .i64 n2, .int .i64 x3, .int .i64 y3, .string vx, .bool g5] 55)))
                obtain ⟨v11, w11, hrun, ho11, hg11, hb11⟩ := appX_run (P := Tryz.prog) (L := verL) (W := W9.drew.alloc (.cells #[.string (key ++ kx), .int .i64 n0, .int .i64 n1, .int .i64 n2, .int .i64 x3, .int .i64 y3, .string vx, .bool g5] 55)) (g := W9.drew.heap.size) (c := 1) (m := 1) (ty := 27) (r := [(⟨key ++ kx, n0, n1, n2, (x3, y3), vx, g5⟩ : Ver)]) Tryz.underlying27 ver_info rfl O10.out (heap_alloc_new W9.drew _) rfl (Nat.le_trans hsz.out (alloc_below W9.drew _).size) hal1.out (by decide)
                have B11 := Lib.hid (B10.out.keep hg11.grown (fun e2 => hno.out e2.symm))
                refine regk_make (I' := (fun W => Box W n7 #[.string (key ++ kx), .int .i64 n0, .int .i64 n1, .int .i64 n2, .int .i64 x3, .int .i64 y3, .string vx, .bool g5] 55)) (fun _ h => h) 3 35 (v := v11) (w' := w11) (T' := ?_) (by kernel_rfl) (fun o ho => ?_) (fun _ => B11.out) ?_ ?_
                rotate_left
                · cases ho
                  exact ⟨rfl, rfl, exec_appK (.tmp 32) (.tmp 34) rfl rfl rfl hrun⟩
                · simp only [List.setIfInBounds_toArray, List.set_cons_succ, List.set_cons_zero]; exact rfl
                have HI : (fun W => Box W n7 #[.string (key ++ kx), .int .i64 n0, .int .i64 n1, .int .i64 n2, .int .i64 x3, .int .i64 y3, .string vx, .bool g5] 55) w11 := B11.out
                refine regk_free 6 3 (v := ?_) (T' := ?_) (fun _ => HI) (by kernel_rfl) (by kernel_rfl) (by kernel_rfl) (by kernel_rfl) (fun _ _ _ h => h) (fun o ho => ?_) ?_ ?_
                rotate_left 2
                · cases ho
                  refine ⟨rfl, rfl, fun W => ?_⟩
                  go_simp; (try with_reducible rfl)
                · simp only [List.setIfInBounds_toArray, List.set_cons_succ, List.set_cons_zero]; exact rfl
                refine regk_free 7 4 (v := ?_) (T' := ?_) (fun _ => HI) (by kernel_rfl) (by kernel_rfl) (by kernel_rfl) (by kernel_rfl) (fun _ _ _ h => h) (fun o ho => ?_) ?_ ?_
                rotate_left 2
                · cases ho
                  refine ⟨rfl, rfl, fun W => ?_⟩
                  go_simp; (try with_reducible rfl)
                · simp only [List.setIfInBounds_toArray, List.set_cons_succ, List.set_cons_zero]; exact rfl
                refine regk_done (by kernel_rfl) ?_
                have O := Lib.hid ho11
                have DR := Lib.hid (DR.out.below ((alloc_below W9.drew (.cells #[.string (key ++ kx), .int .i64 n0, .int .i64 n1, .int .i64 n2, .int .i64 x3, .int .i64 y3, .string vx, .bool g5] 55)).mono hsz.out |>.trans hb11) D.out.lt)
                have GW := Lib.hid (grown_then_below GW.out (((alloc_below W9.drew (.cells #[.string (key ++ kx), .int .i64 n0, .int .i64 n1, .int .i64 n2, .int .i64 x3, .int .i64 y3, .string vx, .bool g5] 55)).mono hsz.out).trans hb11))
                clear ho11 hg11 hb11
                go_wp2_with fail
                go_roundw
                case rel => exact ⟨k + 1, by go_num, by omega, HZ1.out, by rw [hm2, HKE.out], by rw [hm2, HOE.out]; exact O.out, DR.out, GW.out⟩
                case measure => simp [intOf]; omega
            case inr =>
              rw [hmn] at hak
              have HAK := Lib.hid hak
              clear hak hlen hmn
              go_wp2_with fail
              go_region_with (fail)
              all_goals
                rw [HAK.out]
                generalize hw9 : (w5.setCell ⟨n7, 0, none⟩ (.string (ak ++ kx))).drew = W9
                have BZ := Lib.hid (show Box W9.drew n7 #[.string (ak ++ kx), .int .i64 n0, .int .i64 n1, .int .i64 n2, .int .i64 x3, .int .i64 y3, .string vx, .bool g5] 55 from by rw [← hw9]; exact BX.out.set 0 (.string (ak ++ kx)))
                have hno : Hid (u3.ownBlock ≠ some n7) := hnob
                have hgr : w5.grownBy (w5.setCell ⟨n7, 0, none⟩ (.string (ak ++ kx))) (some n7) := grown_set w5 0 _
                have hd9 : Below (w5.setCell ⟨n7, 0, none⟩ (.string (ak ++ kx))).heap.size (w5.setCell ⟨n7, 0, none⟩ (.string (ak ++ kx))) W9.drew := by rw [← hw9]; exact ((Below.refl _ _).drewN 1).drewN 1
                have O := Lib.hid ((O.out.keep hgr (.inr hno.out)).on hd9)
                have DR := Lib.hid ((DR.out.below (below_set (g := n7) w5 0 (.string (ak ++ kx))) hg7.out.1).on hd9)
                have GW := Lib.hid (grown_then_below (grown_then_below GW.out ((below_set (g := n7) w5 0 (.string (ak ++ kx))).mono hg7.out.2)) (hd9.mono (by have := GW.out.size; simp [World.setCell]; omega)))
                have hsz := Lib.hid GW.out.size
                have HI : (fun W => Box W n7 #[.string (ak ++ kx), .int .i64 n0, .int .i64 n1, .int .i64 n2, .int .i64 x3, .int .i64 y3, .string vx, .bool g5] 55) W9.drew := BZ.out
                clear hw9 hgr hd9 c0 f0
                go_wp2_with fail
                refine regk_start [] (fun W => Box W n7 #[.string (ak ++ kx), .int .i64 n0, .int .i64 n1, .int .i64 n2, .int .i64 x3, .int .i64 y3, .string vx, .bool g5] 55) (by kernel_rfl) ?_
                refine regk_free 0 32 (v := ?_) (T' := ?_) (fun _ => HI) (by kernel_rfl) (by kernel_rfl) (by kernel_rfl) (by kernel_rfl) (fun _ _ _ h => h) (fun o ho => ?_) ?_ ?_
                rotate_left 2
                · cases ho
                  refine ⟨rfl, rfl, fun W => ?_⟩
                  go_simp; (try with_reducible rfl)
                · simp only [List.setIfInBounds_toArray, List.set_cons_succ, List.set_cons_zero]; exact rfl
                refine regk_take 1 33 (v := ?_) (T' := ?_) HI (by kernel_rfl) (by kernel_rfl) (by kernel_rfl) (by kernel_rfl) (by kernel_rfl) (by kernel_rfl) (fun _ _ _ h => h) (fun o ho => ?_) ?_ ?_
                rotate_left 2
                · cases ho
                  refine ⟨rfl, rfl, fun W hW => ?_⟩
                  have BW := (show Box W n7 #[.string (ak ++ kx), .int .i64 n0, .int .i64 n1, .int .i64 n2, .int .i64 x3, .int .i64 y3, .string vx, .bool g5] 55 from hW)
                  have c0 := BW.cell 0 (.string (ak ++ kx)) rfl
                  have c1 := BW.cell 1 (.int .i64 n0) rfl
                  have c2 := BW.cell 2 (.int .i64 n1) rfl
                  have c3 := BW.cell 3 (.int .i64 n2) rfl
                  have c4 := BW.cell 4 (.int .i64 x3) rfl
                  have c5 := BW.cell 5 (.int .i64 y3) rfl
                  have c6 := BW.cell 6 (.string vx) rfl
                  have c7 := BW.cell 7 (.bool g5) rfl
                  go_simp; (try with_reducible rfl)
                · simp only [List.setIfInBounds_toArray, List.set_cons_succ, List.set_cons_zero]; exact rfl
                refine regk_free 4 36 (v := ?_) (T' := ?_) (fun _ => HI) (by kernel_rfl) (by kernel_rfl) (by kernel_rfl) (by kernel_rfl) (fun _ _ _ h => h) (fun o ho => ?_) ?_ ?_
                rotate_left 2
                · cases ho
                  refine ⟨rfl, rfl, fun W => ?_⟩
                  go_simp; (try with_reducible rfl)
                · simp only [List.setIfInBounds_toArray, List.set_cons_succ, List.set_cons_zero]; exact rfl
                refine regk_take 5 37 (v := ?_) (T' := ?_) HI (by kernel_rfl) (by kernel_rfl) (by kernel_rfl) (by kernel_rfl) (by kernel_rfl) (by kernel_rfl) (fun _ _ _ h => h) (fun o ho => ?_) ?_ ?_
                rotate_left 2
                · cases ho
                  refine ⟨rfl, rfl, fun W hW => ?_⟩
                  have BW := (show Box W n7 #[.string (ak ++ kx), .int .i64 n0, .int .i64 n1, .int .i64 n2, .int .i64 x3, .int .i64 y3, .string vx, .bool g5] 55 from hW)
                  have c0 := BW.cell 0 (.string (ak ++ kx)) rfl
                  go_simp; (try with_reducible rfl)
                · simp only [List.setIfInBounds_toArray, List.set_cons_succ, List.set_cons_zero]; exact rfl
                refine regk_make (I' := (fun W => Box W n7 #[.string (ak ++ kx), .int .i64 n0, .int .i64 n1, .int .i64 n2, .int .i64 x3, .int .i64 y3, .string vx, .bool g5] 55)) (fun _ h => h) 2 34 (v := .slice (some ⟨W9.drew.heap.size, 0, none⟩) 1 1) (w' := W9.drew.alloc (.cells #[.string (ak ++ kx), .int .i64 n0, .int .i64 n1, .int .i64 n2, .int .i64 x3, .int .i64 y3, .string vx, .bool g5] 55)) (T' := ?_) (by kernel_rfl) (fun o ho => ?_) (fun _ => BZ.out.alloc _) ?_ ?_
                rotate_left
                · cases ho
                  refine ⟨rfl, rfl, ?_⟩
                  go_simp; (try (constructor <;> with_reducible rfl)); (try with_reducible rfl)
                · simp only [List.setIfInBounds_toArray, List.set_cons_succ, List.set_cons_zero]; exact rfl
                have B10 := Lib.hid (BZ.out.alloc (.cells #[.string (ak ++ kx), .int .i64 n0, .int .i64 n1, .int .i64 n2, .int .i64 x3, .int .i64 y3, .string vx, .bool g5] 55))
                have O10 := Lib.hid (O.out.on (alloc_below W9.drew (.cells #[.string (ak ++ kx), .int .i64 n0, .int .i64 n1, .int .i64 n2, .int .i64 x3, .int .i64 y3, .string vx, .bool g5] 55)))
                obtain ⟨v11, w11, hrun, ho11, hg11, hb11⟩ := appX_run (P := Tryz.prog) (L := verL) (W := W9.drew.alloc (.cells #[.string (ak ++ kx), .int .i64 n0, .int .i64 n1, .int .i64 n2, .int .i64 x3, .int .i64 y3, .string vx, .bool g5] 55)) (g := W9.drew.heap.size) (c := 1) (m := 1) (ty := 27) (r := [(⟨ak ++ kx, n0, n1, n2, (x3, y3), vx, g5⟩ : Ver)]) Tryz.underlying27 ver_info rfl O10.out (heap_alloc_new W9.drew _) rfl (Nat.le_trans hsz.out (alloc_below W9.drew _).size) hal1.out (by decide)
                have B11 := Lib.hid (B10.out.keep hg11.grown (fun e2 => hno.out e2.symm))
                refine regk_make (I' := (fun W => Box W n7 #[.string (ak ++ kx), .int .i64 n0, .int .i64 n1, .int .i64 n2, .int .i64 x3, .int .i64 y3, .string vx, .bool g5] 55)) (fun _ h => h) 3 35 (v := v11) (w' := w11) (T' := ?_) (by kernel_rfl) (fun o ho => ?_) (fun _ => B11.out) ?_ ?_
                rotate_left
                · cases ho
                  exact ⟨rfl, rfl, exec_appK (.tmp 32) (.tmp 34) rfl rfl rfl hrun⟩
                · simp only [List.setIfInBounds_toArray, List.set_cons_succ, List.set_cons_zero]; exact rfl
                have HI : (fun W => Box W n7 #[.string (ak ++ kx), .int .i64 n0, .int .i64 n1, .int .i64 n2, .int .i64 x3, .int .i64 y3, .string vx, .bool g5] 55) w11 := B11.out
                refine regk_free 6 3 (v := ?_) (T' := ?_) (fun _ => HI) (by kernel_rfl) (by kernel_rfl) (by kernel_rfl) (by kernel_rfl) (fun _ _ _ h => h) (fun o ho => ?_) ?_ ?_
                rotate_left 2
                · cases ho
                  refine ⟨rfl, rfl, fun W => ?_⟩
                  go_simp; (try with_reducible rfl)
                · simp only [List.setIfInBounds_toArray, List.set_cons_succ, List.set_cons_zero]; exact rfl
                refine regk_free 7 4 (v := ?_) (T' := ?_) (fun _ => HI) (by kernel_rfl) (by kernel_rfl) (by kernel_rfl) (by kernel_rfl) (fun _ _ _ h => h) (fun o ho => ?_) ?_ ?_
                rotate_left 2
                · cases ho
                  refine ⟨rfl, rfl, fun W => ?_⟩
                  go_simp; (try with_reducible rfl)
                · simp only [List.setIfInBounds_toArray, List.set_cons_succ, List.set_cons_zero]; exact rfl
                refine regk_done (by kernel_rfl) ?_
                have O := Lib.hid ho11
                have DR := Lib.hid (DR.out.below ((alloc_below W9.drew (.cells #[.string (ak ++ kx), .int .i64 n0, .int .i64 n1, .int .i64 n2, .int .i64 x3, .int .i64 y3, .string vx, .bool g5] 55)).mono hsz.out |>.trans hb11) D.out.lt)
                have GW := Lib.hid (grown_then_below GW.out (((alloc_below W9.drew (.cells #[.string (ak ++ kx), .int .i64 n0, .int .i64 n1, .int .i64 n2, .int .i64 x3, .int .i64 y3, .string vx, .bool g5] 55)).mono hsz.out).trans hb11))
                clear ho11 hg11 hb11
                go_wp2_with fail
                go_roundw
                case rel => exact ⟨k + 1, by go_num, by omega, HZ1.out, by rw [hm2, HKE.out], by rw [hm2, HOE.out]; exact O.out, DR.out, GW.out⟩
                case measure => simp [intOf]; omega
          · have hm1 : min (k + 1) 8 = min k 8 := by omega
            have z8 : decide ((k : Int) < 8) = false := by rw [decide_eq_false_iff_not]; omega
            go_wp2_with fail
            go_roundw
            case rel => exact ⟨k + 1, by go_num, by omega, HZ1.out, by rw [hm1], by rw [hm1]; exact O.out, DR.out, GW.out⟩
            case measure => simp [intOf]; omega
        · have hne : (e3 != 0) = true := by simpa [bne] using he3
          have hEE := Lib.hid (show E = e3 from by rw [hE.out]; exact hE1.out he3)
          go_wp2_with fail
          go_ret
          exact ⟨.slice none 0 0, rfl, by rw [← HRES.out, if_pos (by rw [hEE.out]; exact he3)]; exact OwnX.nil _ _, ⟨l3, by rw [hEE.out]; exact DR.out⟩, G.out.trans GW.out⟩
      · have hkn : k = n := by omega
        subst hkn
        have zk : decide ((k : Int) < (k : Int)) = false := by simp
        have hEE := Lib.hid (show E = 0 from by rw [hE.out]; exact HZ.out)
        have hOO := Lib.hid (show OO.take 8 = bOut x0 (min k 8) from by
          rw [hO.out]
          rcases Nat.lt_or_ge k 8 with h | h
          · rw [List.take_of_length_le (by rw [bOut_len]; omega), Nat.min_eq_left (by omega)]
          · rw [Nat.min_eq_right h, bOut_take h])
        go_wp2_with fail
        go_ret
        exact ⟨_, rfl, by rw [← HRES.out, if_neg (by simp [hEE.out]), hOO.out]; exact OwnX.mono O.out hsw, ⟨_, by rw [hEE.out]; exact DR.out⟩, G.out.trans GW.out⟩
  · have hn0 := HZERO.out he
    subst hn0
    have hEE := Lib.hid (show E = x0.2 from hE.out)
    go_wp2_with fail
    go_loopw [3, 10] (fun x i wr => x = .slice none 0 0 ∧ i = .int .i64 0 ∧ wr = w2) (fun _ _ _ => 0)
    case atStart => exact ⟨rfl, rfl, rfl⟩
    case round =>
      obtain ⟨rfl, rfl, rfl⟩ := hrel
      go_wp2_with fail
      go_ret
      exact ⟨_, rfl, by rw [← HRES.out, if_pos (by rw [hEE.out]; exact he)]; exact OwnX.nil _ _, ⟨_, by rw [hEE.out]; exact D.out⟩, G.out⟩
end Go.Proofs.YtefjdmlmmoeoaaaGreat
