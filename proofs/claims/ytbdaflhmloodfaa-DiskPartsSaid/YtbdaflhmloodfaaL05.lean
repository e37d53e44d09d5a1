/- DiskParts: what is read of a file in parts is what is read at once: any bytes (the first 30), appended in two parts, any place. No conditions. -/
import Derived.Test.YtbdaflhmloodfaaIr
import Derived.Test.YtbdaflhmloodfaaBregk
namespace Go.Proofs.Ytbdaflhmloodfaa.L05
open Go.RowKit Go.ChangeShapes Go.WideShapes Go.ChangeAt
set_option linter.unusedVariables false

theorem ext_list (b : ByteArray) (i j : Nat) : (b.extract i j).data.toList = (b.data.toList.drop i).take (j - i) := by
  rw [ByteArray.data_extract, Array.toList_extract, List.extract_eq_take_drop]
theorem parts_join (b : ByteArray) (k : Nat) (h : k ≤ b.size) : (⟨#[]⟩ : ByteArray) ++ b.extract 0 k ++ b.extract k b.size = b := by
  rw [empty_app]
  refine name_inj ?_
  rw [ByteArray.data_append, Array.toList_append, ext_list, ext_list]
  have hl : b.data.toList.length = b.size := by simp
  rw [List.drop_zero, Nat.sub_zero, List.take_of_length_le (l := b.data.toList.drop k) (by rw [List.length_drop]; omega), List.take_append_drop]
theorem readF_head (b : ByteArray) (k : Nat) (h : k ≤ b.size) : readF b 0 k = b.extract 0 k := by
  unfold readF
  split
  · refine name_inj ?_
    rw [ext_list]
    have hl : b.data.toList.length = b.size := by simp
    have h0 : b.data.toList = [] := List.eq_nil_of_length_eq_zero (by omega)
    rw [h0]; simp
  · have hif : (if (b.size : Int) - 0 < (k : Int) then (b.size : Int) - 0 else (k : Int)) = (k : Int) := by split <;> omega
    rw [hif, show ((0 : Int)).toNat = 0 from rfl, show ((0 : Int) + (k : Int)).toNat = k from by omega]
theorem readF_tail (b : ByteArray) (k : Nat) (h : k ≤ b.size) (n : Int) (hn : (b.size : Int) ≤ n) : readF b k n = b.extract k b.size := by
  unfold readF
  split
  · refine name_inj ?_
    rw [ext_list]
    have hl : b.data.toList.length = b.size := by simp
    rw [show b.size - k = 0 from by omega]; simp
  · have hif : (if (b.size : Int) - (k : Int) < n then (b.size : Int) - (k : Int) else n) = (b.size : Int) - k := by split <;> omega
    rw [hif, show ((k : Int)).toNat = k from by omega, show ((k : Int) + ((b.size : Int) - (k : Int))).toNat = b.size from by omega]
def atK (x : Int) (n : Nat) : Int := (if x < 0 then -(x + 1) else x) % ((n : Int) + 1)

set_option maxHeartbeats 8000000 in
set_option maxRecDepth 100000 in
theorem rest (s : ByteArray) (x : Int) (w : World) (hx0 : -9223372036854775808 ≤ x ∧ x ≤ 9223372036854775807) (k : Nat) (hkz : (k : Int) = atK x (fewS s).size) :
    Calls Try.prog 7 #[.string s, .int .i64 x] w fun e w' => e = .returned (.bool true) ∧ Below w.heap.size w w' := by
  obtain ⟨S, hS⟩ : ∃ S : Nat → Prop, S = fun i => w.heap.size ≤ i := ⟨_, rfl⟩
  have HSI := Lib.hid (show ∀ i, w.heap.size ≤ i → S i from fun i h => by rw [hS]; exact h)
  have HSB := Lib.hid (show ∀ i, S i → w.heap.size ≤ i from fun i h => by rw [hS] at h; exact h)
  clear hS
  have hfs := fewS_size s
  have FW := Lib.hid (fun W => few7 s W)
  generalize fewS s = dt at *
  have hks : (k : Int) ≤ (dt.size : Int) := by
    rw [hkz]; unfold atK
    have := Int.emod_lt_of_pos (if x < 0 then -(x + 1) else x) (show (0 : Int) < (dt.size : Int) + 1 from by omega)
    omega
  have HNB := Lib.hid (show nameB exA.data.toList = true from by decide)
  have HKZ := Lib.hid hkz
  clear hkz
  obtain ⟨p1, hp1⟩ : ∃ p1, p1 = dt.extract 0 k := ⟨_, rfl⟩
  obtain ⟨p2, hp2⟩ : ∃ p2, p2 = dt.extract k dt.size := ⟨_, rfl⟩
  have hsl1 : ∀ W, (Instr.slice 9 (.string dt) none (some (.int .i64 (k : Int))) none).run Try.prog W = .ok (.string p1) W := fun W => by
    have h0 : 0 ≤ (k : Int) := by omega
    have h1 : (k : Int) ≤ (dt.size : Int) := by omega
    rw [hp1]
    go_simp
  have hsl2 : ∀ W, (Instr.slice 9 (.string dt) (some (.int .i64 (k : Int))) none none).run Try.prog W = .ok (.string p2) W := fun W => by
    have h0 : 0 ≤ (k : Int) := by omega
    have h1 : (k : Int) ≤ (dt.size : Int) := by omega
    rw [hp2]
    go_simp
  have hps : p1.size = k ∧ p2.size = dt.size - k := by rw [hp1, hp2, ByteArray.size_extract, ByteArray.size_extract]; omega
  have HPS := Lib.hid hps
  have HJ := Lib.hid (show (⟨#[]⟩ : ByteArray) ++ p1 ++ p2 = dt from by rw [hp1, hp2]; exact parts_join dt k (by omega))
  have HR1 := Lib.hid (show readF dt 0 k = p1 from by rw [hp1]; exact readF_head dt k (by omega))
  have HR2 := Lib.hid (show readF dt k 1000 = p2 from by rw [hp2]; exact readF_tail dt k (by omega) 1000 (by omega))
  have HR3 := Lib.hid (show readF dt 0 1000 = dt from readF_all dt 1000 (by omega))
  clear hps hp1 hp2
  have hw0 : IntKind.i64.wrap ((dt.size : Int) + 1) = (dt.size : Int) + 1 := by rw [IntKind.wrap_i64]; omega
  have hv0 : wrap64 ((dt.size : Int) + 1) = (dt.size : Int) + 1 := by unfold wrap64; omega
  have hm0 : ((dt.size : Int) + 1 == 0) = false := by rw [beq_eq_false_iff_ne]; omega
  by_cases hneg : x < 0
  · have hz2 : (-(x + 1)) % ((dt.size : Int) + 1) = (k : Int) := by rw [HKZ.out]; unfold atK; rw [if_pos hneg]
    have hw1 : IntKind.i64.wrap (x + 1) = x + 1 := by rw [IntKind.wrap_i64]; omega
    have hv1 : wrap64 (x + 1) = x + 1 := by unfold wrap64; omega
    have hw2 : IntKind.i64.wrap (-(x + 1)) = -(x + 1) := by rw [IntKind.wrap_i64]; omega
    have hv2 : wrap64 (-(x + 1)) = -(x + 1) := by unfold wrap64; omega
    have hrm : Int.tmod (-(x + 1)) ((dt.size : Int) + 1) = (k : Int) := by rw [← hz2]; exact Int.tmod_eq_emod_of_nonneg (by omega)
    have hrm2 : -Int.tmod (x + 1) ((dt.size : Int) + 1) = (k : Int) := by rw [← hrm]; exact (Int.neg_tmod ..).symm
    go_enter Try.func7, Try.ntmps7
    go_wp2_with fail
    refine (p_new w 1000 S ⟨by omega, by omega⟩ HSI.out).mono ?_
    rintro e w1 ⟨g, rfl, hg, hm1, hb1⟩
    have M1 := Lib.hid hm1
    have G1 := Lib.hid hb1
    clear hm1 hb1 hg
    go_wp2_with fail
    refine (FW.out _).mono ?_
    rintro e w1' ⟨rfl, rfl⟩
    go_wp2_with fail
    clear hz2 hw1 hv1 hw2 hv2 hrm hrm2 hw0 hv0 hm0
    have h2 := p_create M1.out (ok_new ⟨by omega, by omega⟩) (fun i hi => HSI.out i (Nat.le_trans G1.out.size hi)) exA (by decide)
    rw [create_first exA 1000 HNB.out] at h2
    refine h2.mono ?_
    clear h2
    rintro e w2 ⟨rfl, hm2, hk2⟩
    have M2 := Lib.hid hm2
    have G2 := Lib.hid (G1.out.trans (hk2.under G1.out.size HSB.out))
    clear hm2 hk2
    obtain ⟨UA, uc, w3, hcv1, hur, hub, -⟩ := str_bytes p1 w2 (by have := HPS.out; omega)
    have UR := Lib.hid hur
    have UB := Lib.hid hub
    have G3 := Lib.hid (G2.out.trans (hub.mono G2.out.size))
    clear hur hub
    have h3 := p_append (M2.out.on UB.out) (ok_one ⟨by omega, by simp⟩ (by decide) ⟨by omega, by omega⟩) (fun i hi => HSI.out i (Nat.le_trans G3.out.size hi)) exA p1 (by decide) (by have := HPS.out; omega) _ UR.out
    rw [append_one exA ⟨#[]⟩ p1 0 1000 (by have := HPS.out; have hz : (⟨#[]⟩ : ByteArray).size = 0 := rfl; omega)] at h3
    have H3 := Lib.hid h3
    clear h3
    go_wp2_with fail
    refine H3.out.mono ?_
    rintro e w4 ⟨rfl, hm4, hk4⟩
    have M4 := Lib.hid hm4
    have G4 := Lib.hid (G3.out.trans (hk4.under G3.out.size HSB.out))
    clear hm4 hk4 hcv1
    obtain ⟨UA2, uc2, w5, hcv2, hur2, hub2, -⟩ := str_bytes p2 w4 (by have := HPS.out; omega)
    have UR2 := Lib.hid hur2
    have UB2 := Lib.hid hub2
    have G5 := Lib.hid (G4.out.trans (hub2.mono G4.out.size))
    clear hur2 hub2
    have hz1 : ((⟨#[]⟩ : ByteArray) ++ p1).size = k := by rw [empty_app]; exact HPS.out.1
    have h5 := p_append (M4.out.on UB2.out) (ok_one ⟨by omega, by omega⟩ (by omega) ⟨by omega, by omega⟩) (fun i hi => HSI.out i (Nat.le_trans G5.out.size hi)) exA p2 (by decide) (by have := HPS.out; omega) _ UR2.out
    rw [append_one exA _ p2 0 1000 (by have := HPS.out; omega), HJ.out] at h5
    have H5 := Lib.hid h5
    clear h5 hz1
    go_wp2_with fail
    refine H5.out.mono ?_
    rintro e w6 ⟨rfl, hm6, hk6⟩
    have M6 := Lib.hid hm6
    have G6 := Lib.hid (G5.out.trans (hk6.under G5.out.size HSB.out))
    have OK6 := Lib.hid (show OkD (oneD exA dt 0 1000) from ok_one ⟨by omega, by omega⟩ (by omega) ⟨by omega, by omega⟩)
    clear hm6 hk6 hcv2
    have r1 := p_read M6.out exA 0 k (by decide) OK6.out (by omega) (by omega)
    rw [read_one exA dt 0 1000 0 k ⟨by omega, by omega⟩, HR1.out] at r1
    have RR1 := Lib.hid r1
    clear r1
    go_wp2_with fail
    refine RR1.out.mono ?_
    rintro e w7 ⟨v1, rfl, ho1, hb7⟩
    have O1 := Lib.hid ho1
    have M7 := Lib.hid (M6.out.on hb7)
    have G7 := Lib.hid (G6.out.trans (hb7.mono G6.out.size))
    clear ho1 hb7
    have r2 := p_read M7.out exA k 1000 (by decide) OK6.out (by omega) (by omega)
    rw [read_one exA dt 0 1000 k 1000 ⟨by omega, by omega⟩, HR2.out] at r2
    have RR2 := Lib.hid r2
    clear r2
    go_wp2_with fail
    refine RR2.out.mono ?_
    rintro e w7b ⟨v2, rfl, ho2, hb8⟩
    have O2 := Lib.hid ho2
    have O1 := Lib.hid (O1.out.on hb8)
    have M8 := Lib.hid (M7.out.on hb8)
    have G7b := Lib.hid (G7.out.trans (hb8.mono G7.out.size))
    clear ho2 hb8
    have r3 := p_read M8.out exA 0 1000 (by decide) OK6.out (by omega) (by omega)
    rw [read_one exA dt 0 1000 0 1000 ⟨by omega, by omega⟩, HR3.out] at r3
    have RR3 := Lib.hid r3
    clear r3
    go_wp2_with fail
    refine RR3.out.mono ?_
    rintro e w8 ⟨v3, rfl, ho3, hb9⟩
    have hc1 : (convert 38 9 v1).run Try.prog w8.drew = .ok (.string p1) w8.drew := OwnB.str (show OwnB w8.drew _ _ _ from O1.out.on hb9.drew)
    have hc2 : (convert 38 9 v2).run Try.prog w8.drew = .ok (.string p2) w8.drew := OwnB.str (show OwnB w8.drew _ _ _ from O2.out.on hb9.drew)
    have hc3 : (convert 38 9 v3).run Try.prog w8.drew = .ok (.string dt) w8.drew := OwnB.str (show OwnB w8.drew _ _ _ from ho3)
    have G8 := Lib.hid (G7b.out.trans (hb9.mono G7b.out.size))
    clear ho3 hb9
    go_wp2_with fail
    have HI : (fun W => W = w8.drew) w8.drew := rfl
    refine regk_start [33] (fun W => W = w8.drew) (by kernel_rfl) ?_
    refine regk_free 0 60 (v := ?_) (T' := ?_) (fun _ => HI) (by kernel_rfl) (by kernel_rfl) (by kernel_rfl) (by kernel_rfl) (fun _ _ _ h => h) (fun o ho => ?_) ?_ ?_
    rotate_left 2
    · cases ho
      refine ⟨rfl, rfl, fun W => ?_⟩
      go_simp; (try with_reducible rfl)
    · simp only [List.setIfInBounds_toArray, List.set_cons_succ, List.set_cons_zero]; exact rfl
    refine regk_free 1 61 (v := ?_) (T' := ?_) (fun _ => HI) (by kernel_rfl) (by kernel_rfl) (by kernel_rfl) (by kernel_rfl) (fun _ _ _ h => h) (fun o ho => ?_) ?_ ?_
    rotate_left 2
    · cases ho
      refine ⟨rfl, rfl, fun W => ?_⟩
      go_simp; (try with_reducible rfl)
    · simp only [List.setIfInBounds_toArray, List.set_cons_succ, List.set_cons_zero]; exact rfl
    refine regk_free 2 62 (v := ?_) (T' := ?_) (fun _ => HI) (by kernel_rfl) (by kernel_rfl) (by kernel_rfl) (by kernel_rfl) (fun _ _ _ h => h) (fun o ho => ?_) ?_ ?_
    rotate_left 2
    · cases ho
      refine ⟨rfl, rfl, fun W => ?_⟩
      go_simp; (try with_reducible rfl)
    · simp only [List.setIfInBounds_toArray, List.set_cons_succ, List.set_cons_zero]; exact rfl
    refine regk_free 3 63 (v := ?_) (T' := ?_) (fun _ => HI) (by kernel_rfl) (by kernel_rfl) (by kernel_rfl) (by kernel_rfl) (fun _ _ _ h => h) (fun o ho => ?_) ?_ ?_
    rotate_left 2
    · cases ho
      refine ⟨rfl, rfl, fun W => ?_⟩
      go_simp; (try with_reducible rfl)
    · simp only [List.setIfInBounds_toArray, List.set_cons_succ, List.set_cons_zero]; exact rfl
    refine regk_free 4 64 (v := ?_) (T' := ?_) (fun _ => HI) (by kernel_rfl) (by kernel_rfl) (by kernel_rfl) (by kernel_rfl) (fun _ _ _ h => h) (fun o ho => ?_) ?_ ?_
    rotate_left 2
    · cases ho
      refine ⟨rfl, rfl, fun W => ?_⟩
      go_simp; (try with_reducible rfl)
    · simp only [List.setIfInBounds_toArray, List.set_cons_succ, List.set_cons_zero]; exact rfl
    refine regk_free 5 65 (v := ?_) (T' := ?_) (fun _ => HI) (by kernel_rfl) (by kernel_rfl) (by kernel_rfl) (by kernel_rfl) (fun _ _ _ h => h) (fun o ho => ?_) ?_ ?_
    rotate_left 2
    · cases ho
      refine ⟨rfl, rfl, fun W => ?_⟩
      go_simp; (try with_reducible rfl)
    · simp only [List.setIfInBounds_toArray, List.set_cons_succ, List.set_cons_zero]; exact rfl
    refine regk_free 6 66 (v := ?_) (T' := ?_) (fun _ => HI) (by kernel_rfl) (by kernel_rfl) (by kernel_rfl) (by kernel_rfl) (fun _ _ _ h => h) (fun o ho => ?_) ?_ ?_
    rotate_left 2
    · cases ho
      refine ⟨rfl, rfl, fun W => ?_⟩
      go_simp; (try with_reducible rfl)
    · simp only [List.setIfInBounds_toArray, List.set_cons_succ, List.set_cons_zero]; exact rfl
    refine regk_free 7 67 (v := ?_) (T' := ?_) (fun _ => HI) (by kernel_rfl) (by kernel_rfl) (by kernel_rfl) (by kernel_rfl) (fun _ _ _ h => h) (fun o ho => ?_) ?_ ?_
    rotate_left 2
    · cases ho
      refine ⟨rfl, rfl, fun W => ?_⟩
      go_simp; (try with_reducible rfl)
    · simp only [List.setIfInBounds_toArray, List.set_cons_succ, List.set_cons_zero]; exact rfl
    refine regk_free 8 68 (v := ?_) (T' := ?_) (fun _ => HI) (by kernel_rfl) (by kernel_rfl) (by kernel_rfl) (by kernel_rfl) (fun _ _ _ h => h) (fun o ho => ?_) ?_ ?_
    rotate_left 2
    · cases ho
      refine ⟨rfl, rfl, fun W => ?_⟩
      go_simp; (try with_reducible rfl)
    · simp only [List.setIfInBounds_toArray, List.set_cons_succ, List.set_cons_zero]; exact rfl
    refine regk_free 9 69 (v := ?_) (T' := ?_) (fun _ => HI) (by kernel_rfl) (by kernel_rfl) (by kernel_rfl) (by kernel_rfl) (fun _ _ _ h => h) (fun o ho => ?_) ?_ ?_
    rotate_left 2
    · cases ho
      refine ⟨rfl, rfl, fun W => ?_⟩
      go_simp; (try with_reducible rfl)
    · simp only [List.setIfInBounds_toArray, List.set_cons_succ, List.set_cons_zero]; exact rfl
    refine regk_free 10 70 (v := ?_) (T' := ?_) (fun _ => HI) (by kernel_rfl) (by kernel_rfl) (by kernel_rfl) (by kernel_rfl) (fun _ _ _ h => h) (fun o ho => ?_) ?_ ?_
    rotate_left 2
    · cases ho
      refine ⟨rfl, rfl, fun W => ?_⟩
      go_simp; (try with_reducible rfl)
    · simp only [List.setIfInBounds_toArray, List.set_cons_succ, List.set_cons_zero]; exact rfl
    refine regk_free 11 71 (v := ?_) (T' := ?_) (fun _ => HI) (by kernel_rfl) (by kernel_rfl) (by kernel_rfl) (by kernel_rfl) (fun _ _ _ h => h) (fun o ho => ?_) ?_ ?_
    rotate_left 2
    · cases ho
      refine ⟨rfl, rfl, fun W => ?_⟩
      go_simp; (try with_reducible rfl)
    · simp only [List.setIfInBounds_toArray, List.set_cons_succ, List.set_cons_zero]; exact rfl
    refine regk_take 12 72 (v := ?_) (T' := ?_) HI (by kernel_rfl) (by kernel_rfl) (by kernel_rfl) (by kernel_rfl) (by kernel_rfl) (by kernel_rfl) (fun _ _ _ h => h) (fun o ho => ?_) ?_ ?_
    rotate_left 2
    · cases ho
      refine ⟨rfl, rfl, fun W hW => ?_⟩
      have hW := (show W = _ from hW); subst hW; go_simp; (try with_reducible rfl)
    · simp only [List.setIfInBounds_toArray, List.set_cons_succ, List.set_cons_zero]; exact rfl
    refine regk_free 13 73 (v := ?_) (T' := ?_) (fun _ => HI) (by kernel_rfl) (by kernel_rfl) (by kernel_rfl) (by kernel_rfl) (fun _ _ _ h => h) (fun o ho => ?_) ?_ ?_
    rotate_left 2
    · cases ho
      refine ⟨rfl, rfl, fun W => ?_⟩
      go_simp; (try with_reducible rfl)
    · simp only [List.setIfInBounds_toArray, List.set_cons_succ, List.set_cons_zero]; exact rfl
    refine regk_free 14 74 (v := ?_) (T' := ?_) (fun _ => HI) (by kernel_rfl) (by kernel_rfl) (by kernel_rfl) (by kernel_rfl) (fun _ _ _ h => h) (fun o ho => ?_) ?_ ?_
    rotate_left 2
    · cases ho
      refine ⟨rfl, rfl, fun W => ?_⟩
      go_simp; (try with_reducible rfl)
    · simp only [List.setIfInBounds_toArray, List.set_cons_succ, List.set_cons_zero]; exact rfl
    refine regk_free 15 75 (v := ?_) (T' := ?_) (fun _ => HI) (by kernel_rfl) (by kernel_rfl) (by kernel_rfl) (by kernel_rfl) (fun _ _ _ h => h) (fun o ho => ?_) ?_ ?_
    rotate_left 2
    · cases ho
      refine ⟨rfl, rfl, fun W => ?_⟩
      go_simp; (try with_reducible rfl)
    · simp only [List.setIfInBounds_toArray, List.set_cons_succ, List.set_cons_zero]; exact rfl
    refine regk_free 16 76 (v := ?_) (T' := ?_) (fun _ => HI) (by kernel_rfl) (by kernel_rfl) (by kernel_rfl) (by kernel_rfl) (fun _ _ _ h => h) (fun o ho => ?_) ?_ ?_
    rotate_left 2
    · cases ho
      refine ⟨rfl, rfl, fun W => ?_⟩
      go_simp; (try with_reducible rfl)
    · simp only [List.setIfInBounds_toArray, List.set_cons_succ, List.set_cons_zero]; exact rfl
    refine regk_free 17 77 (v := ?_) (T' := ?_) (fun _ => HI) (by kernel_rfl) (by kernel_rfl) (by kernel_rfl) (by kernel_rfl) (fun _ _ _ h => h) (fun o ho => ?_) ?_ ?_
    rotate_left 2
    · cases ho
      refine ⟨rfl, rfl, fun W => ?_⟩
      go_simp; (try with_reducible rfl)
    · simp only [List.setIfInBounds_toArray, List.set_cons_succ, List.set_cons_zero]; exact rfl
    refine regk_free 18 78 (v := ?_) (T' := ?_) (fun _ => HI) (by kernel_rfl) (by kernel_rfl) (by kernel_rfl) (by kernel_rfl) (fun _ _ _ h => h) (fun o ho => ?_) ?_ ?_
    rotate_left 2
    · cases ho
      refine ⟨rfl, rfl, fun W => ?_⟩
      go_simp; (try with_reducible rfl)
    · simp only [List.setIfInBounds_toArray, List.set_cons_succ, List.set_cons_zero]; exact rfl
    refine regk_free 19 79 (v := ?_) (T' := ?_) (fun _ => HI) (by kernel_rfl) (by kernel_rfl) (by kernel_rfl) (by kernel_rfl) (fun _ _ _ h => h) (fun o ho => ?_) ?_ ?_
    rotate_left 2
    · cases ho
      refine ⟨rfl, rfl, fun W => ?_⟩
      go_simp; (try with_reducible rfl)
    · simp only [List.setIfInBounds_toArray, List.set_cons_succ, List.set_cons_zero]; exact rfl
    refine regk_take 20 80 (v := ?_) (T' := ?_) HI (by kernel_rfl) (by kernel_rfl) (by kernel_rfl) (by kernel_rfl) (by kernel_rfl) (by kernel_rfl) (fun _ _ _ h => h) (fun o ho => ?_) ?_ ?_
    rotate_left 2
    · cases ho
      refine ⟨rfl, rfl, fun W hW => ?_⟩
      have hW := (show W = _ from hW); subst hW; go_simp; (try with_reducible rfl)
    · simp only [List.setIfInBounds_toArray, List.set_cons_succ, List.set_cons_zero]; exact rfl
    refine regk_free 21 81 (v := ?_) (T' := ?_) (fun _ => HI) (by kernel_rfl) (by kernel_rfl) (by kernel_rfl) (by kernel_rfl) (fun _ _ _ h => h) (fun o ho => ?_) ?_ ?_
    rotate_left 2
    · cases ho
      refine ⟨rfl, rfl, fun W => ?_⟩
      go_simp; (try with_reducible rfl)
    · simp only [List.setIfInBounds_toArray, List.set_cons_succ, List.set_cons_zero]; exact rfl
    refine regk_free 22 82 (v := ?_) (T' := ?_) (fun _ => HI) (by kernel_rfl) (by kernel_rfl) (by kernel_rfl) (by kernel_rfl) (fun _ _ _ h => h) (fun o ho => ?_) ?_ ?_
    rotate_left 2
    · cases ho
      refine ⟨rfl, rfl, fun W => ?_⟩
      go_simp; (try with_reducible rfl)
    · simp only [List.setIfInBounds_toArray, List.set_cons_succ, List.set_cons_zero]; exact rfl
    refine regk_free 23 83 (v := ?_) (T' := ?_) (fun _ => HI) (by kernel_rfl) (by kernel_rfl) (by kernel_rfl) (by kernel_rfl) (fun _ _ _ h => h) (fun o ho => ?_) ?_ ?_
    rotate_left 2
    · cases ho
      refine ⟨rfl, rfl, fun W => ?_⟩
      go_simp; (try with_reducible rfl)
    · simp only [List.setIfInBounds_toArray, List.set_cons_succ, List.set_cons_zero]; exact rfl
    refine regk_free 24 84 (v := ?_) (T' := ?_) (fun _ => HI) (by kernel_rfl) (by kernel_rfl) (by kernel_rfl) (by kernel_rfl) (fun _ _ _ h => h) (fun o ho => ?_) ?_ ?_
    rotate_left 2
    · cases ho
      refine ⟨rfl, rfl, fun W => ?_⟩
      go_simp; (try with_reducible rfl)
    · simp only [List.setIfInBounds_toArray, List.set_cons_succ, List.set_cons_zero]; exact rfl
    refine regk_free 25 85 (v := ?_) (T' := ?_) (fun _ => HI) (by kernel_rfl) (by kernel_rfl) (by kernel_rfl) (by kernel_rfl) (fun _ _ _ h => h) (fun o ho => ?_) ?_ ?_
    rotate_left 2
    · cases ho
      refine ⟨rfl, rfl, fun W => ?_⟩
      go_simp; (try with_reducible rfl)
    · simp only [List.setIfInBounds_toArray, List.set_cons_succ, List.set_cons_zero]; exact rfl
    refine regk_free 26 86 (v := ?_) (T' := ?_) (fun _ => HI) (by kernel_rfl) (by kernel_rfl) (by kernel_rfl) (by kernel_rfl) (fun _ _ _ h => h) (fun o ho => ?_) ?_ ?_
    rotate_left 2
    · cases ho
      refine ⟨rfl, rfl, fun W => ?_⟩
      go_simp; (try with_reducible rfl)
    · simp only [List.setIfInBounds_toArray, List.set_cons_succ, List.set_cons_zero]; exact rfl
    refine regk_free 27 87 (v := ?_) (T' := ?_) (fun _ => HI) (by kernel_rfl) (by kernel_rfl) (by kernel_rfl) (by kernel_rfl) (fun _ _ _ h => h) (fun o ho => ?_) ?_ ?_
    rotate_left 2
    · cases ho
      refine ⟨rfl, rfl, fun W => ?_⟩
      go_simp; (try with_reducible rfl)
    · simp only [List.setIfInBounds_toArray, List.set_cons_succ, List.set_cons_zero]; exact rfl
    refine regk_take 28 88 (v := ?_) (T' := ?_) HI (by kernel_rfl) (by kernel_rfl) (by kernel_rfl) (by kernel_rfl) (by kernel_rfl) (by kernel_rfl) (fun _ _ _ h => h) (fun o ho => ?_) ?_ ?_
    rotate_left 2
    · cases ho
      refine ⟨rfl, rfl, fun W hW => ?_⟩
      have hW := (show W = _ from hW); subst hW; go_simp; (try with_reducible rfl)
    · simp only [List.setIfInBounds_toArray, List.set_cons_succ, List.set_cons_zero]; exact rfl
    refine regk_free 29 89 (v := ?_) (T' := ?_) (fun _ => HI) (by kernel_rfl) (by kernel_rfl) (by kernel_rfl) (by kernel_rfl) (fun _ _ _ h => h) (fun o ho => ?_) ?_ ?_
    rotate_left 2
    · cases ho
      refine ⟨rfl, rfl, fun W => ?_⟩
      go_simp; (try with_reducible rfl)
    · simp only [List.setIfInBounds_toArray, List.set_cons_succ, List.set_cons_zero]; exact rfl
    refine regk_free 30 90 (v := ?_) (T' := ?_) (fun _ => HI) (by kernel_rfl) (by kernel_rfl) (by kernel_rfl) (by kernel_rfl) (fun _ _ _ h => h) (fun o ho => ?_) ?_ ?_
    rotate_left 2
    · cases ho
      refine ⟨rfl, rfl, fun W => ?_⟩
      go_simp; (try with_reducible rfl)
    · simp only [List.setIfInBounds_toArray, List.set_cons_succ, List.set_cons_zero]; exact rfl
    refine regk_free 31 91 (v := ?_) (T' := ?_) (fun _ => HI) (by kernel_rfl) (by kernel_rfl) (by kernel_rfl) (by kernel_rfl) (fun _ _ _ h => h) (fun o ho => ?_) ?_ ?_
    rotate_left 2
    · cases ho
      refine ⟨rfl, rfl, fun W => ?_⟩
      go_simp; (try with_reducible rfl)
    · simp only [List.setIfInBounds_toArray, List.set_cons_succ, List.set_cons_zero]; exact rfl
    refine regk_free 32 92 (v := ?_) (T' := ?_) (fun _ => HI) (by kernel_rfl) (by kernel_rfl) (by kernel_rfl) (by kernel_rfl) (fun _ _ _ h => h) (fun o ho => ?_) ?_ ?_
    rotate_left 2
    · cases ho
      refine ⟨rfl, rfl, fun W => ?_⟩
      go_simp; (try with_reducible rfl)
    · simp only [List.setIfInBounds_toArray, List.set_cons_succ, List.set_cons_zero]; exact rfl
    refine regk_call (I' := (fun W => W = w8.drew)) (fun _ h => h) 33 93 (by kernel_rfl) 12 #[] (fun o ho => by cases ho; exact ⟨rfl, rfl, fun W => by go_simp⟩) ?_
    refine (lives_any _).mono ?_
    rintro e x9 ⟨rfl, hb9⟩
    have G9 := Lib.hid (G8.out.drew.trans (hb9.mono G8.out.size))
    clear hb9
    refine ⟨_, _, rfl, noB_no (by kernel_rfl), (by simp only [List.setIfInBounds_toArray, List.set_cons_succ, List.set_cons_zero]; exact rfl), ?_⟩
    refine regk_free 34 94 (v := ?_) (T' := ?_) (noB_no (by kernel_rfl)) (by kernel_rfl) (by kernel_rfl) (by kernel_rfl) (by kernel_rfl) (fun _ _ _ h => h) (fun o ho => ?_) ?_ ?_
    rotate_left 2
    · cases ho
      refine ⟨rfl, rfl, fun W => ?_⟩
      go_simp; (try with_reducible rfl)
    · simp only [List.setIfInBounds_toArray, List.set_cons_succ, List.set_cons_zero]; exact rfl
    refine regk_free 35 4 (v := ?_) (T' := ?_) (noB_no (by kernel_rfl)) (by kernel_rfl) (by kernel_rfl) (by kernel_rfl) (by kernel_rfl) (fun _ _ _ h => h) (fun o ho => ?_) ?_ ?_
    rotate_left 2
    · cases ho
      refine ⟨rfl, rfl, fun W => ?_⟩
      go_simp; (try with_reducible rfl)
    · simp only [List.setIfInBounds_toArray, List.set_cons_succ, List.set_cons_zero]; exact rfl
    refine regk_done (by kernel_rfl) ?_
    go_wp2_with fail
    go_ret
    exact ⟨rfl, G9.out⟩
  · have hpos : 0 ≤ x := by omega
    have hz2 : x % ((dt.size : Int) + 1) = (k : Int) := by rw [HKZ.out]; unfold atK; rw [if_neg hneg]
    have hrm : Int.tmod x ((dt.size : Int) + 1) = (k : Int) := by rw [← hz2]; exact Int.tmod_eq_emod_of_nonneg (by omega)
    clear hneg
    go_enter Try.func7, Try.ntmps7
    go_wp2_with fail
    refine (p_new w 1000 S ⟨by omega, by omega⟩ HSI.out).mono ?_
    rintro e w1 ⟨g, rfl, hg, hm1, hb1⟩
    have M1 := Lib.hid hm1
    have G1 := Lib.hid hb1
    clear hm1 hb1 hg
    go_wp2_with fail
    refine (FW.out _).mono ?_
    rintro e w1' ⟨rfl, rfl⟩
    go_wp2_with fail
    clear hz2 hrm hw0 hv0 hm0
    have h2 := p_create M1.out (ok_new ⟨by omega, by omega⟩) (fun i hi => HSI.out i (Nat.le_trans G1.out.size hi)) exA (by decide)
    rw [create_first exA 1000 HNB.out] at h2
    refine h2.mono ?_
    clear h2
    rintro e w2 ⟨rfl, hm2, hk2⟩
    have M2 := Lib.hid hm2
    have G2 := Lib.hid (G1.out.trans (hk2.under G1.out.size HSB.out))
    clear hm2 hk2
    obtain ⟨UA, uc, w3, hcv1, hur, hub, -⟩ := str_bytes p1 w2 (by have := HPS.out; omega)
    have UR := Lib.hid hur
    have UB := Lib.hid hub
    have G3 := Lib.hid (G2.out.trans (hub.mono G2.out.size))
    clear hur hub
    have h3 := p_append (M2.out.on UB.out) (ok_one ⟨by omega, by simp⟩ (by decide) ⟨by omega, by omega⟩) (fun i hi => HSI.out i (Nat.le_trans G3.out.size hi)) exA p1 (by decide) (by have := HPS.out; omega) _ UR.out
    rw [append_one exA ⟨#[]⟩ p1 0 1000 (by have := HPS.out; have hz : (⟨#[]⟩ : ByteArray).size = 0 := rfl; omega)] at h3
    have H3 := Lib.hid h3
    clear h3
    go_wp2_with fail
    refine H3.out.mono ?_
    rintro e w4 ⟨rfl, hm4, hk4⟩
    have M4 := Lib.hid hm4
    have G4 := Lib.hid (G3.out.trans (hk4.under G3.out.size HSB.out))
    clear hm4 hk4 hcv1
    obtain ⟨UA2, uc2, w5, hcv2, hur2, hub2, -⟩ := str_bytes p2 w4 (by have := HPS.out; omega)
    have UR2 := Lib.hid hur2
    have UB2 := Lib.hid hub2
    have G5 := Lib.hid (G4.out.trans (hub2.mono G4.out.size))
    clear hur2 hub2
    have hz1 : ((⟨#[]⟩ : ByteArray) ++ p1).size = k := by rw [empty_app]; exact HPS.out.1
    have h5 := p_append (M4.out.on UB2.out) (ok_one ⟨by omega, by omega⟩ (by omega) ⟨by omega, by omega⟩) (fun i hi => HSI.out i (Nat.le_trans G5.out.size hi)) exA p2 (by decide) (by have := HPS.out; omega) _ UR2.out
    rw [append_one exA _ p2 0 1000 (by have := HPS.out; omega), HJ.out] at h5
    have H5 := Lib.hid h5
    clear h5 hz1
    go_wp2_with fail
    refine H5.out.mono ?_
    rintro e w6 ⟨rfl, hm6, hk6⟩
    have M6 := Lib.hid hm6
    have G6 := Lib.hid (G5.out.trans (hk6.under G5.out.size HSB.out))
    have OK6 := Lib.hid (show OkD (oneD exA dt 0 1000) from ok_one ⟨by omega, by omega⟩ (by omega) ⟨by omega, by omega⟩)
    clear hm6 hk6 hcv2
    have r1 := p_read M6.out exA 0 k (by decide) OK6.out (by omega) (by omega)
    rw [read_one exA dt 0 1000 0 k ⟨by omega, by omega⟩, HR1.out] at r1
    have RR1 := Lib.hid r1
    clear r1
    go_wp2_with fail
    refine RR1.out.mono ?_
    rintro e w7 ⟨v1, rfl, ho1, hb7⟩
    have O1 := Lib.hid ho1
    have M7 := Lib.hid (M6.out.on hb7)
    have G7 := Lib.hid (G6.out.trans (hb7.mono G6.out.size))
    clear ho1 hb7
    have r2 := p_read M7.out exA k 1000 (by decide) OK6.out (by omega) (by omega)
    rw [read_one exA dt 0 1000 k 1000 ⟨by omega, by omega⟩, HR2.out] at r2
    have RR2 := Lib.hid r2
    clear r2
    go_wp2_with fail
    refine RR2.out.mono ?_
    rintro e w7b ⟨v2, rfl, ho2, hb8⟩
    have O2 := Lib.hid ho2
    have O1 := Lib.hid (O1.out.on hb8)
    have M8 := Lib.hid (M7.out.on hb8)
    have G7b := Lib.hid (G7.out.trans (hb8.mono G7.out.size))
    clear ho2 hb8
    have r3 := p_read M8.out exA 0 1000 (by decide) OK6.out (by omega) (by omega)
    rw [read_one exA dt 0 1000 0 1000 ⟨by omega, by omega⟩, HR3.out] at r3
    have RR3 := Lib.hid r3
    clear r3
    go_wp2_with fail
    refine RR3.out.mono ?_
    rintro e w8 ⟨v3, rfl, ho3, hb9⟩
    have hc1 : (convert 38 9 v1).run Try.prog w8.drew = .ok (.string p1) w8.drew := OwnB.str (show OwnB w8.drew _ _ _ from O1.out.on hb9.drew)
    have hc2 : (convert 38 9 v2).run Try.prog w8.drew = .ok (.string p2) w8.drew := OwnB.str (show OwnB w8.drew _ _ _ from O2.out.on hb9.drew)
    have hc3 : (convert 38 9 v3).run Try.prog w8.drew = .ok (.string dt) w8.drew := OwnB.str (show OwnB w8.drew _ _ _ from ho3)
    have G8 := Lib.hid (G7b.out.trans (hb9.mono G7b.out.size))
    clear ho3 hb9
    go_wp2_with fail
    have HI : (fun W => W = w8.drew) w8.drew := rfl
    refine regk_start [33] (fun W => W = w8.drew) (by kernel_rfl) ?_
    refine regk_free 0 60 (v := ?_) (T' := ?_) (fun _ => HI) (by kernel_rfl) (by kernel_rfl) (by kernel_rfl) (by kernel_rfl) (fun _ _ _ h => h) (fun o ho => ?_) ?_ ?_
    rotate_left 2
    · cases ho
      refine ⟨rfl, rfl, fun W => ?_⟩
      go_simp; (try with_reducible rfl)
    · simp only [List.setIfInBounds_toArray, List.set_cons_succ, List.set_cons_zero]; exact rfl
    refine regk_free 1 61 (v := ?_) (T' := ?_) (fun _ => HI) (by kernel_rfl) (by kernel_rfl) (by kernel_rfl) (by kernel_rfl) (fun _ _ _ h => h) (fun o ho => ?_) ?_ ?_
    rotate_left 2
    · cases ho
      refine ⟨rfl, rfl, fun W => ?_⟩
      go_simp; (try with_reducible rfl)
    · simp only [List.setIfInBounds_toArray, List.set_cons_succ, List.set_cons_zero]; exact rfl
    refine regk_free 2 62 (v := ?_) (T' := ?_) (fun _ => HI) (by kernel_rfl) (by kernel_rfl) (by kernel_rfl) (by kernel_rfl) (fun _ _ _ h => h) (fun o ho => ?_) ?_ ?_
    rotate_left 2
    · cases ho
      refine ⟨rfl, rfl, fun W => ?_⟩
      go_simp; (try with_reducible rfl)
    · simp only [List.setIfInBounds_toArray, List.set_cons_succ, List.set_cons_zero]; exact rfl
    refine regk_free 3 63 (v := ?_) (T' := ?_) (fun _ => HI) (by kernel_rfl) (by kernel_rfl) (by kernel_rfl) (by kernel_rfl) (fun _ _ _ h => h) (fun o ho => ?_) ?_ ?_
    rotate_left 2
    · cases ho
      refine ⟨rfl, rfl, fun W => ?_⟩
      go_simp; (try with_reducible rfl)
    · simp only [List.setIfInBounds_toArray, List.set_cons_succ, List.set_cons_zero]; exact rfl
    refine regk_free 4 64 (v := ?_) (T' := ?_) (fun _ => HI) (by kernel_rfl) (by kernel_rfl) (by kernel_rfl) (by kernel_rfl) (fun _ _ _ h => h) (fun o ho => ?_) ?_ ?_
    rotate_left 2
    · cases ho
      refine ⟨rfl, rfl, fun W => ?_⟩
      go_simp; (try with_reducible rfl)
    · simp only [List.setIfInBounds_toArray, List.set_cons_succ, List.set_cons_zero]; exact rfl
    refine regk_free 5 65 (v := ?_) (T' := ?_) (fun _ => HI) (by kernel_rfl) (by kernel_rfl) (by kernel_rfl) (by kernel_rfl) (fun _ _ _ h => h) (fun o ho => ?_) ?_ ?_
    rotate_left 2
    · cases ho
      refine ⟨rfl, rfl, fun W => ?_⟩
      go_simp; (try with_reducible rfl)
    · simp only [List.setIfInBounds_toArray, List.set_cons_succ, List.set_cons_zero]; exact rfl
    refine regk_free 6 66 (v := ?_) (T' := ?_) (fun _ => HI) (by kernel_rfl) (by kernel_rfl) (by kernel_rfl) (by kernel_rfl) (fun _ _ _ h => h) (fun o ho => ?_) ?_ ?_
    rotate_left 2
    · cases ho
      refine ⟨rfl, rfl, fun W => ?_⟩
      go_simp; (try with_reducible rfl)
    · simp only [List.setIfInBounds_toArray, List.set_cons_succ, List.set_cons_zero]; exact rfl
    refine regk_free 7 67 (v := ?_) (T' := ?_) (fun _ => HI) (by kernel_rfl) (by kernel_rfl) (by kernel_rfl) (by kernel_rfl) (fun _ _ _ h => h) (fun o ho => ?_) ?_ ?_
    rotate_left 2
    · cases ho
      refine ⟨rfl, rfl, fun W => ?_⟩
      go_simp; (try with_reducible rfl)
    · simp only [List.setIfInBounds_toArray, List.set_cons_succ, List.set_cons_zero]; exact rfl
    refine regk_free 8 68 (v := ?_) (T' := ?_) (fun _ => HI) (by kernel_rfl) (by kernel_rfl) (by kernel_rfl) (by kernel_rfl) (fun _ _ _ h => h) (fun o ho => ?_) ?_ ?_
    rotate_left 2
    · cases ho
      refine ⟨rfl, rfl, fun W => ?_⟩
      go_simp; (try with_reducible rfl)
    · simp only [List.setIfInBounds_toArray, List.set_cons_succ, List.set_cons_zero]; exact rfl
    refine regk_free 9 69 (v := ?_) (T' := ?_) (fun _ => HI) (by kernel_rfl) (by kernel_rfl) (by kernel_rfl) (by kernel_rfl) (fun _ _ _ h => h) (fun o ho => ?_) ?_ ?_
    rotate_left 2
    · cases ho
      refine ⟨rfl, rfl, fun W => ?_⟩
      go_simp; (try with_reducible rfl)
    · simp only [List.setIfInBounds_toArray, List.set_cons_succ, List.set_cons_zero]; exact rfl
    refine regk_free 10 70 (v := ?_) (T' := ?_) (fun _ => HI) (by kernel_rfl) (by kernel_rfl) (by kernel_rfl) (by kernel_rfl) (fun _ _ _ h => h) (fun o ho => ?_) ?_ ?_
    rotate_left 2
    · cases ho
      refine ⟨rfl, rfl, fun W => ?_⟩
      go_simp; (try with_reducible rfl)
    · simp only [List.setIfInBounds_toArray, List.set_cons_succ, List.set_cons_zero]; exact rfl
    refine regk_free 11 71 (v := ?_) (T' := ?_) (fun _ => HI) (by kernel_rfl) (by kernel_rfl) (by kernel_rfl) (by kernel_rfl) (fun _ _ _ h => h) (fun o ho => ?_) ?_ ?_
    rotate_left 2
    · cases ho
      refine ⟨rfl, rfl, fun W => ?_⟩
      go_simp; (try with_reducible rfl)
    · simp only [List.setIfInBounds_toArray, List.set_cons_succ, List.set_cons_zero]; exact rfl
    refine regk_take 12 72 (v := ?_) (T' := ?_) HI (by kernel_rfl) (by kernel_rfl) (by kernel_rfl) (by kernel_rfl) (by kernel_rfl) (by kernel_rfl) (fun _ _ _ h => h) (fun o ho => ?_) ?_ ?_
    rotate_left 2
    · cases ho
      refine ⟨rfl, rfl, fun W hW => ?_⟩
      have hW := (show W = _ from hW); subst hW; go_simp; (try with_reducible rfl)
    · simp only [List.setIfInBounds_toArray, List.set_cons_succ, List.set_cons_zero]; exact rfl
    refine regk_free 13 73 (v := ?_) (T' := ?_) (fun _ => HI) (by kernel_rfl) (by kernel_rfl) (by kernel_rfl) (by kernel_rfl) (fun _ _ _ h => h) (fun o ho => ?_) ?_ ?_
    rotate_left 2
    · cases ho
      refine ⟨rfl, rfl, fun W => ?_⟩
      go_simp; (try with_reducible rfl)
    · simp only [List.setIfInBounds_toArray, List.set_cons_succ, List.set_cons_zero]; exact rfl
    refine regk_free 14 74 (v := ?_) (T' := ?_) (fun _ => HI) (by kernel_rfl) (by kernel_rfl) (by kernel_rfl) (by kernel_rfl) (fun _ _ _ h => h) (fun o ho => ?_) ?_ ?_
    rotate_left 2
    · cases ho
      refine ⟨rfl, rfl, fun W => ?_⟩
      go_simp; (try with_reducible rfl)
    · simp only [List.setIfInBounds_toArray, List.set_cons_succ, List.set_cons_zero]; exact rfl
    refine regk_free 15 75 (v := ?_) (T' := ?_) (fun _ => HI) (by kernel_rfl) (by kernel_rfl) (by kernel_rfl) (by kernel_rfl) (fun _ _ _ h => h) (fun o ho => ?_) ?_ ?_
    rotate_left 2
    · cases ho
      refine ⟨rfl, rfl, fun W => ?_⟩
      go_simp; (try with_reducible rfl)
    · simp only [List.setIfInBounds_toArray, List.set_cons_succ, List.set_cons_zero]; exact rfl
    refine regk_free 16 76 (v := ?_) (T' := ?_) (fun _ => HI) (by kernel_rfl) (by kernel_rfl) (by kernel_rfl) (by kernel_rfl) (fun _ _ _ h => h) (fun o ho => ?_) ?_ ?_
    rotate_left 2
    · cases ho
      refine ⟨rfl, rfl, fun W => ?_⟩
      go_simp; (try with_reducible rfl)
    · simp only [List.setIfInBounds_toArray, List.set_cons_succ, List.set_cons_zero]; exact rfl
    refine regk_free 17 77 (v := ?_) (T' := ?_) (fun _ => HI) (by kernel_rfl) (by kernel_rfl) (by kernel_rfl) (by kernel_rfl) (fun _ _ _ h => h) (fun o ho => ?_) ?_ ?_
    rotate_left 2
    · cases ho
      refine ⟨rfl, rfl, fun W => ?_⟩
      go_simp; (try with_reducible rfl)
    · simp only [List.setIfInBounds_toArray, List.set_cons_succ, List.set_cons_zero]; exact rfl
    refine regk_free 18 78 (v := ?_) (T' := ?_) (fun _ => HI) (by kernel_rfl) (by kernel_rfl) (by kernel_rfl) (by kernel_rfl) (fun _ _ _ h => h) (fun o ho => ?_) ?_ ?_
    rotate_left 2
    · cases ho
      refine ⟨rfl, rfl, fun W => ?_⟩
      go_simp; (try with_reducible rfl)
    · simp only [List.setIfInBounds_toArray, List.set_cons_succ, List.set_cons_zero]; exact rfl
    refine regk_free 19 79 (v := ?_) (T' := ?_) (fun _ => HI) (by kernel_rfl) (by kernel_rfl) (by kernel_rfl) (by kernel_rfl) (fun _ _ _ h => h) (fun o ho => ?_) ?_ ?_
    rotate_left 2
    · cases ho
      refine ⟨rfl, rfl, fun W => ?_⟩
      go_simp; (try with_reducible rfl)
    · simp only [List.setIfInBounds_toArray, List.set_cons_succ, List.set_cons_zero]; exact rfl
    refine regk_take 20 80 (v := ?_) (T' := ?_) HI (by kernel_rfl) (by kernel_rfl) (by kernel_rfl) (by kernel_rfl) (by kernel_rfl) (by kernel_rfl) (fun _ _ _ h => h) (fun o ho => ?_) ?_ ?_
    rotate_left 2
    · cases ho
      refine ⟨rfl, rfl, fun W hW => ?_⟩
      have hW := (show W = _ from hW); subst hW; go_simp; (try with_reducible rfl)
    · simp only [List.setIfInBounds_toArray, List.set_cons_succ, List.set_cons_zero]; exact rfl
    refine regk_free 21 81 (v := ?_) (T' := ?_) (fun _ => HI) (by kernel_rfl) (by kernel_rfl) (by kernel_rfl) (by kernel_rfl) (fun _ _ _ h => h) (fun o ho => ?_) ?_ ?_
    rotate_left 2
    · cases ho
      refine ⟨rfl, rfl, fun W => ?_⟩
      go_simp; (try with_reducible rfl)
    · simp only [List.setIfInBounds_toArray, List.set_cons_succ, List.set_cons_zero]; exact rfl
    refine regk_free 22 82 (v := ?_) (T' := ?_) (fun _ => HI) (by kernel_rfl) (by kernel_rfl) (by kernel_rfl) (by kernel_rfl) (fun _ _ _ h => h) (fun o ho => ?_) ?_ ?_
    rotate_left 2
    · cases ho
      refine ⟨rfl, rfl, fun W => ?_⟩
      go_simp; (try with_reducible rfl)
    · simp only [List.setIfInBounds_toArray, List.set_cons_succ, List.set_cons_zero]; exact rfl
    refine regk_free 23 83 (v := ?_) (T' := ?_) (fun _ => HI) (by kernel_rfl) (by kernel_rfl) (by kernel_rfl) (by kernel_rfl) (fun _ _ _ h => h) (fun o ho => ?_) ?_ ?_
    rotate_left 2
    · cases ho
      refine ⟨rfl, rfl, fun W => ?_⟩
      go_simp; (try with_reducible rfl)
    · simp only [List.setIfInBounds_toArray, List.set_cons_succ, List.set_cons_zero]; exact rfl
    refine regk_free 24 84 (v := ?_) (T' := ?_) (fun _ => HI) (by kernel_rfl) (by kernel_rfl) (by kernel_rfl) (by kernel_rfl) (fun _ _ _ h => h) (fun o ho => ?_) ?_ ?_
    rotate_left 2
    · cases ho
      refine ⟨rfl, rfl, fun W => ?_⟩
      go_simp; (try with_reducible rfl)
    · simp only [List.setIfInBounds_toArray, List.set_cons_succ, List.set_cons_zero]; exact rfl
    refine regk_free 25 85 (v := ?_) (T' := ?_) (fun _ => HI) (by kernel_rfl) (by kernel_rfl) (by kernel_rfl) (by kernel_rfl) (fun _ _ _ h => h) (fun o ho => ?_) ?_ ?_
    rotate_left 2
    · cases ho
      refine ⟨rfl, rfl, fun W => ?_⟩
      go_simp; (try with_reducible rfl)
    · simp only [List.setIfInBounds_toArray, List.set_cons_succ, List.set_cons_zero]; exact rfl
    refine regk_free 26 86 (v := ?_) (T' := ?_) (fun _ => HI) (by kernel_rfl) (by kernel_rfl) (by kernel_rfl) (by kernel_rfl) (fun _ _ _ h => h) (fun o ho => ?_) ?_ ?_
    rotate_left 2
    · cases ho
      refine ⟨rfl, rfl, fun W => ?_⟩
      go_simp; (try with_reducible rfl)
    · simp only [List.setIfInBounds_toArray, List.set_cons_succ, List.set_cons_zero]; exact rfl
    refine regk_free 27 87 (v := ?_) (T' := ?_) (fun _ => HI) (by kernel_rfl) (by kernel_rfl) (by kernel_rfl) (by kernel_rfl) (fun _ _ _ h => h) (fun o ho => ?_) ?_ ?_
    rotate_left 2
    · cases ho
      refine ⟨rfl, rfl, fun W => ?_⟩
      go_simp; (try with_reducible rfl)
    · simp only [List.setIfInBounds_toArray, List.set_cons_succ, List.set_cons_zero]; exact rfl
    refine regk_take 28 88 (v := ?_) (T' := ?_) HI (by kernel_rfl) (by kernel_rfl) (by kernel_rfl) (by kernel_rfl) (by kernel_rfl) (by kernel_rfl) (fun _ _ _ h => h) (fun o ho => ?_) ?_ ?_
    rotate_left 2
    · cases ho
      refine ⟨rfl, rfl, fun W hW => ?_⟩
      have hW := (show W = _ from hW); subst hW; go_simp; (try with_reducible rfl)
    · simp only [List.setIfInBounds_toArray, List.set_cons_succ, List.set_cons_zero]; exact rfl
    refine regk_free 29 89 (v := ?_) (T' := ?_) (fun _ => HI) (by kernel_rfl) (by kernel_rfl) (by kernel_rfl) (by kernel_rfl) (fun _ _ _ h => h) (fun o ho => ?_) ?_ ?_
    rotate_left 2
    · cases ho
      refine ⟨rfl, rfl, fun W => ?_⟩
      go_simp; (try with_reducible rfl)
    · simp only [List.setIfInBounds_toArray, List.set_cons_succ, List.set_cons_zero]; exact rfl
    refine regk_free 30 90 (v := ?_) (T' := ?_) (fun _ => HI) (by kernel_rfl) (by kernel_rfl) (by kernel_rfl) (by kernel_rfl) (fun _ _ _ h => h) (fun o ho => ?_) ?_ ?_
    rotate_left 2
    · cases ho
      refine ⟨rfl, rfl, fun W => ?_⟩
      go_simp; (try with_reducible rfl)
    · simp only [List.setIfInBounds_toArray, List.set_cons_succ, List.set_cons_zero]; exact rfl
    refine regk_free 31 91 (v := ?_) (T' := ?_) (fun _ => HI) (by kernel_rfl) (by kernel_rfl) (by kernel_rfl) (by kernel_rfl) (fun _ _ _ h => h) (fun o ho => ?_) ?_ ?_
    rotate_left 2
    · cases ho
      refine ⟨rfl, rfl, fun W => ?_⟩
      go_simp; (try with_reducible rfl)
    · simp only [List.setIfInBounds_toArray, List.set_cons_succ, List.set_cons_zero]; exact rfl
    refine regk_free 32 92 (v := ?_) (T' := ?_) (fun _ => HI) (by kernel_rfl) (by kernel_rfl) (by kernel_rfl) (by kernel_rfl) (fun _ _ _ h => h) (fun o ho => ?_) ?_ ?_
    rotate_left 2
    · cases ho
      refine ⟨rfl, rfl, fun W => ?_⟩
      go_simp; (try with_reducible rfl)
    · simp only [List.setIfInBounds_toArray, List.set_cons_succ, List.set_cons_zero]; exact rfl
    refine regk_call (I' := (fun W => W = w8.drew)) (fun _ h => h) 33 93 (by kernel_rfl) 12 #[] (fun o ho => by cases ho; exact ⟨rfl, rfl, fun W => by go_simp⟩) ?_
    refine (lives_any _).mono ?_
    rintro e x9 ⟨rfl, hb9⟩
    have G9 := Lib.hid (G8.out.drew.trans (hb9.mono G8.out.size))
    clear hb9
    refine ⟨_, _, rfl, noB_no (by kernel_rfl), (by simp only [List.setIfInBounds_toArray, List.set_cons_succ, List.set_cons_zero]; exact rfl), ?_⟩
    refine regk_free 34 94 (v := ?_) (T' := ?_) (noB_no (by kernel_rfl)) (by kernel_rfl) (by kernel_rfl) (by kernel_rfl) (by kernel_rfl) (fun _ _ _ h => h) (fun o ho => ?_) ?_ ?_
    rotate_left 2
    · cases ho
      refine ⟨rfl, rfl, fun W => ?_⟩
      go_simp; (try with_reducible rfl)
    · simp only [List.setIfInBounds_toArray, List.set_cons_succ, List.set_cons_zero]; exact rfl
    refine regk_free 35 4 (v := ?_) (T' := ?_) (noB_no (by kernel_rfl)) (by kernel_rfl) (by kernel_rfl) (by kernel_rfl) (by kernel_rfl) (fun _ _ _ h => h) (fun o ho => ?_) ?_ ?_
    rotate_left 2
    · cases ho
      refine ⟨rfl, rfl, fun W => ?_⟩
      go_simp; (try with_reducible rfl)
    · simp only [List.setIfInBounds_toArray, List.set_cons_succ, List.set_cons_zero]; exact rfl
    refine regk_done (by kernel_rfl) ?_
    go_wp2_with fail
    go_ret
    exact ⟨rfl, G9.out⟩
theorem walk (s : ByteArray) (x : Int) (w : World) (hx0 : -9223372036854775808 ≤ x ∧ x ≤ 9223372036854775807) : Calls Try.prog 7 #[.string s, .int .i64 x] w fun e w' => e = .returned (.bool true) ∧ Below w.heap.size w w' := by
  have h0 : 0 ≤ atK x (fewS s).size := by unfold atK; exact Int.emod_nonneg _ (by omega)
  exact rest s x w hx0 (atK x (fewS s).size).toNat (by omega)
-- END
set_option maxRecDepth 100000 in
theorem lifted (os : Os) (started : os.Started) (H : Type) (enc : TypeId × Value → H) :
    ReturnsInHanded {} Try.checked os 7 .any (Rows.diskPartsSpec.pre6 enc Try.prog Try.f7 Rows.diskPartsRow.domain false) (Rows.diskPartsSpec.post enc Try.prog Try.f7 false true false false) := by
  refine returnsInHanded_of_change (C := Try.checked) Try.own started (by kernel_rfl) Try.func7
    (ChangeSpec.witness6 (enc := enc) (C := Try.checked) false ⟨#[], #[.string ⟨#[]⟩, .int .i64 0], []⟩ 8 (by kernel_rfl) (by kernel_rfl) (by kernel_rfl) (by kernel_rfl)) ?_
  intro W base args ds gs before hval0 hW _ _
  have hval : ∀ (j : Nat) t v, Try.f7.params[j]? = some t → args[j]? = some v → Value.okWide Try.prog W .any base t v := hval0
  have hW' := hW
  obtain ⟨p, q, hA0, hV, rfl, _, _⟩ := hW
  have hA : DataW.TrodAll enc Try.prog W 0 (fun _ => true) true Try.f7.params.toList args.toList ds p := hA0
  rw [Try.params7] at hA hval
  obtain ⟨v0, v1, d0, d1, p0, p1, rfl, rfl, rfl, h0, h1⟩ := trodAll_two hA
  obtain ⟨rfl, rfl⟩ := trodVars_none hV
  obtain ⟨a0, rfl, rfl, rfl, w0⟩ := ChangeMaps.open_string Try.underlying9 (hval 0 _ v0 rfl rfl) h0
  simp only [maxLen] at w0
  obtain ⟨a1, rfl, rfl, rfl, w1⟩ := open_int Try.underlying3 (hval 1 _ v1 rfl rfl) h1
  have w1 := wf_int w1
  refine (walk a0 a1 _ w1).mono fun e W' ⟨he, hb⟩ => ⟨_, he, ?_⟩
  exact law_post Try.laidOut (by decide +kernel) rfl Try.underlying4 rfl hW' rfl hb

theorem holds : Rows.DiskPartsSaid :=
  OpenClaim.holds_of_wide 7 Try.f7 rfl rfl rfl rfl rfl rfl rfl ⟨rfl, rfl, rfl, rfl, rfl⟩ rfl rfl rfl rfl rfl (by kernel_rfl) Try.func7 (by kernel_rfl)
    (of_decide_eq_true (by kernel_rfl)) (by unfold Func.isWrapper; first | (rw [if_pos (by decide +kernel)]; kernel_rfl) | (rw [if_neg (by decide +kernel)]; exact ⟨rfl, rfl⟩))
    (fun os started H enc _ => lifted os started H enc)
end Go.Proofs.Ytbdaflhmloodfaa.L05
