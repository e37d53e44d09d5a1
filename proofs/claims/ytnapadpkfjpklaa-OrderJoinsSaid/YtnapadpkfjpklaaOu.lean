/- Layer 1: a part's bytes, read. -/
import Derived.Test.YtnapadpkfjpklaaOt
namespace Go.Proofs.Ytnapadpkfjpklaa
open Go.RowKit
set_option linter.unusedVariables false

theorem u8_beq {c : UInt8} {d : UInt8} {n : Int} (hn : (d.toNat : Int) = n) : ((c.toNat : Int) == n) = decide (c = d) := by
  subst hn
  by_cases h : c = d
  · subst h; simp
  · have : (c.toNat : Int) ≠ (d.toNat : Int) := fun e => h (UInt8.toNat_inj.1 (by omega))
    rw [beq_eq_false_iff_ne.2 this]; simp [h]

theorem bcell {B : Nat} {W w1 : World} (hb : Below B W w1) : (∀ b o, b < B → w1.cell? ⟨b, o, none⟩ = W.cell? ⟨b, o, none⟩) ∧ (∀ b o, b < B → w1.frozen? ⟨b, o, none⟩ = W.frozen? ⟨b, o, none⟩) :=
  ⟨fun b o h => hb.cell (p := ⟨b, o, none⟩) h, fun b o h => hb.frozen (p := ⟨b, o, none⟩) h⟩

set_option maxHeartbeats 800000 in
theorem read_part (B : Nat) (v : Value) (l : List UInt8) (w : World) (h : RdB w B v l) (hB : B ≤ w.heap.size) (h0 : 0 < l.length) (hl : l.length ≤ 1000000) :
    Calls Try.prog 27 #[v] w fun e w' => ∃ v', e = .returned (.tuple #[(rdPart l).2.1.v, v', .int .i64 (rdPart l).1]) ∧ RdB w' B v' (rdPart l).2.2 ∧ Below w.heap.size w w' := by
  have H := Lib.hid h
  obtain ⟨A, c, rfl, hlc, hc, hcell⟩ := h
  obtain ⟨b, o, rfl, hb, hcell⟩ := hcell (by omega)
  have c0 := hcell 0 l[0] (List.getElem?_eq_getElem h0)
  rw [Nat.add_zero] at c0
  obtain ⟨c9, r, rfl⟩ : ∃ c9 r, l = c9 :: r := by cases l with | nil => simp at h0 | cons a b => exact ⟨a, b, rfl⟩
  simp only [List.getElem_cons_zero] at c0
  have hbw : b < w.heap.size := by omega
  obtain ⟨A1, c1, hsl, hr1⟩ := sl_tail H.out 1 1 rfl (by simp)
  have hr2 : RdB w B (.slice A1 r.length c1) r := by simpa using hr1
  simp only [List.length_cons, Nat.add_sub_cancel] at hsl
  have HR := Lib.hid hr2
  have hlr : r.length ≤ 1000000 := by simp at hl; omega
  clear hr1 hr2 hcell
  have z1 := u8_beq (c := c9) (d := 1) (n := 1) rfl
  have z2 := u8_beq (c := c9) (d := 2) (n := 2) rfl
  have hcw : ∀ ob, (w.alloc ob).cell? ⟨b, o, none⟩ = some (.int .u8 (c9.toNat : Int)) := fun ob => (World.cell?_alloc_past _ _ _ (by simpa using hbw)).trans c0
  have HRa := fun ob => (HR.out.below ((Below.refl B w).alloc hB ob))
  have HRA := Lib.hid HRa
  clear HRa
  by_cases h1 : c9 = 1
  · have hd1 : decide (c9 = 1) = true := by simpa using h1
    rw [hd1] at z1
    clear hd1 z2
    by_cases h8 : r.length < 8
    · have hp : rdPart (c9 :: r) = (3, ⟨false, 0, ⟨#[]⟩⟩, []) := by simp [rdPart, h1, h8]
      have HP := Lib.hid hp
      clear hp h1
      go_enter Try.func27, Try.ntmps27
      go_wp2_with fail
      refine (read_number_short _ _ r _ (HRA.out _) h8).mono ?_
      rintro e w1 ⟨rfl, rfl⟩
      go_wp2
      refine bodyPost_ret (v := .tuple #[.agg #[.bool false, .int .i64 0, .string ⟨#[]⟩], .slice none 0 0, .int .i64 3]) (by simp [results, Try.results27, go_sem]) rfl ⟨.slice none 0 0, ?_, ?_, ?_⟩
      · rw [HP.out]; rfl
      · rw [HP.out]; exact RdB.nil _ _
      · go_grown
    · have hp : rdPart (c9 :: r) = (0, ⟨false, decNum (r.take 8), ⟨#[]⟩⟩, r.drop 8) := by simp [rdPart, h1, h8]
      have HP := Lib.hid hp
      clear hp h1
      go_enter Try.func27, Try.ntmps27
      go_wp2_with fail
      refine (read_number _ _ r _ (HRA.out _) (by omega)).mono ?_
      rintro e w1 ⟨v1, rfl, hr1, hb1⟩
      obtain ⟨hcl, hfz⟩ := bcell hb1
      have hz : w.heap.size < w1.heap.size := by have := hb1.size; simp at this; omega
      have HB := Lib.hid hb1
      have HR1 := Lib.hid hr1
      clear hb1 hr1
      go_wp2
      refine bodyPost_ret (v := .tuple #[.agg #[.bool false, .int .i64 (decNum (r.take 8)), .string ⟨#[]⟩], v1, .int .i64 0]) (by simp [results, Try.results27, go_sem, hcl, hz]) rfl ⟨v1, ?_, ?_, ?_⟩
      · rw [HP.out]; rfl
      · rw [HP.out]; exact HR1.out.below (by go_grown)
      · have hb2 : Below w.heap.size w w1 := ((Below.refl _ _).alloc (Nat.le_refl _) _).trans (HB.out.mono (by simp))
        go_grown
  · have hd1 : decide (c9 = 1) = false := by simpa using h1
    rw [hd1] at z1
    clear hd1
    by_cases h2 : c9 = 2
    · have hd2 : decide (c9 = 2) = true := by simpa using h2
      rw [hd2] at z2
      have hp : rdPart (c9 :: r) = ((rdText r).1, ⟨true, 0, ⟨(rdText r).2.1.toArray⟩⟩, (rdText r).2.2) := by simp [rdPart, h2]
      have HP := Lib.hid hp
      clear hp h1 h2 hd2
      go_enter Try.func27, Try.ntmps27
      go_wp2_with fail
      refine (read_text _ _ r _ (HRA.out _) (by simp; omega) hlr).mono ?_
      rintro e w1 ⟨v1, rfl, hr1, hb1⟩
      obtain ⟨hcl, hfz⟩ := bcell hb1
      have hz : w.heap.size < w1.heap.size := by have := hb1.size; simp at this; omega
      have HB := Lib.hid hb1
      have HR1 := Lib.hid hr1
      clear hb1 hr1
      generalize hx : rdText r = x at *
      obtain ⟨xe, xt, xr⟩ := x
      clear hx
      go_wp2
      refine bodyPost_ret (v := .tuple #[.agg #[.bool true, .int .i64 0, .string ⟨xt.toArray⟩], v1, .int .i64 xe]) (by simp [results, Try.results27, go_sem, hcl, hz]) rfl ⟨v1, ?_, ?_, ?_⟩
      · rw [HP.out]; rfl
      · rw [HP.out]; exact HR1.out.below (by go_grown)
      · have hb2 : Below w.heap.size w w1 := ((Below.refl _ _).alloc (Nat.le_refl _) _).trans (HB.out.mono (by simp))
        go_grown
    · have hd2 : decide (c9 = 2) = false := by simpa using h2
      rw [hd2] at z2
      have hp : rdPart (c9 :: r) = (2, ⟨false, 0, ⟨#[]⟩⟩, []) := by simp [rdPart, h1, h2]
      have HP := Lib.hid hp
      clear hp h1 h2 hd2
      go_enter Try.func27, Try.ntmps27
      go_wp2
      refine bodyPost_ret (v := .tuple #[.agg #[.bool false, .int .i64 0, .string ⟨#[]⟩], .slice none 0 0, .int .i64 2]) (by simp [results, Try.results27, go_sem]) rfl ⟨.slice none 0 0, ?_, ?_, ?_⟩
      · rw [HP.out]; rfl
      · rw [HP.out]; exact RdB.nil _ _
      · go_grown
end Go.Proofs.Ytnapadpkfjpklaa
