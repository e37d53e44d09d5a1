/- Plain facts on lists of bytes: their order. -/
import Derived.Test.YtnapadpkfjpklaaRows
import Derived.WalkKit
namespace Go.Proofs.Ytnapadpkfjpklaa
open Go.RowKit

theorem ret_int {k : IntKind} {a b : Int} (h : a = b) : Ending.returned (.int k a) = .returned (.int k b) := by rw [h]
theorem ret_bool {a b : Bool} (h : a = b) : Ending.returned (.bool a) = .returned (.bool b) := by rw [h]
theorem ret_str {a b : ByteArray} (h : a = b) : Ending.returned (.string a) = .returned (.string b) := by rw [h]

theorem less_irrefl (a : List UInt8) : Op.bytesLess a a = false := by
  induction a with
  | nil => rfl
  | cons x l ih => simp [Op.bytesLess, ih]
theorem less_asymm (a b : List UInt8) (h : Op.bytesLess a b = true) : Op.bytesLess b a = false := by
  induction a generalizing b with
  | nil => cases b <;> simp [Op.bytesLess] at h ⊢
  | cons x l ih =>
    cases b with
    | nil => simp [Op.bytesLess] at h
    | cons y m =>
      simp only [Op.bytesLess, Bool.or_eq_true, decide_eq_true_eq, Bool.and_eq_true, beq_iff_eq] at h
      rcases h with h | ⟨rfl, h⟩
      · have h2 : ¬ y < x := fun h3 => by rw [UInt8.lt_iff_toNat_lt] at h h3; omega
        have h3 : y ≠ x := by rintro rfl; rw [UInt8.lt_iff_toNat_lt] at h; omega
        simp [Op.bytesLess, h2, h3]
      · simp [Op.bytesLess, ih m h]
theorem less_total (a b : List UInt8) (h : Op.bytesLess a b = false) (hne : a ≠ b) : Op.bytesLess b a = true := by
  induction a generalizing b with
  | nil => cases b <;> simp [Op.bytesLess] at h hne ⊢
  | cons x l ih =>
    cases b with
    | nil => simp [Op.bytesLess]
    | cons y m =>
      simp only [Op.bytesLess, Bool.or_eq_false_iff, decide_eq_false_iff_not, Bool.and_eq_false_imp, beq_iff_eq] at h
      obtain ⟨h1, h2⟩ := h
      by_cases hxy : x = y
      · subst hxy
        simp [Op.bytesLess, ih m (h2 rfl) (fun e => hne (by rw [e]))]
      · have : y < x := by
          rw [UInt8.lt_iff_toNat_lt] at h1 ⊢
          have : x.toNat ≠ y.toNat := fun e => hxy (UInt8.toNat_inj.1 e)
          omega
        simp [Op.bytesLess, this]
end Go.Proofs.Ytnapadpkfjpklaa
