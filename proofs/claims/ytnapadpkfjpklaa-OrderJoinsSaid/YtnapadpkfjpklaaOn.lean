/- Plain facts on numbers' bytes: a number and 2^63 more, as 8 bytes, the highest first. -/
import Derived.Test.YtnapadpkfjpklaaOm
import Derived.Laws.BitsAllLaws
namespace Go.Proofs.Ytnapadpkfjpklaa
open Go.RowKit

/-- A number and 2^63 more. -/
def up (n : Int) : Nat := (n + 9223372036854775808).toNat
def numByte (n : Int) (i : Nat) : UInt8 := UInt8.ofNat (up n / 256 ^ (7 - i))
def encNum (n : Int) : List UInt8 := (List.range 8).map (numByte n)

theorem xor_pow (p a : Nat) (h : a < 2 ^ p) : a ^^^ 2 ^ p = a + 2 ^ p := by
  have e : a + 2 ^ p = 2 ^ p * 1 ||| a := by rw [← Nat.two_pow_add_eq_or_of_lt h]; omega
  rw [e, Nat.mul_one]
  apply Nat.eq_of_testBit_eq
  intro i
  have h63 : a.testBit p = false := Nat.testBit_lt_two_pow h
  rw [Nat.testBit_xor, Nat.testBit_or]
  by_cases hi : p = i
  · subst hi; simp [h63]
  · simp [Nat.testBit_two_pow, hi]
theorem xor_hi (a : Nat) (h : a < 2 ^ 63) : a ^^^ 2 ^ 63 = a + 2 ^ 63 := xor_pow 63 a h
theorem xor_lo (a : Nat) (h : a < 2 ^ 63) : (a + 2 ^ 63) ^^^ 2 ^ 63 = a := by
  rw [← xor_hi a h, Nat.xor_assoc, Nat.xor_self, Nat.xor_zero]

theorem up_lt (n : Int) (h1 : -9223372036854775808 ≤ n) (h2 : n ≤ 9223372036854775807) : up n < 18446744073709551616 := by unfold up; omega

theorem xor_up (n : Int) (h1 : -9223372036854775808 ≤ n) (h2 : n ≤ 9223372036854775807) : bits .xor .u64 (IntKind.u64.wrap n) 9223372036854775808 = (up n : Int) := by
  have hw : IntKind.u64.wrap n = ((n % 18446744073709551616).toNat : Int) := by
    rw [IntKind.wrap_u64]; omega
  have hx : ((n % 18446744073709551616).toNat) ^^^ 9223372036854775808 = up n := by
    rw [show (9223372036854775808 : Nat) = 2 ^ 63 from rfl]
    unfold up
    by_cases h : 0 ≤ n
    · rw [show (n % 18446744073709551616).toNat = n.toNat from by omega, xor_hi _ (by omega)]; omega
    · rw [show (n % 18446744073709551616).toNat = (n + 9223372036854775808).toNat + 2 ^ 63 from by omega, xor_lo _ (by omega)]
  rw [hw, show (9223372036854775808 : Int) = ((9223372036854775808 : Nat) : Int) from rfl, u64_xor_nat _ _ (by omega) (by omega), hx]
theorem numByte_eq (n : Int) (k : Nat) (hk : k < 8) : ((up n : Int) / 2 ^ (56 - 8 * k)) % 256 = ((numByte n k).toNat : Int) := by
  have e : (2 : Int) ^ (56 - 8 * k) = ((256 ^ (7 - k) : Nat) : Int) := by
    rw [show 56 - 8 * k = 8 * (7 - k) from by omega, show (256 : Nat) = 2 ^ 8 from rfl, ← Nat.pow_mul]; simp
  rw [e]
  unfold numByte
  rw [UInt8.toNat_ofNat']
  omega
theorem numByte_int (n : Int) (k : Nat) : ((numByte n k).toNat : Int) = ((n + 9223372036854775808).toNat / 256 ^ (7 - k) % 256 : Nat) := by
  unfold numByte up
  rw [UInt8.toNat_ofNat']
theorem encNum_length (n : Int) : (encNum n).length = 8 := by simp [encNum]
theorem encNum_eq (n : Int) : encNum n = [numByte n 0, numByte n 1, numByte n 2, numByte n 3, numByte n 4, numByte n 5, numByte n 6, numByte n 7] := rfl
theorem numByte_neg (n : Int) (h : n < 0) (h1 : -9223372036854775808 ≤ n) :
    ((n + 9223372036854775807 + 1) / 256 / 256 / 256 / 256 / 256 / 256 / 256 % 256 = ((numByte n 0).toNat : Int)) ∧ ((n + 9223372036854775807 + 1) / 256 / 256 / 256 / 256 / 256 / 256 % 256 = ((numByte n 1).toNat : Int)) ∧
    ((n + 9223372036854775807 + 1) / 256 / 256 / 256 / 256 / 256 % 256 = ((numByte n 2).toNat : Int)) ∧ ((n + 9223372036854775807 + 1) / 256 / 256 / 256 / 256 % 256 = ((numByte n 3).toNat : Int)) ∧
    ((n + 9223372036854775807 + 1) / 256 / 256 / 256 % 256 = ((numByte n 4).toNat : Int)) ∧ ((n + 9223372036854775807 + 1) / 256 / 256 % 256 = ((numByte n 5).toNat : Int)) ∧
    ((n + 9223372036854775807 + 1) / 256 % 256 = ((numByte n 6).toNat : Int)) ∧ ((n + 9223372036854775807 + 1) % 256 = ((numByte n 7).toNat : Int)) := by
  simp only [numByte_int]
  simp only [Nat.reduceSub, Nat.reducePow]
  refine ⟨?_, ?_, ?_, ?_, ?_, ?_, ?_, ?_⟩ <;> omega
theorem numByte_pos (n : Int) (h : 0 ≤ n) (h1 : n ≤ 9223372036854775807) :
    (n / 256 / 256 / 256 / 256 / 256 / 256 / 256 % 256 + 128 = ((numByte n 0).toNat : Int)) ∧ (n / 256 / 256 / 256 / 256 / 256 / 256 % 256 = ((numByte n 1).toNat : Int)) ∧
    (n / 256 / 256 / 256 / 256 / 256 % 256 = ((numByte n 2).toNat : Int)) ∧ (n / 256 / 256 / 256 / 256 % 256 = ((numByte n 3).toNat : Int)) ∧
    (n / 256 / 256 / 256 % 256 = ((numByte n 4).toNat : Int)) ∧ (n / 256 / 256 % 256 = ((numByte n 5).toNat : Int)) ∧
    (n / 256 % 256 = ((numByte n 6).toNat : Int)) ∧ (n % 256 = ((numByte n 7).toNat : Int)) := by
  simp only [numByte_int]
  simp only [Nat.reduceSub, Nat.reducePow]
  refine ⟨?_, ?_, ?_, ?_, ?_, ?_, ?_, ?_⟩ <;> omega
end Go.Proofs.Ytnapadpkfjpklaa
