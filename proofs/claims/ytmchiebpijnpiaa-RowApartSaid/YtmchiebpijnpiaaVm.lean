/- Plain facts on numbers' bytes, seven bits a byte. -/
import Derived.Test.YtmchiebpijnpiaaRows
import Derived.WalkKit
namespace Go.Proofs.Ytmchiebpijnpiaa
open Go.RowKit

/-- A number's bytes. -/
def encN (n : Nat) : List UInt8 := if n < 128 then [UInt8.ofNat n] else UInt8.ofNat (n % 128 + 128) :: encN (n / 128)
termination_by n
decreasing_by omega

theorem encN_lt {n : Nat} (h : n < 128) : encN n = [UInt8.ofNat n] := by rw [encN, if_pos h]
theorem encN_ge {n : Nat} (h : ¬ n < 128) : encN n = UInt8.ofNat (n % 128 + 128) :: encN (n / 128) := by rw [encN, if_neg h]
theorem encN_len (k n : Nat) (h : n < 128 ^ (k + 1)) : (encN n).length ≤ k + 1 := by
  induction k generalizing n with
  | zero => rw [encN_lt (by simpa using h)]; simp
  | succ k ih =>
    by_cases hn : n < 128
    · rw [encN_lt hn]; simp
    · rw [encN_ge hn, List.length_cons]
      have := ih (n / 128) (by rw [Nat.pow_succ] at h; exact Nat.div_lt_of_lt_mul (by omega))
      omega
theorem encN_nine (n : Nat) (h : n < 9223372036854775808) : (encN n).length ≤ 9 := encN_len 8 n (by simpa using h)
theorem encN_pos (n : Nat) : 0 < (encN n).length := by
  by_cases hn : n < 128
  · rw [encN_lt hn]; simp
  · rw [encN_ge hn]; simp

/-- A number, read: it, how many bytes it has, the error. -/
def rdGo : List UInt8 → Nat → Nat → Nat × Nat × Int
  | [], k, _ => if k = 9 then (0, 0, 2) else (0, 0, 3)
  | c :: t, k, acc => if k = 9 then (0, 0, 2) else if 128 ≤ c.toNat then rdGo t (k + 1) (acc + c.toNat % 128 * 128 ^ k)
    else if 4611686018427387904 ≤ acc + c.toNat % 128 * 128 ^ k ∨ (c.toNat = 0 ∧ 0 < k) then (0, 0, 2) else (acc + c.toNat % 128 * 128 ^ k, k + 1, 0)
def rdN (l : List UInt8) : Nat × Nat × Int := rdGo l 0 0

theorem rdGo_nine (l : List UInt8) (a : Nat) : rdGo l 9 a = (0, 0, 2) := by cases l <;> simp [rdGo]
theorem rdGo_nil (k a : Nat) (h : k ≠ 9) : rdGo [] k a = (0, 0, 3) := by simp [rdGo, h]
theorem rdGo_more (c : UInt8) (t : List UInt8) (k a : Nat) (h : k ≠ 9) (hc : 128 ≤ c.toNat) : rdGo (c :: t) k a = rdGo t (k + 1) (a + c.toNat % 128 * 128 ^ k) := by
  rw [rdGo, if_neg h, if_pos hc]
theorem rdGo_bad (c : UInt8) (t : List UInt8) (k a : Nat) (h : k ≠ 9) (hc : ¬ 128 ≤ c.toNat) (hb : 4611686018427387904 ≤ a + c.toNat % 128 * 128 ^ k ∨ (c.toNat = 0 ∧ 0 < k)) : rdGo (c :: t) k a = (0, 0, 2) := by
  rw [rdGo, if_neg h, if_neg hc, if_pos hb]
theorem rdGo_end (c : UInt8) (t : List UInt8) (k a : Nat) (h : k ≠ 9) (hc : ¬ 128 ≤ c.toNat) (hb : ¬ (4611686018427387904 ≤ a + c.toNat % 128 * 128 ^ k ∨ (c.toNat = 0 ∧ 0 < k))) : rdGo (c :: t) k a = (a + c.toNat % 128 * 128 ^ k, k + 1, 0) := by
  rw [rdGo, if_neg h, if_neg hc, if_neg hb]
end Go.Proofs.Ytmchiebpijnpiaa
