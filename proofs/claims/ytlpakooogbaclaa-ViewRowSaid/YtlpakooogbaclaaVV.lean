/- Plain facts on numbers' bytes, seven bits a byte. -/
import Derived.Test.YtlpakooogbaclaaRows
import Derived.Test.YtlpakooogbaclaaBstr
import Derived.WalkKit
namespace Go.Proofs.Ytlpakooogbaclaa
open Go.RowKit

/-- A number's bytes. -/
def encN (n : Nat) : List UInt8 := if n < 128 then [UInt8.ofNat n] else UInt8.ofNat (n % 128 + 128) :: encN (n / 128)
termination_by n
decreasing_by omega

theorem encN_lt {n : Nat} (h : n < 128) : encN n = [UInt8.ofNat n] := by rw [encN, if_pos h]
theorem encN_ge {n : Nat} (h : ¬ n < 128) : encN n = UInt8.ofNat (n % 128 + 128) :: encN (n / 128) := by rw [encN, if_neg h]
theorem encN_len (k n : Nat) (h : n < 128 ^ (k + 1)) : (encN n).length ≤ k + 1 := by
  induction k generalizing n with
  | zero => rw [encN_lt (by simpa using h)]; simp
  | succ k ih =>
    by_cases hn : n < 128
    · rw [encN_lt hn]; simp
    · rw [encN_ge hn, List.length_cons]
      have := ih (n / 128) (by rw [Nat.pow_succ] at h; exact Nat.div_lt_of_lt_mul (by omega))
      omega
theorem encN_nine (n : Nat) (h : n < 9223372036854775808) : (encN n).length ≤ 9 := encN_len 8 n (by simpa using h)

/-- A number, read: it, how many bytes it has, the error. -/
def rdGo : List UInt8 → Nat → Nat → Nat × Nat × Int
  | [], k, _ => if k = 9 then (0, 0, 2) else (0, 0, 3)
  | c :: t, k, acc => if k = 9 then (0, 0, 2) else if 128 ≤ c.toNat then rdGo t (k + 1) (acc + c.toNat % 128 * 128 ^ k)
    else if 4611686018427387904 ≤ acc + c.toNat % 128 * 128 ^ k ∨ (c.toNat = 0 ∧ 0 < k) then (0, 0, 2) else (acc + c.toNat % 128 * 128 ^ k, k + 1, 0)
def rdN (l : List UInt8) : Nat × Nat × Int := rdGo l 0 0

theorem rdGo_nine (l : List UInt8) (a : Nat) : rdGo l 9 a = (0, 0, 2) := by cases l <;> simp [rdGo]
theorem rdGo_nil (k a : Nat) (h : k ≠ 9) : rdGo [] k a = (0, 0, 3) := by simp [rdGo, h]
theorem rdGo_more (c : UInt8) (t : List UInt8) (k a : Nat) (h : k ≠ 9) (hc : 128 ≤ c.toNat) : rdGo (c :: t) k a = rdGo t (k + 1) (a + c.toNat % 128 * 128 ^ k) := by
  rw [rdGo, if_neg h, if_pos hc]
theorem rdGo_bad (c : UInt8) (t : List UInt8) (k a : Nat) (h : k ≠ 9) (hc : ¬ 128 ≤ c.toNat) (hb : 4611686018427387904 ≤ a + c.toNat % 128 * 128 ^ k ∨ (c.toNat = 0 ∧ 0 < k)) : rdGo (c :: t) k a = (0, 0, 2) := by
  rw [rdGo, if_neg h, if_neg hc, if_pos hb]
theorem rdGo_end (c : UInt8) (t : List UInt8) (k a : Nat) (h : k ≠ 9) (hc : ¬ 128 ≤ c.toNat) (hb : ¬ (4611686018427387904 ≤ a + c.toNat % 128 * 128 ^ k ∨ (c.toNat = 0 ∧ 0 < k))) : rdGo (c :: t) k a = (a + c.toNat % 128 * 128 ^ k, k + 1, 0) := by
  rw [rdGo, if_neg h, if_neg hc, if_neg hb]
end Go.Proofs.Ytlpakooogbaclaa
/- Layer 2: a number's bytes, put behind a row. -/
namespace Go.Proofs.Ytlpakooogbaclaa
open Go.RowKit
set_option linter.unusedVariables false

theorem one_bv (n : Int) (k : Nat) (h : k < 256) (hn : n = (k : Int)) : #[Value.int .u8 n] = (bv [UInt8.ofNat k]).toArray := by subst hn; simp [bv]; omega

end Go.Proofs.Ytlpakooogbaclaa
/- Layer 2: a number's bytes, and a text's, as the document's answer makes them. -/
namespace Go.Proofs.Ytlpakooogbaclaa
open Go.RowKit
set_option linter.unusedVariables false


/-- A text's length, and it. -/
def encT (s : ByteArray) : List UInt8 := encN s.size ++ s.data.toList

end Go.Proofs.Ytlpakooogbaclaa
/- Layer 2: numbers and texts, put behind bytes. -/
namespace Go.Proofs.Ytlpakooogbaclaa
open Go.RowKit
set_option linter.unusedVariables false

end Go.Proofs.Ytlpakooogbaclaa
/- Layer 2: numbers turned, and turned back; the document's examples. -/
namespace Go.Proofs.Ytlpakooogbaclaa
open Go.RowKit
set_option linter.unusedVariables false

end Go.Proofs.Ytlpakooogbaclaa
/- Layer 2: the document's examples. -/
namespace Go.Proofs.Ytlpakooogbaclaa
open Go.RowKit
set_option linter.unusedVariables false

end Go.Proofs.Ytlpakooogbaclaa
/- Layer 2: a number's bytes, read, by a jump back to its next byte. -/
namespace Go.Proofs.Ytlpakooogbaclaa
open Go.RowKit
set_option linter.unusedVariables false

theorem drop_at {l : List UInt8} {k : Nat} (h : k < l.length) : l.drop k = l[k] :: l.drop (k + 1) := List.drop_eq_getElem_cons h

theorem i64_or_nat (a b : Nat) (ha : a < 9223372036854775808) (hb : b < 9223372036854775808) : bits .or .i64 (a : Int) (b : Int) = ((a ||| b : Nat) : Int) := by
  have hx : a ||| b < 2 ^ 63 := Nat.or_lt_two_pow (by omega) (by omega)
  show IntKind.i64.wrap ((BitVec.ofInt 64 (a : Int) ||| BitVec.ofInt 64 (b : Int)).toNat : Int) = _
  rw [BitVec.toNat_or, BitVec.ofInt_natCast, BitVec.ofInt_natCast, BitVec.toNat_ofNat, BitVec.toNat_ofNat, Nat.mod_eq_of_lt (by omega), Nat.mod_eq_of_lt (by omega)]
  simp only [IntKind.wrap, IntKind.bits, IntKind.signed]
  generalize a ||| b = x at *
  simp
  omega

theorem or_step (acc x k : Nat) (hk : k ≤ 8) (ha : acc < 128 ^ k) (hx : x < 256) :
    bits .or .i64 (acc : Int) (wrap64 ((x : Int) % 128 * 2 ^ (7 * k))) = ((acc + x % 128 * 128 ^ k : Nat) : Int) ∧ acc + x % 128 * 128 ^ k < 128 ^ (k + 1) := by
  have e : (2 : Nat) ^ (7 * k) = 128 ^ k := by rw [Nat.pow_mul]
  have e2 : ((x : Int) % 128 * 2 ^ (7 * k)) = ((x % 128 * 128 ^ k : Nat) : Int) := by rw [← e]; simp
  have hy : x % 128 < 128 := Nat.mod_lt _ (by omega)
  have h1 : x % 128 * 128 ^ k + 128 ^ k ≤ 128 ^ (k + 1) := by
    rw [Nat.pow_succ]
    have := Nat.mul_le_mul_right (128 ^ k) (show x % 128 + 1 ≤ 128 from hy)
    rw [Nat.add_mul, Nat.one_mul] at this
    omega
  have h2 : 128 ^ (k + 1) ≤ 9223372036854775808 := by
    have := Nat.pow_le_pow_right (show 0 < 128 from by omega) (show k + 1 ≤ 9 from by omega)
    simpa using this
  have hor : acc ||| x % 128 * 128 ^ k = acc + x % 128 * 128 ^ k := by
    rw [Nat.or_comm, ← e, Nat.mul_comm, ← Nat.two_pow_add_eq_or_of_lt (by rw [e]; exact ha)]
    omega
  refine ⟨?_, by omega⟩
  rw [e2, show wrap64 ((x % 128 * 128 ^ k : Nat) : Int) = ((x % 128 * 128 ^ k : Nat) : Int) from by unfold wrap64; omega, i64_or_nat _ _ (by omega) (by omega), hor]

end Go.Proofs.Ytlpakooogbaclaa
/- Plain facts on numbers' bytes: what is read is what was put; the document's way of reading. -/
namespace Go.Proofs.Ytlpakooogbaclaa
open Go.RowKit

end Go.Proofs.Ytlpakooogbaclaa
/- Layer 2: a reader. -/
namespace Go.Proofs.Ytlpakooogbaclaa
open Go.RowKit
set_option linter.unusedVariables false

/-- p is a reader, in block g, of memory from base on, that is ahead of l, with the error e. -/
structure RdR (w : World) (base g : Nat) (p : Value) (l : List UInt8) (e : Int) : Prop where
  ptr : p = .pointer (some ⟨g, 0, none⟩)
  lt : g < w.heap.size
  from' : base ≤ g
  err : w.cell? ⟨g, 1, none⟩ = some (.int .i64 e)
  frz0 : w.frozen? ⟨g, 0, none⟩ = false
  frz1 : w.frozen? ⟨g, 1, none⟩ = false
  left : ∃ sl, w.cell? ⟨g, 0, none⟩ = some sl ∧ RdB w g sl l ∧ ∀ k, sl.ownBlock = some k → base ≤ k

theorem RdR.on {w w' : World} {base g : Nat} {p : Value} {l : List UInt8} {e : Int} (h : RdR w base g p l e) (hb : Below w.heap.size w w') : RdR w' base g p l e := by
  obtain ⟨h1, h2, h3, h4, h5, h6, sl, h7, h8, h9⟩ := h
  exact ⟨h1, Nat.lt_of_lt_of_le h2 hb.size, h3, (hb.cell (p := ⟨g, 1, none⟩) h2).trans h4, (hb.frozen (p := ⟨g, 0, none⟩) h2).trans h5, (hb.frozen (p := ⟨g, 1, none⟩) h2).trans h6, sl, (hb.cell (p := ⟨g, 0, none⟩) h2).trans h7, h8.below (hb.mono (Nat.le_of_lt h2)), h9⟩

/-- What a number read leaves. -/
def stepN (l : List UInt8) (e : Int) : Nat × List UInt8 × Int := if e ≠ 0 then (0, l, e) else if (rdN l).2.2 ≠ 0 then (0, [], (rdN l).2.2) else ((rdN l).1, l.drop (rdN l).2.1, 0)

end Go.Proofs.Ytlpakooogbaclaa
/- Layer 2: a text, read. -/
namespace Go.Proofs.Ytlpakooogbaclaa
open Go.RowKit
set_option linter.unusedVariables false

/-- What a text read leaves. -/
def stepT (l : List UInt8) (e : Int) (most : Int) : List UInt8 × List UInt8 × Int :=
  if (stepN l e).2.2 ≠ 0 then ([], (stepN l e).2.1, (stepN l e).2.2) else if most < (stepN l e).1 then ([], [], 5) else
    if (stepN l e).2.1.length < (stepN l e).1 then ([], [], 3) else ((stepN l e).2.1.take (stepN l e).1, (stepN l e).2.1.drop (stepN l e).1, 0)

end Go.Proofs.Ytlpakooogbaclaa
