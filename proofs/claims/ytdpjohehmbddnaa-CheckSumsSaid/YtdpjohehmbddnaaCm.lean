/- Plain facts on check sums: the register as a number; as a row of bits; that one byte more or less tells. -/
import Derived.Test.YtdpjohehmbddnaaRows
import Derived.WalkKit
namespace Go.Proofs.Ytdpjohehmbddnaa
open Go.RowKit

def poly : Nat := 3988292384
/-- One bit out of the register. -/
def crcBit (r : Nat) : Nat := if r % 2 = 1 then r / 2 ^^^ 3988292384 else r / 2
def crcBits : Nat → Nat → Nat
  | 0, r => r
  | k + 1, r => crcBits k (crcBit r)
/-- One byte into it. -/
def crcByte (r : Nat) (c : UInt8) : Nat := crcBits 8 (r ^^^ c.toNat)
def crcGo (r : Nat) (l : List UInt8) : Nat := l.foldl crcByte r
def crcN (l : List UInt8) : Nat := crcGo 4294967295 l ^^^ 4294967295

theorem xor_lt {a b k : Nat} (ha : a < 2 ^ k) (hb : b < 2 ^ k) : a ^^^ b < 2 ^ k := Nat.xor_lt_two_pow ha hb
theorem crcBit_lt {r : Nat} (h : r < 4294967296) : crcBit r < 4294967296 := by
  unfold crcBit
  split
  · exact xor_lt (k := 32) (by omega) (by decide)
  · omega
theorem crcBits_lt (k : Nat) : ∀ {r : Nat}, r < 4294967296 → crcBits k r < 4294967296 := by
  induction k with
  | zero => intro r h; exact h
  | succ k ih => intro r h; exact ih (crcBit_lt h)
theorem crcByte_lt {r : Nat} (c : UInt8) (h : r < 4294967296) : crcByte r c < 4294967296 :=
  crcBits_lt 8 (xor_lt (k := 32) h (by have := c.toNat_lt; omega))
theorem crcGo_lt (l : List UInt8) : ∀ {r : Nat}, r < 4294967296 → crcGo r l < 4294967296 := by
  induction l with
  | nil => intro r h; exact h
  | cons c l ih => intro r h; exact ih (crcByte_lt c h)
theorem crcN_lt (l : List UInt8) : crcN l < 4294967296 := xor_lt (k := 32) (crcGo_lt l (by omega)) (by decide)
theorem crcGo_append (r : Nat) (l m : List UInt8) : crcGo r (l ++ m) = crcGo (crcGo r l) m := by simp [crcGo]
theorem crcGo_cons (r : Nat) (c : UInt8) (m : List UInt8) : crcGo r (c :: m) = crcGo (crcByte r c) m := rfl

theorem xor_cancel {a b c : Nat} (h : a ^^^ c = b ^^^ c) : a = b := by
  have := congrArg (· ^^^ c) h
  simpa [Nat.xor_assoc, Nat.xor_self] using this
theorem xor_cancel_left {a b c : Nat} (h : c ^^^ a = c ^^^ b) : a = b := xor_cancel (by rwa [Nat.xor_comm a c, Nat.xor_comm b c])
/-- The last bit that came out stands in the highest one. -/
theorem crcBit_high {r : Nat} (h : r < 4294967296) : (crcBit r).testBit 31 = decide (r % 2 = 1) := by
  unfold crcBit
  have hr : (r / 2).testBit 31 = false := Nat.testBit_lt_two_pow (by omega)
  split
  · rename_i h1
    rw [Nat.testBit_xor, hr, h1]; decide
  · rename_i h1
    rw [hr]; simp [h1]
theorem crcBit_inj {a b : Nat} (ha : a < 4294967296) (hb : b < 4294967296) (h : crcBit a = crcBit b) : a = b := by
  have h1 := crcBit_high ha
  have h2 := crcBit_high hb
  rw [h, h2] at h1
  have h3 : (b % 2 = 1) ↔ (a % 2 = 1) := by simpa using h1
  unfold crcBit at h
  by_cases ho : a % 2 = 1
  · rw [if_pos ho, if_pos (h3.2 ho)] at h
    have := xor_cancel h
    have := h3.2 ho
    omega
  · rw [if_neg ho, if_neg (fun hx => ho (h3.1 hx))] at h
    have : ¬ b % 2 = 1 := fun hx => ho (h3.1 hx)
    omega
theorem crcBits_inj (k : Nat) : ∀ {a b : Nat}, a < 4294967296 → b < 4294967296 → crcBits k a = crcBits k b → a = b := by
  induction k with
  | zero => intro a b _ _ h; exact h
  | succ k ih => intro a b ha hb h; exact crcBit_inj ha hb (ih (crcBit_lt ha) (crcBit_lt hb) h)
theorem byte_lt (r : Nat) (c : UInt8) (h : r < 4294967296) : r ^^^ c.toNat < 4294967296 := xor_lt (k := 32) h (by have := c.toNat_lt; omega)
theorem crcByte_inj {a b : Nat} (c : UInt8) (ha : a < 4294967296) (hb : b < 4294967296) (h : crcByte a c = crcByte b c) : a = b :=
  xor_cancel (crcBits_inj 8 (byte_lt a c ha) (byte_lt b c hb) h)
theorem crcByte_inj2 {a : Nat} (c d : UInt8) (ha : a < 4294967296) (h : crcByte a c = crcByte a d) : c = d :=
  UInt8.toNat_inj.1 (xor_cancel_left (crcBits_inj 8 (byte_lt a c ha) (byte_lt a d ha) h))
theorem crcGo_inj (l : List UInt8) : ∀ {a b : Nat}, a < 4294967296 → b < 4294967296 → crcGo a l = crcGo b l → a = b := by
  induction l with
  | nil => intro a b _ _ h; exact h
  | cons c l ih => intro a b ha hb h; exact crcByte_inj c ha hb (ih (crcByte_lt c ha) (crcByte_lt c hb) h)
/-- With one byte another one the sum is another one. -/
theorem crcN_turned (p q : List UInt8) (c d : UInt8) (h : crcN (p ++ c :: q) = crcN (p ++ d :: q)) : c = d := by
  have h1 := xor_cancel h
  rw [crcGo_append, crcGo_append, crcGo_cons, crcGo_cons] at h1
  have hp : crcGo 4294967295 p < 4294967296 := crcGo_lt p (by omega)
  exact crcByte_inj2 c d hp (crcGo_inj q (crcByte_lt c hp) (crcByte_lt d hp) h1)

/-- The register as the document's answer has it: 32 bits, the lowest first. -/
def bit (r i : Nat) : Nat := if r.testBit i then 1 else 0
def bitsOf (r : Nat) : List Nat := (List.range 32).map (bit r)
theorem bitsOf_length (r : Nat) : (bitsOf r).length = 32 := by simp [bitsOf]
theorem bit_le (r i : Nat) : bit r i ≤ 1 := by unfold bit; split <;> omega
theorem bit_eq (r i : Nat) : bit r i = r / 2 ^ i % 2 := by
  unfold bit
  rw [Nat.testBit_eq_decide_div_mod_eq]
  by_cases h : r / 2 ^ i % 2 = 1
  · simp [h]
  · have : r / 2 ^ i % 2 = 0 := by omega
    simp [this]
theorem bit_xor (a b i : Nat) : bit (a ^^^ b) i = (bit a i + bit b i) % 2 := by
  unfold bit
  rw [Nat.testBit_xor]
  cases a.testBit i <;> cases b.testBit i <;> rfl
theorem bit_crc (r i : Nat) (hi : i < 31) : bit (crcBit r) i = (bit r (i + 1) + bit r 0 * bit 3988292384 i) % 2 := by
  have h0 : bit r 0 = r % 2 := by rw [bit_eq]; simp
  have hs : bit (r / 2) i = bit r (i + 1) := by
    rw [bit_eq, bit_eq, Nat.pow_succ, Nat.mul_comm (2 ^ i) 2, Nat.div_div_eq_div_mul]
  have h1 := bit_le r (i + 1)
  unfold crcBit
  split
  · rename_i h
    rw [bit_xor, hs, h0, h, Nat.one_mul]
  · rename_i h
    have : r % 2 = 0 := by omega
    rw [hs, h0, this, Nat.zero_mul, Nat.add_zero]; omega
theorem bit_crc_high (r : Nat) (h : r < 4294967296) : bit (crcBit r) 31 = bit r 0 * bit 3988292384 31 := by
  have h0 : bit r 0 = r % 2 := by rw [bit_eq]; simp
  have hp : bit 3988292384 31 = 1 := by decide
  rw [h0, hp]
  unfold bit
  rw [crcBit_high h]
  by_cases h1 : r % 2 = 1
  · simp [h1]
  · have : r % 2 = 0 := by omega
    simp [this]
end Go.Proofs.Ytdpjohehmbddnaa
