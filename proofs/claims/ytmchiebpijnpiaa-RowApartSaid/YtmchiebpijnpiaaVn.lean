/- Plain facts on numbers' bytes: what is read is what was put; the document's way of reading. -/
import Derived.Test.YtmchiebpijnpiaaVm
namespace Go.Proofs.Ytmchiebpijnpiaa
open Go.RowKit

/-- The number of seven bits a byte, the lowest first. -/
def valN : List UInt8 → Nat
  | [] => 0
  | c :: t => c.toNat % 128 + 128 * valN t

theorem valN_append (p q : List UInt8) : valN (p ++ q) = valN p + 128 ^ p.length * valN q := by
  induction p with
  | nil => simp [valN]
  | cons c t ih => simp only [List.cons_append, valN, ih, List.length_cons, Nat.pow_succ]; rw [Nat.mul_add, Nat.mul_comm (128 ^ t.length) 128, Nat.mul_assoc]; omega
theorem valN_lt (p : List UInt8) : valN p < 128 ^ p.length := by
  induction p with
  | nil => simp [valN]
  | cons c t ih =>
    simp only [valN, List.length_cons, Nat.pow_succ]
    have : c.toNat % 128 < 128 := Nat.mod_lt _ (by omega)
    omega
theorem rdGo_split (p t : List UInt8) : ∀ (k acc : Nat), (∀ x ∈ p, 128 ≤ x.toNat) → k + p.length ≤ 9 → rdGo (p ++ t) k acc = rdGo t (k + p.length) (acc + valN p * 128 ^ k) := by
  induction p with
  | nil => intro k acc _ _; simp [valN]
  | cons c p ih =>
    intro k acc hp hk
    rw [List.length_cons] at hk
    rw [List.cons_append, rdGo_more c _ k acc (by omega) (hp c (by simp)), ih (k + 1) _ (fun x hx => hp x (by simp [hx])) (by omega)]
    congr 1
    · simp only [List.length_cons]; omega
    · simp only [valN, Nat.pow_succ]
      rw [Nat.add_mul, Nat.mul_comm 128 (valN p), Nat.mul_assoc, Nat.mul_comm (128 ^ k) 128]
      omega
/-- What the document's loop has when k bytes ahead are 128 or more. -/
theorem rdN_at (l : List UInt8) (k : Nat) (hk : k ≤ 9) (hl : k ≤ l.length) (h : ∀ x ∈ l.take k, 128 ≤ x.toNat) : rdN l = rdGo (l.drop k) k (valN (l.take k)) := by
  have hlen : (l.take k).length = k := by rw [List.length_take]; omega
  have := rdGo_split (l.take k) (l.drop k) 0 0 h (by omega)
  rw [List.take_append_drop, hlen] at this
  rw [rdN, this]; simp
theorem encN_len_ge (k n : Nat) (h : 128 ^ k ≤ n) : k + 1 ≤ (encN n).length := by
  induction k generalizing n with
  | zero => exact encN_pos n
  | succ k ih =>
    have h1 : 128 ≤ n := Nat.le_trans (by rw [Nat.pow_succ]; have : 0 < 128 ^ k := Nat.pow_pos (by omega); omega) h
    rw [encN_ge (by omega), List.length_cons]
    have := ih (n / 128) (by rw [Nat.pow_succ] at h; exact (Nat.le_div_iff_mul_le (by omega)).2 h)
    omega
/-- A number of k + 1 bytes, the last c: they are as few as may be just if c is not 0, or it is alone. -/
theorem few_iff (a c k : Nat) (ha : a < 128 ^ k) (hc : c < 128) : (encN (a + c * 128 ^ k)).length = k + 1 ↔ ¬ (c = 0 ∧ 0 < k) := by
  constructor
  · rintro h ⟨rfl, hk⟩
    obtain ⟨j, rfl⟩ : ∃ j, k = j + 1 := ⟨k - 1, by omega⟩
    have := encN_len j (a + 0 * 128 ^ (j + 1)) (by simpa using ha)
    omega
  · intro h
    have h1 : a + c * 128 ^ k < 128 ^ (k + 1) := by
      have := Nat.mul_le_mul_right (128 ^ k) (show c + 1 ≤ 128 from hc)
      rw [Nat.add_mul, Nat.one_mul] at this
      rw [Nat.pow_succ, Nat.mul_comm (128 ^ k) 128]
      omega
    have h2 := encN_len k _ h1
    rcases Nat.eq_zero_or_pos k with rfl | hk
    · have := encN_pos (a + c * 128 ^ 0); omega
    · have hc0 : 1 ≤ c := by omega
      have h3 := encN_len_ge k (a + c * 128 ^ k) (by have := Nat.mul_le_mul_right (128 ^ k) hc0; omega)
      omega

/-- What is put is read. -/
theorem rdGo_enc (n : Nat) : ∀ (k acc : Nat) (r : List UInt8), k + (encN n).length ≤ 9 → acc + n * 128 ^ k < 4611686018427387904 → (n = 0 → k = 0) → rdGo (encN n ++ r) k acc = (acc + n * 128 ^ k, k + (encN n).length, 0) := by
  induction n using Nat.strongRecOn with
  | ind n ih =>
    intro k acc r hk hb h0
    by_cases hn : n < 128
    · rw [encN_lt hn] at hk ⊢
      simp only [List.length_singleton] at hk ⊢
      have e : (UInt8.ofNat n).toNat = n := by rw [UInt8.toNat_ofNat']; omega
      rw [List.singleton_append, rdGo_end _ _ k acc (by omega) (by rw [e]; omega) (by rw [e, Nat.mod_eq_of_lt hn]; omega), e, Nat.mod_eq_of_lt hn]
    · rw [encN_ge hn] at hk ⊢
      simp only [List.length_cons] at hk ⊢
      have e : (UInt8.ofNat (n % 128 + 128)).toNat = n % 128 + 128 := by rw [UInt8.toNat_ofNat']; omega
      have e2 : acc + (n % 128 + 128) % 128 * 128 ^ k + n / 128 * 128 ^ (k + 1) = acc + n * 128 ^ k := by
        have : (n % 128 + 128) % 128 = n % 128 := by omega
        rw [this, Nat.pow_succ, Nat.mul_comm (128 ^ k) 128, ← Nat.mul_assoc, Nat.add_assoc, ← Nat.add_mul]
        congr 2
        omega
      rw [List.cons_append, rdGo_more _ _ k acc (by omega) (by rw [e]; omega), e, ih (n / 128) (by omega) (k + 1) _ r (by omega) (by omega) (by omega), e2]
      congr 2
      omega
theorem rdN_enc (n : Nat) (r : List UInt8) (h : n < 4611686018427387904) : rdN (encN n ++ r) = (n, (encN n).length, 0) := by
  have := rdGo_enc n 0 0 r (by have := encN_nine n (by omega); omega) (by omega) (fun _ => rfl)
  rw [rdN, this]; simp

theorem rdGo_size (l : List UInt8) : ∀ (k acc : Nat), (rdGo l k acc).2.2 = 0 → (rdGo l k acc).2.1 ≤ k + l.length ∧ (rdGo l k acc).1 < 4611686018427387904 := by
  induction l with
  | nil => intro k acc h; exfalso; revert h; rw [rdGo]; split <;> simp
  | cons c t ih =>
    intro k acc
    rw [rdGo]
    split
    · simp
    · split
      · intro h
        have := ih _ _ h
        rw [List.length_cons]
        exact ⟨by omega, this.2⟩
      · split
        · simp
        · rename_i h9 hc hb
          intro _
          rw [List.length_cons]
          exact ⟨by simp, by simp only at *; omega⟩
theorem rdGo_zero (l : List UInt8) : ∀ (k acc : Nat), (rdGo l k acc).2.2 ≠ 0 → (rdGo l k acc).1 = 0 := by
  induction l with
  | nil => intro k acc; rw [rdGo]; split <;> simp
  | cons c t ih =>
    intro k acc
    rw [rdGo]
    split
    · simp
    · split
      · exact ih _ _
      · split <;> simp
theorem rdN_size (l : List UInt8) (h : (rdN l).2.2 = 0) : (rdN l).2.1 ≤ l.length ∧ (rdN l).1 < 4611686018427387904 := by
  have := rdGo_size l 0 0 h
  exact ⟨by have := this.1; rw [Nat.zero_add] at this; exact this, this.2⟩
theorem rdN_zero (l : List UInt8) (h : (rdN l).2.2 ≠ 0) : (rdN l).1 = 0 := rdGo_zero l 0 0 h
end Go.Proofs.Ytmchiebpijnpiaa
