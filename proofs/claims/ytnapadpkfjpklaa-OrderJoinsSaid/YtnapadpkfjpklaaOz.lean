/- Layer 1: what is written is read (plain). -/
import Derived.Test.YtnapadpkfjpklaaOy
namespace Go.Proofs.Ytnapadpkfjpklaa
open Go.RowKit

def norm (p : PartD) : PartD := if p.isText then ⟨true, 0, p.text⟩ else ⟨false, p.num, ⟨#[]⟩⟩

theorem rdText_enc : ∀ (s t r : List UInt8), preText t (rdText (encText s ++ 0 :: 1 :: r)) = (0, t ++ s, r)
  | [], t, r => by
    rw [show encText [] ++ 0 :: 1 :: r = 0 :: 1 :: r from rfl, rdText_end, List.append_nil]
  | c :: s, t, r => by
    by_cases h : c = 0
    · subst h
      rw [show encText (0 :: s) ++ 0 :: 1 :: r = 0 :: 255 :: (encText s ++ 0 :: 1 :: r) from by simp [encText], rdText_esc, rdText_enc s _ r]
      simp
    · rw [show encText (c :: s) ++ 0 :: 1 :: r = c :: (encText s ++ 0 :: 1 :: r) from by simp [encText, h], rdText_plain h, rdText_enc s _ r]
      simp

theorem natOf_cons (c : UInt8) (l : List UInt8) : natOf (c :: l) = c.toNat * 256 ^ l.length + natOf l := by
  have key : ∀ (l : List UInt8) (a : Nat), l.foldl (fun n c => 256 * n + c.toNat) a = a * 256 ^ l.length + l.foldl (fun n c => 256 * n + c.toNat) 0 := by
    intro l
    induction l with
    | nil => intro a; simp
    | cons x l ih =>
      intro a
      simp only [List.foldl_cons, List.length_cons]
      rw [ih (256 * a + x.toNat), ih (256 * 0 + x.toNat), Nat.pow_succ, Nat.add_mul, Nat.add_mul]
      have : 256 * a * 256 ^ l.length = a * (256 ^ l.length * 256) := by rw [Nat.mul_comm 256 a, Nat.mul_assoc, Nat.mul_comm 256]
      omega
  unfold natOf
  rw [List.foldl_cons, key]
  simp
theorem dig_length : ∀ (k u : Nat), (dig k u).length = k
  | 0, _ => rfl
  | k + 1, u => by simp [dig, dig_length k u]
theorem natOf_dig : ∀ (k u : Nat), natOf (dig k u) = u % 256 ^ k
  | 0, u => by simp [dig, natOf, Nat.mod_one]
  | k + 1, u => by
    have e2 : u % 256 ^ (k + 1) = u % 256 ^ k + 256 ^ k * (u / 256 ^ k % 256) := by rw [Nat.pow_succ]; exact Nat.mod_mul
    rw [dig, natOf_cons, dig_length, natOf_dig k u, UInt8.toNat_ofNat', e2, Nat.mul_comm (256 ^ k), Nat.add_comm]
theorem decNum_enc (n : Int) (h1 : -9223372036854775808 ≤ n) (h2 : n ≤ 9223372036854775807) : decNum (encNum n) = n := by
  have e : decNum (encNum n) = (natOf (encNum n) : Int) - 9223372036854775808 := rfl
  rw [e, encNum_dig, natOf_dig, Nat.mod_eq_of_lt (by rw [pow_8]; exact up_lt n h1 h2)]
  unfold up; omega

theorem rdPart_enc (p : PartD) (h1 : -9223372036854775808 ≤ p.num) (h2 : p.num ≤ 9223372036854775807) (r : List UInt8) : rdPart (encPart p ++ r) = (0, norm p, r) := by
  obtain ⟨tp, np, sp⟩ := p
  simp only at h1 h2
  cases tp
  · have hl : (encNum np ++ r).length = r.length + 8 := by rw [List.length_append, encNum_length]; omega
    have e1 : (encNum np ++ r).take 8 = encNum np := by rw [← encNum_length np]; exact List.take_left
    have e2 : (encNum np ++ r).drop 8 = r := by rw [← encNum_length np]; exact List.drop_left
    simp only [encPart, Bool.false_eq_true, if_false, List.cons_append, rdPart, if_true, hl, if_neg (show ¬ r.length + 8 < 8 from by omega), e1, e2, decNum_enc np h1 h2, norm]
  · have e := rdText_enc sp.data.toList [] r
    rw [preText_nil, List.nil_append] at e
    have e3 : encPart ⟨true, np, sp⟩ ++ r = 2 :: (encText sp.data.toList ++ 0 :: 1 :: r) := by simp [encPart]
    rw [e3]
    simp only [rdPart, show ¬ (2 : UInt8) = 1 from by decide, if_false, if_true, e, norm]
theorem rdAll_enc : ∀ (l s : List PartD), (∀ p ∈ l, -9223372036854775808 ≤ p.num ∧ p.num ≤ 9223372036854775807) → preAll s (rdAll (encParts l)) = (0, s ++ l.map norm)
  | [], s, _ => by rw [show encParts [] = [] from rfl, rdAll_nil]; simp
  | p :: l, s, h => by
    have e1 : encParts (p :: l) = encPart p ++ encParts l := by simp [encParts]
    have hne : encPart p ++ encParts l ≠ [] := by obtain ⟨z, y, e⟩ := encPart_head p; rw [e]; simp
    rw [e1, rdAll_step hne, rdPart_enc p (h p (by simp)).1 (h p (by simp)).2]
    simp only [if_true]
    rw [rdAll_enc l _ (fun q hq => h q (by simp [hq]))]
    simp
theorem cmpPart_norm (p : PartD) : cmpPart (norm p) p = 0 := by
  rcases p with ⟨_ | _, n, s⟩
  · simp [norm, cmpPart, cmpInt]
  · simp [norm, cmpPart, cmpStr_eq]
theorem cmpParts_norm : ∀ l : List PartD, cmpParts (l.map norm) l = 0
  | [] => rfl
  | p :: l => by
    simp only [List.map_cons]
    unfold cmpParts
    rw [if_pos (cmpPart_norm p), cmpParts_norm l]
theorem rdAll_written (l : List PartD) (h : ∀ p ∈ l, -9223372036854775808 ≤ p.num ∧ p.num ≤ 9223372036854775807) : rdAll (encParts l) = (0, l.map norm) := by
  have := rdAll_enc l [] h
  rwa [preAll_nil, List.nil_append] at this
end Go.Proofs.Ytnapadpkfjpklaa
