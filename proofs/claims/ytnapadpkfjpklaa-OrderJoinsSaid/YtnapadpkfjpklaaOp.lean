/- Layer 1: bytes of tuples are in their order (plain). -/
import Derived.Test.YtnapadpkfjpklaaOh
namespace Go.Proofs.Ytnapadpkfjpklaa
open Go.RowKit

theorem cmpStr_cons (x : UInt8) (a b : List UInt8) : cmpStr (x :: a) (x :: b) = cmpStr a b := by
  simp [cmpStr, Op.bytesLess]
theorem cmpStr_app (p a b : List UInt8) : cmpStr (p ++ a) (p ++ b) = cmpStr a b := by
  induction p with
  | nil => rfl
  | cons x p ih => rw [List.cons_append, List.cons_append, cmpStr_cons, ih]
theorem cmpStr_head {x y : UInt8} (h : x.toNat < y.toNat) (a b : List UInt8) : cmpStr (x :: a) (y :: b) = -1 ∧ cmpStr (y :: b) (x :: a) = 1 := by
  have h1 : Op.bytesLess (x :: a) (y :: b) = true := by simp [Op.bytesLess, UInt8.lt_iff_toNat_lt, h]
  exact ⟨cmpStr_lt h1, cmpStr_gt h1⟩
theorem cmpStr_nil_cons (x : UInt8) (a : List UInt8) : cmpStr [] (x :: a) = -1 ∧ cmpStr (x :: a) [] = 1 := by
  have h1 : Op.bytesLess [] (x :: a) = true := by simp [Op.bytesLess]
  exact ⟨cmpStr_lt h1, cmpStr_gt h1⟩
theorem u8_ne {x y : UInt8} (h : x ≠ y) : x.toNat < y.toNat ∨ y.toNat < x.toNat := by
  have : x.toNat ≠ y.toNat := fun e => h (UInt8.toNat_inj.1 e)
  omega
theorem u8_pos {x : UInt8} (h : x ≠ 0) : (0 : UInt8).toNat < x.toNat := by
  have : x.toNat ≠ (0 : UInt8).toNat := fun e => h (UInt8.toNat_inj.1 e)
  have h0 : (0 : UInt8).toNat = 0 := rfl
  omega

theorem cmp_text : ∀ (s t : List UInt8), (s = t ∨ ∀ r r' : List UInt8, cmpStr (encText s ++ (0 :: 1 :: r)) (encText t ++ (0 :: 1 :: r')) = cmpStr s t)
  | [], [] => .inl rfl
  | [], c :: t => .inr fun r r' => by
    rw [(cmpStr_nil_cons c t).1]
    by_cases h : c = 0
    · subst h
      simp only [encText, if_true, List.nil_append, List.cons_append]
      rw [cmpStr_cons, (cmpStr_head (x := 1) (y := 255) (by decide) _ _).1]
    · simp only [encText, if_neg h, List.nil_append, List.cons_append]
      rw [(cmpStr_head (u8_pos h) _ _).1]
  | c :: s, [] => .inr fun r r' => by
    rw [(cmpStr_nil_cons c s).2]
    by_cases h : c = 0
    · subst h
      simp only [encText, if_true, List.nil_append, List.cons_append]
      rw [cmpStr_cons, (cmpStr_head (x := 1) (y := 255) (by decide) _ _).2]
    · simp only [encText, if_neg h, List.nil_append, List.cons_append]
      rw [(cmpStr_head (u8_pos h) _ _).2]
  | c :: s, d :: t => by
    by_cases hcd : c = d
    · subst hcd
      rcases cmp_text s t with rfl | ih
      · exact .inl rfl
      · refine .inr fun r r' => ?_
        rw [cmpStr_cons]
        by_cases h : c = 0
        · subst h
          simp only [encText, if_true, List.cons_append]
          rw [cmpStr_cons, cmpStr_cons, ih]
        · simp only [encText, if_neg h, List.cons_append]
          rw [cmpStr_cons, ih]
    · refine .inr fun r r' => ?_
      have hs : ∀ (c : UInt8) (s r : List UInt8), ∃ z, encText (c :: s) ++ r = c :: z := fun c s r => by
        by_cases h : c = 0
        · subst h; exact ⟨255 :: (encText s ++ r), by simp [encText]⟩
        · exact ⟨encText s ++ r, by simp [encText, h]⟩
      obtain ⟨z1, e1⟩ := hs c s (0 :: 1 :: r)
      obtain ⟨z2, e2⟩ := hs d t (0 :: 1 :: r')
      rw [e1, e2]
      rcases u8_ne hcd with h | h
      · rw [(cmpStr_head h _ _).1, (cmpStr_head h _ _).1]
      · rw [(cmpStr_head h _ _).2, (cmpStr_head h _ _).2]

/-- The k lowest bytes of u, the highest first. -/
def dig : Nat → Nat → List UInt8
  | 0, _ => []
  | k + 1, u => UInt8.ofNat (u / 256 ^ k) :: dig k u
theorem encNum_dig (n : Int) : encNum n = dig 8 (up n) := by
  rw [encNum_eq]; simp [dig, numByte]
theorem dig_mod (k : Nat) : ∀ (j u : Nat), j ≤ k → dig j (u % 256 ^ k) = dig j u := by
  intro j
  induction j with
  | zero => intro u _; rfl
  | succ j ih =>
    intro u hj
    simp only [dig]
    rw [ih u (by omega)]
    congr 1
    have e : 256 ^ k = 256 ^ j * (256 * 256 ^ (k - j - 1)) := by
      rw [show k = j + (1 + (k - j - 1)) from by omega, Nat.pow_add, Nat.pow_add]; simp
    apply UInt8.toNat_inj.1
    rw [UInt8.toNat_ofNat', UInt8.toNat_ofNat', e, Nat.mod_mul_right_div_self]
    exact Nat.mod_mul_right_mod _ _ _
theorem cmp_dig : ∀ (k u v : Nat), u < 256 ^ k → v < 256 ^ k → u < v → ∀ r s : List UInt8, cmpStr (dig k u ++ r) (dig k v ++ s) = -1 ∧ cmpStr (dig k v ++ s) (dig k u ++ r) = 1 := by
  intro k
  induction k with
  | zero => intro u v hu hv h; simp at hu hv; omega
  | succ k ih =>
    intro u v hu hv h r s
    have hp : 0 < 256 ^ k := Nat.pow_pos (by omega)
    have hu1 : u / 256 ^ k < 256 := by rw [Nat.div_lt_iff_lt_mul hp]; rwa [Nat.pow_succ, Nat.mul_comm] at hu
    have hv1 : v / 256 ^ k < 256 := by rw [Nat.div_lt_iff_lt_mul hp]; rwa [Nat.pow_succ, Nat.mul_comm] at hv
    have hu2 := Nat.div_add_mod u (256 ^ k)
    have hv2 := Nat.div_add_mod v (256 ^ k)
    have hle : u / 256 ^ k ≤ v / 256 ^ k := Nat.div_le_div_right (Nat.le_of_lt h)
    simp only [dig, List.cons_append]
    rcases Nat.lt_or_eq_of_le hle with hlt | heq
    · exact cmpStr_head (by rw [UInt8.toNat_ofNat', UInt8.toNat_ofNat', Nat.mod_eq_of_lt hu1, Nat.mod_eq_of_lt hv1]; exact hlt) _ _
    · rw [heq, cmpStr_cons, cmpStr_cons, ← dig_mod k k u (Nat.le_refl _), ← dig_mod k k v (Nat.le_refl _)]
      refine ih _ _ (Nat.mod_lt _ hp) (Nat.mod_lt _ hp) ?_ r s
      rw [heq] at hu2
      omega

theorem up_lt_iff {a b : Int} (ha : -9223372036854775808 ≤ a) (hb : -9223372036854775808 ≤ b) : up a < up b ↔ a < b := by unfold up; omega
theorem pow_8 : (256 : Nat) ^ 8 = 18446744073709551616 := by decide

theorem cmp_encPart (p q : PartD) (hp : -9223372036854775808 ≤ p.num ∧ p.num ≤ 9223372036854775807) (hq : -9223372036854775808 ≤ q.num ∧ q.num ≤ 9223372036854775807) :
    (cmpPart p q = 0 ∧ encPart p = encPart q) ∨ (cmpPart p q ≠ 0 ∧ ∀ r s : List UInt8, cmpStr (encPart p ++ r) (encPart q ++ s) = cmpPart p q) := by
  obtain ⟨tp, np, sp⟩ := p
  obtain ⟨tq, nq, sq⟩ := q
  simp only at hp hq
  rcases tp with _ | _ <;> rcases tq with _ | _
  · simp only [cmpPart, encPart, Bool.false_eq_true, if_false, List.cons_append, encNum_dig]
    unfold cmpInt
    have hu := up_lt np hp.1 hp.2
    have hv := up_lt nq hq.1 hq.2
    rw [← pow_8] at hu hv
    by_cases h1 : np < nq
    · refine .inr ⟨by rw [if_pos h1]; omega, fun r s => ?_⟩
      rw [cmpStr_cons, (cmp_dig 8 _ _ hu hv ((up_lt_iff hp.1 hq.1).2 h1) r s).1, if_pos h1]
    · by_cases h2 : nq < np
      · refine .inr ⟨by rw [if_neg h1, if_pos h2]; omega, fun r s => ?_⟩
        rw [cmpStr_cons, (cmp_dig 8 _ _ hv hu ((up_lt_iff hq.1 hp.1).2 h2) s r).2, if_neg h1, if_pos h2]
      · have : np = nq := by omega
        subst this
        exact .inl ⟨by rw [if_neg h1, if_neg h1], rfl⟩
  · refine .inr ⟨by simp [cmpPart], fun r s => ?_⟩
    simp only [cmpPart, encPart, Bool.false_eq_true, if_false, if_true, List.cons_append]
    exact (cmpStr_head (by decide) _ _).1
  · refine .inr ⟨by simp [cmpPart], fun r s => ?_⟩
    simp only [cmpPart, encPart, Bool.false_eq_true, if_false, if_true, List.cons_append]
    exact (cmpStr_head (by decide) _ _).2
  · simp only [cmpPart, encPart, if_true, List.cons_append]
    rw [ByteArray.toList_eq, ByteArray.toList_eq]
    rcases cmp_text sp.data.toList sq.data.toList with h | h
    · rw [h]; exact .inl ⟨cmpStr_eq _, rfl⟩
    · by_cases h0 : sp.data.toList = sq.data.toList
      · rw [h0]; exact .inl ⟨cmpStr_eq _, rfl⟩
      · refine .inr ⟨?_, fun r s => ?_⟩
        · rcases hb : Op.bytesLess sp.data.toList sq.data.toList with _ | _
          · rw [cmpStr_gt (less_total _ _ hb h0)]; omega
          · rw [cmpStr_lt hb]; omega
        · rw [cmpStr_cons, List.append_assoc, List.append_assoc]
          exact h r s

theorem encPart_head (p : PartD) : ∃ z y, encPart p = z :: y := by
  rcases p with ⟨_ | _, n, s⟩
  · exact ⟨1, encNum n, rfl⟩
  · exact ⟨2, encText s.data.toList ++ [0, 1], rfl⟩

theorem cmp_encParts : ∀ (l m : List PartD), (∀ p ∈ l, -9223372036854775808 ≤ p.num ∧ p.num ≤ 9223372036854775807) → (∀ p ∈ m, -9223372036854775808 ≤ p.num ∧ p.num ≤ 9223372036854775807) →
    cmpStr (encParts l) (encParts m) = cmpParts l m
  | [], [], _, _ => rfl
  | [], q :: m, _, _ => by
    obtain ⟨z, y, e⟩ := encPart_head q
    rw [show encParts (q :: m) = z :: (y ++ encParts m) from by simp [encParts, e]]; exact (cmpStr_nil_cons _ _).1
  | p :: l, [], _, _ => by
    obtain ⟨z, y, e⟩ := encPart_head p
    rw [show encParts (p :: l) = z :: (y ++ encParts l) from by simp [encParts, e]]; exact (cmpStr_nil_cons _ _).2
  | p :: l, q :: m, hl, hm => by
    have ih := cmp_encParts l m (fun x hx => hl x (by simp [hx])) (fun x hx => hm x (by simp [hx]))
    have e1 : encParts (p :: l) = encPart p ++ encParts l := by simp [encParts]
    have e2 : encParts (q :: m) = encPart q ++ encParts m := by simp [encParts]
    rw [e1, e2]
    unfold cmpParts
    rcases cmp_encPart p q (hl p (by simp)) (hm q (by simp)) with ⟨h1, h2⟩ | ⟨h1, h2⟩
    · rw [if_pos h1, h2, cmpStr_app, ih]
    · rw [if_neg h1, h2]

theorem less_iff (a b : List UInt8) : Op.bytesLess a b = decide (cmpStr a b < 0) := by
  rcases h : Op.bytesLess a b with _ | _
  · by_cases h0 : a = b
    · subst h0; rw [cmpStr_eq]; rfl
    · rw [cmpStr_gt (less_total _ _ h h0)]; rfl
  · rw [cmpStr_lt h]; rfl
theorem more_iff (a b : List UInt8) : (!(Op.bytesLess a b || a == b)) = decide (0 < cmpStr a b) := by
  rcases h : Op.bytesLess a b with _ | _
  · by_cases h0 : a = b
    · subst h0; rw [cmpStr_eq]; simp
    · rw [cmpStr_gt (less_total _ _ h h0)]; simp [h0]
  · rw [cmpStr_lt h]; simp
end Go.Proofs.Ytnapadpkfjpklaa
