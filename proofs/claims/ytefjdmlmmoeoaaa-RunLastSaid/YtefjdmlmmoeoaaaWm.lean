/- Layer 9: plain facts: what is asked for lies where the iterator looks. -/
import Derived.Test.YtefjdmlmmoeoaaaWh
namespace Go.Proofs.Ytefjdmlmmoeoaaa
open Go.RowKit
set_option linter.unusedVariables false

theorem kcmp_anti (a b : ByteArray) : kcmp b a = - kcmp a b := str_tells.anti _ _
theorem kcmp_trans {a b c : ByteArray} (h : kcmp a b ≤ 0) (k : kcmp b c ≤ 0) : kcmp a c ≤ 0 := str_tells.trans _ _ _ h k
theorem kcmp_lt {a b c : ByteArray} (h : kcmp a b ≤ 0) (k : kcmp b c < 0) : kcmp a c < 0 := by
  rcases Int.lt_or_le (kcmp a c) 0 with h1 | h1
  · exact h1
  · have h2 : kcmp c a ≤ 0 := by have := kcmp_anti a c; omega
    have h3 := kcmp_trans h2 h
    have := kcmp_anti b c
    omega
theorem kcmp_gt {a b c : ByteArray} (h : kcmp a b ≤ 0) (k : 0 < kcmp a c) : 0 < kcmp b c := by
  rcases Int.lt_or_le 0 (kcmp b c) with h1 | h1
  · exact h1
  · have := kcmp_trans h h1; omega
theorem kcmp_self (a : ByteArray) : kcmp a a = 0 := cmpStr_eq' _

theorem less_key {a b : Ver} (h : lessV a b = true) : kcmp a.key b.key ≤ 0 := by
  rw [lessV_iff, decide_eq_true_iff] at h
  unfold cmpV at h
  rw [lex_neg] at h
  unfold kcmp
  omega
theorem keys_sorted {l : List Ver} (h : okTo l l.length = true) (i : Nat) : ∀ d, i + d < l.length → kcmp (l.getD i zeroV).key (l.getD (i + d) zeroV).key ≤ 0 := by
  intro d
  induction d with
  | zero => intro _; rw [Nat.add_zero, kcmp_self]; exact Int.le_refl _
  | succ d ih =>
    intro hd
    have h1 := ih (by omega)
    have h2 := okTo_at h hd
    unfold okAt at h2
    rw [decide_eq_false (show ¬ i + (d + 1) = 0 from by omega), Bool.false_or, Bool.and_eq_true] at h2
    exact kcmp_trans h1 (less_key h2.2)
theorem fen9_at (l : List Ver) (x : Nat) : fen9 l x = (l.getD (8 * x) zeroV).key := by
  unfold fen9; rw [pc8_get l x 0 (by omega)]; rfl
theorem mid_join (l : List Ver) (p k : Nat) : ((List.range k).map fun j => pc8 l (p + j)).flatten = (l.drop (8 * p)).take (8 * k) := by
  induction k with
  | zero => simp
  | succ k ih =>
    rw [List.range_succ, List.map_append, List.flatten_append, ih]
    simp only [List.map_cons, List.map_nil, List.flatten_cons, List.flatten_nil, List.append_nil]
    unfold pc8
    rw [show 8 * (k + 1) = 8 * k + 8 from by omega, List.take_add, List.drop_drop, show 8 * p + 8 * k = 8 * (p + k) from by omega]
theorem told_filter {l : List Ver} (h : okTo l l.length = true) (q : Ver → Bool) (fr tt : ByteArray) (hq : ∀ v, q v = true → kcmp fr v.key ≤ 0 ∧ kcmp v.key tt ≤ 0) {ls : List (List Ver)} (ht : Told9 l fr tt ls) : ls.flatten.filter q = l.filter q := by
  obtain ⟨i, k, hf, hik, rfl, hend⟩ := ht
  rw [mid_join]
  have e1 : l = l.take (8 * (i - 1)) ++ ((l.drop (8 * (i - 1))).take (8 * k) ++ (l.drop (8 * (i - 1))).drop (8 * k)) := by
    rw [List.take_append_drop, List.take_append_drop]
  have f1 : (l.take (8 * (i - 1))).filter q = [] := by
    rw [List.filter_eq_nil_iff]
    intro v hv hqv
    obtain ⟨j, hj, rfl⟩ := List.mem_iff_getElem.1 hv
    rw [List.length_take] at hj
    rw [List.getElem_take] at hqv
    have hi0 : 0 < i := by omega
    have h8 := many8_lt (show i - 1 < many8 l from by have := hf.1; omega)
    have h1 := keys_sorted h j (8 * (i - 1) - j) (by omega)
    rw [show j + (8 * (i - 1) - j) = 8 * (i - 1) from by omega, ← fen9_at, getD_at (by omega)] at h1
    have h2 := kcmp_lt h1 (hf.2.1 hi0)
    have h3 := (hq _ hqv).1
    have := kcmp_anti (l[j]'(by omega)).key fr
    omega
  have f3 : ((l.drop (8 * (i - 1))).drop (8 * k)).filter q = [] := by
    rw [List.filter_eq_nil_iff]
    intro v hv hqv
    obtain ⟨j, hj, rfl⟩ := List.mem_iff_getElem.1 hv
    rw [List.length_drop, List.length_drop] at hj
    rw [List.getElem_drop, List.getElem_drop] at hqv
    rcases hend with he | he
    · have : many8 l = (l.length + 7) / 8 := rfl
      omega
    · have h1 := keys_sorted h (8 * (i - 1 + k)) j (by omega)
      rw [← fen9_at, getD_at (by omega)] at h1
      have h2 := kcmp_gt h1 he
      have h3 := (hq _ hqv).2
      have e : 8 * (i - 1) + (8 * k + j) = 8 * (i - 1 + k) + j := by omega
      simp only [e] at h3
      omega
  conv => rhs; rw [e1]
  rw [List.filter_append, List.filter_append, f1, f3, List.nil_append, List.append_nil]
end Go.Proofs.Ytefjdmlmmoeoaaa
