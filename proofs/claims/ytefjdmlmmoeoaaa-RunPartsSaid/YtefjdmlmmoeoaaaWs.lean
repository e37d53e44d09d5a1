/- Layer 9: the last of a key's versions: plain facts. -/
import Derived.Test.YtefjdmlmmoeoaaaWm
import Derived.Test.YtefjdmlmmoeoaaaWn
namespace Go.Proofs.Ytefjdmlmmoeoaaa
open Go.RowKit
set_option linter.unusedVariables false

theorem cmpV_self (a : Ver) : cmpV a a = 0 := by have := ver_tells.anti a a; omega
theorem vers_sorted {l : List Ver} (h : okTo l l.length = true) (i : Nat) : ∀ d, i + d < l.length → cmpV (l.getD i zeroV) (l.getD (i + d) zeroV) ≤ 0 := by
  intro d
  induction d with
  | zero => intro _; rw [Nat.add_zero, cmpV_self]; exact Int.le_refl _
  | succ d ih =>
    intro hd
    have h1 := ih (by omega)
    have h2 := okTo_at h hd
    unfold okAt at h2
    rw [decide_eq_false (show ¬ i + (d + 1) = 0 from by omega), Bool.false_or, Bool.and_eq_true] at h2
    have h3 := h2.2
    rw [lessV_iff, decide_eq_true_iff] at h3
    exact ver_tells.trans _ _ _ h1 (Int.le_of_lt h3)
theorem run_pairwise {l : List Ver} (h : okTo l l.length = true) : l.Pairwise fun a b => cmpV a b ≤ 0 := by
  rw [List.pairwise_iff_getElem]
  intro i j hi hj hij
  have h1 := vers_sorted h i (j - i) (by omega)
  rw [show i + (j - i) = j from by omega, getD_at hi, getD_at hj] at h1
  exact h1
theorem last_mem {L : List Ver} (h : L ≠ []) : lastV L ∈ L := by
  rcases List.eq_nil_or_concat L with h0 | ⟨L', z, h0⟩
  · exact absurd h0 h
  · rw [List.concat_eq_append] at h0
    subst h0
    rw [lastV_snoc]
    simp
theorem last_ge {L : List Ver} (h : L.Pairwise fun a b => cmpV a b ≤ 0) : ∀ x ∈ L, cmpV x (lastV L) ≤ 0 := by
  intro x hx
  rcases List.eq_nil_or_concat L with h0 | ⟨L', z, h0⟩
  · rw [h0] at hx; cases hx
  · rw [List.concat_eq_append] at h0
    subst h0
    rw [lastV_snoc]
    rw [List.pairwise_append] at h
    rcases List.mem_append.1 hx with h1 | h1
    · exact h.2.2 x h1 z (by simp)
    · rw [List.mem_singleton] at h1
      rw [h1, cmpV_self]; exact Int.le_refl _
theorem cmp_last {x g : Ver} (hk : x.key = g.key) (hb : x.b = g.b) (h : cmpV x g ≤ 0) : ¬ g.e < x.e ∧ (g.e = x.e → ¬ g.s < x.s) := by
  have hl : lessV g x = false := by rw [lessV_iff, decide_eq_false_iff_not]; have := ver_tells.anti x g; omega
  unfold lessV at hl
  rw [if_neg (by simp [hk]), if_neg (by simp [hb])] at hl
  by_cases h1 : g.e = x.e
  · rw [if_neg (by simp [h1])] at hl
    by_cases h2 : g.s = x.s
    · exact ⟨by omega, fun _ => by omega⟩
    · rw [if_pos h2, decide_eq_false_iff_not] at hl
      exact ⟨by omega, fun _ => hl⟩
  · rw [if_pos h1, decide_eq_false_iff_not] at hl
    exact ⟨hl, fun h => absurd h h1⟩
def lastF (l : List Ver) (key : ByteArray) (br ep : Int) : List Ver := l.filter fun v => decide (v.key = key) && decide (v.b = br) && decide (v.e ≤ ep)
theorem lastF_mem {l : List Ver} {key : ByteArray} {br ep : Int} {x : Ver} : x ∈ lastF l key br ep ↔ x ∈ l ∧ x.key = key ∧ x.b = br ∧ x.e ≤ ep := by
  unfold lastF
  rw [List.mem_filter]
  simp only [Bool.and_eq_true, decide_eq_true_iff, and_assoc]
theorem lastF_of (l : List Ver) (key : ByteArray) (br ep : Int) : (l.filter fun v => decide (v.key = key)).filter (fun v => decide (v.b = br) && decide (v.e ≤ ep)) = lastF l key br ep := by
  unfold lastF
  rw [List.filter_filter]
  refine List.filter_congr fun x _ => ?_
  cases decide (x.key = key) <;> cases decide (x.b = br) <;> cases decide (x.e ≤ ep) <;> rfl
/-- A version of the key and the branch that is no later: not behind the last one. -/
theorem lastF_ge {l : List Ver} (h : okTo l l.length = true) {key : ByteArray} {br ep : Int} {x : Ver} (hx : x ∈ lastF l key br ep) : lastF l key br ep ≠ [] ∧ ¬ (lastV (lastF l key br ep)).e < x.e ∧ ((lastV (lastF l key br ep)).e = x.e → ¬ (lastV (lastF l key br ep)).s < x.s) := by
  have hne : lastF l key br ep ≠ [] := List.ne_nil_of_mem hx
  have hp : (lastF l key br ep).Pairwise fun a b => cmpV a b ≤ 0 := (run_pairwise h).filter _
  have h1 := last_ge hp x hx
  have h2 := lastF_mem.1 (last_mem hne)
  have h3 := lastF_mem.1 hx
  exact ⟨hne, cmp_last (by rw [h2.2.1, h3.2.1]) (by rw [h2.2.2.1, h3.2.2.1]) h1⟩
/-- Up to a later epoch. -/
theorem lastF_more {l : List Ver} (h : okTo l l.length = true) {key : ByteArray} {br ep ep' : Int} (he : ep ≤ ep') (hne : lastF l key br ep ≠ []) : lastF l key br ep' ≠ [] ∧ (lastV (lastF l key br ep)).e ≤ (lastV (lastF l key br ep')).e := by
  have h1 := lastF_mem.1 (last_mem hne)
  have h2 : lastV (lastF l key br ep) ∈ lastF l key br ep' := lastF_mem.2 ⟨h1.1, h1.2.1, h1.2.2.1, by omega⟩
  obtain ⟨h3, h4, -⟩ := lastF_ge h h2
  exact ⟨h3, by omega⟩
end Go.Proofs.Ytefjdmlmmoeoaaa
