/- Layer 8: what a block is, by the document. -/
import Derived.Test.YtefjdmlmmoeoaaaRR
import Derived.Test.YtefjdmlmmoeoaaaBE
import Derived.BigQuiet
namespace Go.Proofs.Ytefjdmlmmoeoaaa
open Go.RowKit
set_option linter.unusedVariables false

/-- Is the version at i one that may be, and behind the one ahead? -/
def okAt (l : List Ver) (i : Nat) : Bool := mayV (l.getD i zeroV) && (decide (i = 0) || lessV (l.getD (i - 1) zeroV) (l.getD i zeroV))
def okTo (l : List Ver) (k : Nat) : Bool := (List.range k).all (okAt l)
def blkB (l : List Ver) : Bool := okTo l l.length && decide (1 ≤ l.length) && decide (l.length ≤ 8)
theorem okTo_succ (l : List Ver) (k : Nat) : okTo l (k + 1) = (okTo l k && okAt l k) := by
  unfold okTo; rw [List.range_succ, List.all_append]; simp
theorem okTo_bad {l : List Ver} {k n : Nat} (h : okAt l k = false) (hk : k < n) : okTo l n = false := by
  unfold okTo
  rw [List.all_eq_false]
  exact ⟨k, List.mem_range.2 hk, by simp [h]⟩
theorem okTo_at {l : List Ver} {k n : Nat} (h : okTo l n = true) (hk : k < n) : okAt l k = true := by
  unfold okTo at h
  rw [List.all_eq_true] at h
  exact h k (List.mem_range.2 hk)
theorem getD_at {l : List Ver} {i : Nat} (h : i < l.length) : l.getD i zeroV = l[i] := by
  rw [List.getD_eq_getElem?_getD, List.getElem?_eq_getElem h]; rfl
theorem blk_may {l : List Ver} (h : okTo l l.length = true) : ∀ v ∈ l, mayV v = true := fun v hv => by
  obtain ⟨i, hi, rfl⟩ := List.mem_iff_getElem.1 hv
  have := okTo_at h hi
  unfold okAt at this
  rw [getD_at hi] at this
  simp only [Bool.and_eq_true] at this
  exact this.1

end Go.Proofs.Ytefjdmlmmoeoaaa
