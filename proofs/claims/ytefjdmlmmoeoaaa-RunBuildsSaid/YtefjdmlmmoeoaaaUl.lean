/- Layer 8: the document's example. -/
import Derived.Test.YtefjdmlmmoeoaaaUg
import Derived.Test.YtefjdmlmmoeoaaaRR
namespace Go.Proofs.Ytefjdmlmmoeoaaa
open Go.RowKit
set_option linter.unusedVariables false

def k8 : ByteArray := ⟨(Ord.keyBytes 0 ⟨#[107]⟩).toArray⟩
theorem k8_split : (Ord.splitOf k8.data.toList).2.2 = 0 := by
  show (Ord.splitOf (Ord.keyBytes 0 ⟨#[107]⟩)).2.2 = 0
  have h : Ord.keyBytes 0 ⟨#[107]⟩ = Ord.encParts [⟨false, 0, ⟨#[]⟩⟩, ⟨true, 0, ⟨#[107]⟩⟩] := by simp [Ord.keyBytes, Ord.encParts]
  rw [h]
  unfold Ord.splitOf
  rw [Ord.rdAll_written _ (by intro p hp; simp at hp; rcases hp with rfl | rfl <;> simp)]
  rfl
theorem k8_size : 2 ≤ k8.size ∧ k8.size ≤ 92 := by
  constructor
  · decide
  · exact key_long (l := k8.data.toList) k8_split |> fun h => by simpa using h

end Go.Proofs.Ytefjdmlmmoeoaaa
