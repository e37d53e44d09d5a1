/- Layer 6: the document's example; the first 500 bytes. -/
import Derived.Test.YtecomnklofceaaaRn
import Derived.Test.YtecomnklofceaaaOB
namespace Go.Proofs.Ytecomnklofceaaa
open Go.RowKit
set_option linter.unusedVariables false

def exKey : ByteArray := ⟨(Ord.keyBytes 0 ⟨#[97]⟩).toArray⟩
def exV : Ver := ⟨exKey, 0, 1, 2, (5, 7), ⟨#[120]⟩, false⟩
theorem ex_split : (Ord.splitOf (Ord.keyBytes 0 ⟨#[97]⟩)).2.2 = 0 := by
  have h : Ord.keyBytes 0 ⟨#[97]⟩ = Ord.encParts [⟨false, 0, ⟨#[]⟩⟩, ⟨true, 0, ⟨#[97]⟩⟩] := by simp [Ord.keyBytes, Ord.encParts]
  rw [h]
  unfold Ord.splitOf
  rw [Ord.rdAll_written _ (by intro p hp; simp at hp; rcases hp with rfl | rfl <;> simp)]
  rfl
theorem ex_may : mayV exV = true := by
  unfold mayV
  rw [show (Ord.splitOf exV.key.data.toList).2.2 = 0 from ex_split]
  decide
theorem ex_enc : ∃ t, encV exV = [0, 1, 2, 5, 2, 0] ++ t ∧ 0 < t.length := by
  refine ⟨encT exV.key ++ encT exV.val, ?_, ?_⟩
  · have h : encNs (numsV exV) = [0, 1, 2, 5, 2, 0] := by
      show encNs [0, 1, 2, 5, 2, 0] = _
      simp only [encNs, List.flatMap_cons, List.flatMap_nil]
      rw [show (0 : Int).toNat = 0 from rfl, show (1 : Int).toNat = 1 from rfl, show (2 : Int).toNat = 2 from rfl, show (5 : Int).toNat = 5 from rfl, encN_lt (by omega), encN_lt (by omega), encN_lt (by omega), encN_lt (by omega)]
      rfl
    unfold encV
    rw [h, List.append_assoc]
  · have := encN_pos exV.key.size
    unfold encT
    simp only [List.length_append]
    omega

end Go.Proofs.Ytecomnklofceaaa
