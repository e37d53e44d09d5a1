/- Layer 8: a block out of versions, by the document, as far as the laws ask. -/
import Derived.Test.YtefjdmlmmoeoaaaGreatTc
namespace Go.Proofs.YtefjdmlmmoeoaaaGreat
open Go.RowKit
set_option linter.unusedVariables false

theorem okTo_snoc {acc : List Ver} {p : Ver} (h : okTo acc acc.length = true) (hm : mayV p = true) (hl : acc.length = 0 ∨ lessV (acc.getD (acc.length - 1) zeroV) p = true) : okTo (acc ++ [p]) (acc ++ [p]).length = true := by
  have hg : ∀ i, i < acc.length → (acc ++ [p]).getD i zeroV = acc.getD i zeroV := fun i hi => by
    rw [List.getD_eq_getElem?_getD, List.getD_eq_getElem?_getD, List.getElem?_append_left hi]
  have hp : (acc ++ [p]).getD acc.length zeroV = p := by rw [List.getD_eq_getElem?_getD, List.getElem?_concat_length]; rfl
  rw [List.length_append, List.length_singleton, okTo_succ, Bool.and_eq_true]
  constructor
  · unfold okTo at *
    rw [List.all_eq_true] at *
    intro i hi
    have := h i hi
    rw [List.mem_range] at hi
    unfold okAt at *
    rw [hg i hi]
    by_cases h0 : i = 0
    · subst h0; simpa using this
    · rw [hg (i - 1) (by omega)]; exact this
  · unfold okAt
    rw [hp, hm, Bool.true_and]
    rcases hl with h0 | h0
    · simp [h0]
    · by_cases hz : acc.length = 0
      · simp [hz]
      · rw [hg (acc.length - 1) (by omega), h0, Bool.or_true]

end Go.Proofs.YtefjdmlmmoeoaaaGreat
