/- Layer 4, plain facts: spans, pieces, and what the document tells of them. -/
import Derived.Test.YtecomnklofceaaaRows
import Derived.WalkKit
namespace Go.Proofs.Ytecomnklofceaaa
open Go.RowKit
set_option linter.unusedVariables false

abbrev Sp := Int × Int
def mayB (s : Sp) : Bool := decide (0 ≤ s.1 ∧ s.1 < s.2 ∧ s.2 ≤ 1099511627776)
theorem mayB_iff {s : Sp} : mayB s = true ↔ 0 ≤ s.1 ∧ s.1 < s.2 ∧ s.2 ≤ 1099511627776 := by simp [mayB]

end Go.Proofs.Ytecomnklofceaaa
