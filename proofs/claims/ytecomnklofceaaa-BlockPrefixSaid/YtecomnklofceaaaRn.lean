/- Layer 6: versions' bytes, by the project. -/
import Derived.Test.YtecomnklofceaaaRh
import Derived.Test.YtecomnklofceaaaVV
namespace Go.Proofs.Ytecomnklofceaaa
open Go.RowKit
set_option linter.unusedVariables false

end Go.Proofs.Ytecomnklofceaaa
