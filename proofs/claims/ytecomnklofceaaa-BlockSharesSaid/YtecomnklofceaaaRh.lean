/- Layer 6: a version's bytes, by the project. -/
import Derived.Test.YtecomnklofceaaaRg
import Derived.Test.YtecomnklofceaaaRk
import Derived.Test.YtecomnklofceaaaBreg
namespace Go.Proofs.Ytecomnklofceaaa
open Go.RowKit
set_option linter.unusedVariables false

end Go.Proofs.Ytecomnklofceaaa
