/- Layer 8: versions in order, by the document, as far as the laws ask. -/
import Derived.Test.YtefjdmlmmoeoaaaGreatTb
import Derived.Test.YtefjdmlmmoeoaaaGreatBA
namespace Go.Proofs.YtefjdmlmmoeoaaaGreat
open Go.RowKit
set_option linter.unusedVariables false
theorem ver_size (w : World) : (Go.sizeOf 55).run Tryz.prog w = .ok 8 w := by kernel_rfl

end Go.Proofs.YtefjdmlmmoeoaaaGreat
