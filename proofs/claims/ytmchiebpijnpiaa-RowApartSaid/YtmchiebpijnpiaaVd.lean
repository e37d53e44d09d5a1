/- Layer 2: numbers turned, and turned back; the document's examples. -/
import Derived.Test.YtmchiebpijnpiaaVc
namespace Go.Proofs.Ytmchiebpijnpiaa
open Go.RowKit
set_option linter.unusedVariables false

end Go.Proofs.Ytmchiebpijnpiaa
