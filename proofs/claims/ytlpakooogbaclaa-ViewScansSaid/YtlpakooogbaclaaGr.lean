/- Layer 14: what the project's Scan must answer. -/
import Derived.Test.YtlpakooogbaclaaGq
import Derived.Test.YtlpakooogbaclaaGk
namespace Go.Proofs.Ytlpakooogbaclaa
open Go.RowKit
set_option linter.unusedVariables false

def ScanK : Prop := ∀ (w : World) (va vp : Value) (l : List Ver) (p : List (Int × Int)) (t : Int), RdVr w w.heap.size va l → RdX lgL w w.heap.size vp p → OkLP l p → inG t →
  Calls Try.prog 23 #[va, vp, .int .i64 t] w fun z w' => ∃ v' ks, z = .returned v' ∧ KeysV l ks ∧ OwnX prL 74 w' w.heap.size v' (scanG l p t ks) ∧ Below w.heap.size w w'
end Go.Proofs.Ytlpakooogbaclaa
