/- Layer 6: spans that may be, by the document and by the project (out of s05/XEa). -/
import Derived.Test.YtmchiebpijnpiaaSm
import Derived.Test.YtmchiebpijnpiaaBret
namespace Go.Proofs.Ytmchiebpijnpiaa
open Go.RowKit
set_option linter.unusedVariables false

def spV (s : Sp) : Value := .agg #[.int .i64 s.1, .int .i64 s.2]

set_option maxHeartbeats 400000 in
theorem ref_may (s : Sp) (w : World) :
    Calls Try.prog 30 #[spV s] w fun e w' => e = .returned (.bool (mayB s)) ∧ Below w.heap.size w w' := by
  obtain ⟨a, b⟩ := s
  unfold spV
  go_enter Try.func30, Try.ntmps30
  go_wp2
  all_goals go_ret
  all_goals exact ⟨ret_bool (by simp [mayB, *] <;> omega), alloc_below w _⟩

set_option maxHeartbeats 400000 in
theorem p_may (s : Sp) (w : World) :
    Calls Try.prog 33 #[spV s] w fun e w' => e = .returned (.bool (mayB s)) ∧ Below w.heap.size w w' := by
  obtain ⟨a, b⟩ := s
  unfold spV
  go_enter Try.func33, Try.ntmps33
  go_wp2
  all_goals go_ret
  all_goals exact ⟨ret_bool (by simp [mayB, *] <;> omega), alloc_below w _⟩

end Go.Proofs.Ytmchiebpijnpiaa
