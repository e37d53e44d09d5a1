/- Layer 4: spans, by the document's answer: which may be, which times lie in them, what two have in common; a piece, cut. -/
import Derived.Test.YtlpakooogbaclaaSm
import Derived.Test.YtlpakooogbaclaaBA
import Derived.Test.YtlpakooogbaclaaBapp
namespace Go.Proofs.Ytlpakooogbaclaa
open Go.RowKit
set_option linter.unusedVariables false

def spV (s : Sp) : Value := .agg #[.int .i64 s.1, .int .i64 s.2]
def pcV (p : Pc) : Value := .agg #[.int .i64 p.1.1, .int .i64 p.1.2, .string p.2]

set_option maxHeartbeats 400000 in
theorem ref_may (s : Sp) (w : World) :
    Calls Try.prog 40 #[spV s] w fun e w' => e = .returned (.bool (mayB s)) ∧ Below w.heap.size w w' := by
  obtain ⟨a, b⟩ := s
  unfold spV
  go_enter Try.func40, Try.ntmps40
  go_wp2
  all_goals go_ret
  all_goals exact ⟨ret_bool (by simp [mayB, *] <;> omega), alloc_below w _⟩

set_option maxHeartbeats 400000 in
theorem ref_has (s : Sp) (t : Int) (w : World) :
    Calls Try.prog 65 #[spV s, .int .i64 t] w fun e w' => e = .returned (.bool (hasB s t)) ∧ Below w.heap.size w w' := by
  obtain ⟨a, b⟩ := s
  have HM := Lib.hid (ref_may (a, b))
  have hh := Lib.hid (show hasB (a, b) t = (mayB (a, b) && decide (a ≤ t ∧ t < b)) from rfl)
  unfold spV at *
  go_enter Try.func65, Try.ntmps65
  go_wp2_with fail
  refine (HM.out _).mono ?_
  rintro e w1 ⟨rfl, hb1⟩
  have c0 := made_cell (by simpa using hb1) 0 _ rfl
  have c1 := made_cell (by simpa using hb1) 1 _ rfl
  have G := Lib.hid ((alloc_below w (.cells #[.int .i64 a, .int .i64 b] 46)).trans (hb1.mono (by simp)))
  clear hb1
  generalize mayB (a, b) = m at *
  cases m
  all_goals
    go_wp2_with fail
    all_goals go_ret
    all_goals exact ⟨ret_bool (by rw [hh.out]; simp [*] <;> omega), G.out⟩


theorem meet_eq (a b c d : Int) : meetF (a, b) (c, d) = if mayB (a, b) = true ∧ mayB (c, d) = true ∧ c < b ∧ a < d then ((if c > a then c else a, if d < b then d else b), true) else ((0, 0), false) := rfl

end Go.Proofs.Ytlpakooogbaclaa
