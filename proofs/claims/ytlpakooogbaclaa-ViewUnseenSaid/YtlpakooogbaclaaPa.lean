/- Layer 4, the project's: which spans may be, which times lie in them, what two have in common; where a piece goes on. -/
import Derived.Test.YtlpakooogbaclaaSd
import Derived.Test.YtlpakooogbaclaaSi
namespace Go.Proofs.Ytlpakooogbaclaa
open Go.RowKit
set_option linter.unusedVariables false

set_option maxHeartbeats 400000 in
theorem p_may (s : Sp) (w : World) :
    Calls Try.prog 58 #[spV s] w fun e w' => e = .returned (.bool (mayB s)) ∧ Below w.heap.size w w' := by
  obtain ⟨a, b⟩ := s
  unfold spV
  go_enter Try.func58, Try.ntmps58
  go_wp2
  all_goals go_ret
  all_goals exact ⟨ret_bool (by simp [mayB, *] <;> omega), alloc_below w _⟩

set_option maxHeartbeats 400000 in
theorem p_has (s : Sp) (t : Int) (w : World) :
    Calls Try.prog 44 #[spV s, .int .i64 t] w fun e w' => e = .returned (.bool (hasB s t)) ∧ Below w.heap.size w w' := by
  obtain ⟨a, b⟩ := s
  have HM := Lib.hid (p_may (a, b))
  have hh := Lib.hid (show hasB (a, b) t = (mayB (a, b) && decide (a ≤ t ∧ t < b)) from rfl)
  unfold spV at *
  go_enter Try.func44, Try.ntmps44
  go_wp2_with fail
  refine (HM.out _).mono ?_
  rintro e w1 ⟨rfl, hb1⟩
  have c0 := made_cell (by simpa using hb1) 0 _ rfl
  have c1 := made_cell (by simpa using hb1) 1 _ rfl
  have G := Lib.hid ((alloc_below w (.cells #[.int .i64 a, .int .i64 b] 46)).trans (hb1.mono (by simp)))
  clear hb1
  generalize mayB (a, b) = m at *
  cases m
  all_goals
    go_wp2_with fail
    all_goals go_ret
    all_goals exact ⟨ret_bool (by rw [hh.out]; simp [*] <;> omega), G.out⟩

set_option maxHeartbeats 400000 in
theorem p_goOn (p : Pc) (t : Int) (w : World) :
    Calls Try.prog 51 #[pcV p, .int .i64 t] w fun e w' => e = .returned (pcV ((p.1.2, t), p.2)) ∧ Below w.heap.size w w' := by
  obtain ⟨⟨a, b⟩, v⟩ := p
  unfold pcV
  go_enter Try.func51, Try.ntmps51
  go_wp2_with fail
  refine bodyPost_ret (v := .agg #[.int .i64 b, .int .i64 t, .string v]) ?_ rfl ⟨rfl, ?_⟩
  · rw [results_cell1 rfl]
    go_simp
  · exact (alloc_below w _).trans ((alloc_below _ _).mono (by simp))
end Go.Proofs.Ytlpakooogbaclaa
