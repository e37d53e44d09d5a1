/- Layer 2: numbers turned, and turned back; the document's examples. -/
import Derived.Test.YticfjpnocpcopaaVc
namespace Go.Proofs.Yticfjpnocpcopaa
open Go.RowKit
set_option linter.unusedVariables false

def turnI (n : Int) : Int := if n < -2305843009213693952 then 0 else if 2305843009213693951 < n then 0 else if n < 0 then -2 * n - 1 else 2 * n
def backI (n : Int) : Int := if n < 0 then 0 else if n % 2 = 1 then -(n / 2) - 1 else n / 2

theorem turn_out {n : Int} (h : n < -2305843009213693952 ∨ 2305843009213693952 ≤ n) : turnI n = 0 := by
  unfold turnI
  by_cases h1 : n < -2305843009213693952
  · rw [if_pos h1]
  · rw [if_neg h1, if_pos (by omega)]
theorem turn_neg {n : Int} (h1 : -2305843009213693952 ≤ n) (h : n < 0) : turnI n = -2 * n - 1 := by
  unfold turnI; rw [if_neg (by omega), if_neg (by omega), if_pos h]
theorem turn_pos {n : Int} (h1 : n ≤ 2305843009213693951) (h : 0 ≤ n) : turnI n = 2 * n := by
  unfold turnI; rw [if_neg (by omega), if_neg (by omega), if_neg (by omega)]
theorem back_neg {n : Int} (h : n < 0) : backI n = 0 := by unfold backI; rw [if_pos h]
theorem back_odd {n : Int} (h : 0 ≤ n) (h1 : n % 2 = 1) : backI n = -(n / 2) - 1 := by unfold backI; rw [if_neg (by omega), if_pos h1]
theorem back_even {n : Int} (h : 0 ≤ n) (h1 : n % 2 ≠ 1) : backI n = n / 2 := by unfold backI; rw [if_neg (by omega), if_neg h1]
theorem back_turn (n : Int) (h1 : -2305843009213693952 ≤ n) (h2 : n ≤ 2305843009213693951) : backI (turnI n) = n := by
  by_cases h : n < 0
  · rw [turn_neg h1 h, back_odd (by omega) (by omega)]; omega
  · rw [turn_pos h2 (by omega), back_even (by omega) (by omega)]; omega
theorem turn_bd (n : Int) : 0 ≤ turnI n ∧ turnI n < 4611686018427387904 := by
  by_cases h : n < -2305843009213693952 ∨ 2305843009213693952 ≤ n
  · rw [turn_out h]; omega
  · by_cases h0 : n < 0
    · rw [turn_neg (by omega) h0]; omega
    · rw [turn_pos (by omega) (by omega)]; omega
theorem back_bd (n : Int) (h : n ≤ 9223372036854775807) : -4611686018427387904 ≤ backI n ∧ backI n ≤ 4611686018427387903 := by
  by_cases h0 : n < 0
  · rw [back_neg h0]; omega
  · by_cases h1 : n % 2 = 1
    · rw [back_odd (by omega) h1]; omega
    · rw [back_even (by omega) h1]; omega

set_option maxHeartbeats 400000 in
theorem vary_turn (n : Int) (w : World) (h1 : -9223372036854775808 ≤ n) (h2 : n ≤ 9223372036854775807) :
    Calls Try.prog 15 #[.int .i64 n] w fun e w' => e = .returned (.int .i64 (turnI n)) ∧ w = w' := by
  go_enter Try.func15, Try.ntmps15
  go_wp2
  all_goals go_ret
  all_goals first | exact ⟨ret_int (turn_out (by omega)).symm, rfl⟩ | exact ⟨ret_int (by rw [turn_neg (by omega) (by omega)]), rfl⟩ | exact ⟨ret_int (by rw [turn_pos (by omega) (by omega)]), rfl⟩

set_option maxHeartbeats 400000 in
theorem ref_turn (n : Int) (w : World) (h1 : -9223372036854775808 ≤ n) (h2 : n ≤ 9223372036854775807) :
    Calls Try.prog 16 #[.int .i64 n] w fun e w' => e = .returned (.int .i64 (turnI n)) ∧ w = w' := by
  go_enter Try.func16, Try.ntmps16
  go_wp2
  all_goals go_ret
  all_goals first | exact ⟨ret_int (turn_out (by omega)).symm, rfl⟩ | exact ⟨ret_int (by rw [turn_neg (by omega) (by omega)]), rfl⟩ | exact ⟨ret_int (by rw [turn_pos (by omega) (by omega)]), rfl⟩

set_option maxHeartbeats 400000 in
theorem vary_back (n : Int) (w : World) (h1 : -9223372036854775808 ≤ n) (h2 : n ≤ 9223372036854775807) :
    Calls Try.prog 17 #[.int .i64 n] w fun e w' => e = .returned (.int .i64 (backI n)) ∧ w = w' := by
  go_enter Try.func17, Try.ntmps17
  go_wp2
  all_goals go_ret
  · exact ⟨ret_int (back_neg (by omega)).symm, rfl⟩
  · exact ⟨ret_int (back_odd (by omega) (by simpa using ‹(n % 2 == 1) = true›)).symm, rfl⟩
  · exact ⟨ret_int (back_even (by omega) (by simpa using ‹(n % 2 == 1) = false›)).symm, rfl⟩

set_option maxHeartbeats 400000 in
theorem ref_back (n : Int) (w : World) (h1 : -9223372036854775808 ≤ n) (h2 : n ≤ 9223372036854775807) :
    Calls Try.prog 18 #[.int .i64 n] w fun e w' => e = .returned (.int .i64 (backI n)) ∧ w = w' := by
  go_enter Try.func18, Try.ntmps18
  go_wp2
  all_goals go_ret
  · exact ⟨ret_int (back_neg (by omega)).symm, rfl⟩
  · exact ⟨ret_int (back_odd (by omega) (by simpa using ‹(n % 2 == 1) = true›)).symm, rfl⟩
  · exact ⟨ret_int (back_even (by omega) (by simpa using ‹(n % 2 == 1) = false›)).symm, rfl⟩
end Go.Proofs.Yticfjpnocpcopaa
