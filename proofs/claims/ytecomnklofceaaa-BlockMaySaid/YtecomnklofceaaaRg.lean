/- Layer 6: which versions may be, by the project. -/
import Derived.Test.YtecomnklofceaaaRR
namespace Go.Proofs.Ytecomnklofceaaa
open Go.RowKit
set_option linter.unusedVariables false

set_option maxHeartbeats 400000 in
theorem row_isIn (n lo hi : Int) (w : World) :
    Calls Try.prog 66 #[.int .i64 n, .int .i64 lo, .int .i64 hi] w fun e w' => e = .returned (.bool (decide (lo ≤ n) && decide (n ≤ hi))) ∧ w = w' := by
  go_enter Try.func66, Try.ntmps66
  go_wp2
  all_goals go_ret
  all_goals exact ⟨ret_bool (by simp [*] <;> omega), rfl⟩

set_option maxHeartbeats 1000000 in
theorem row_mayStamp (b e s : Int) (w : World) :
    Calls Try.prog 51 #[.agg #[.int .i64 b, .int .i64 e, .int .i64 s]] w fun r w' => r = .returned (.bool ((decide (0 ≤ b) && decide (b ≤ 15)) && (decide (1 ≤ e) && decide (e ≤ 10000)) && (decide (1 ≤ s) && decide (s ≤ 100000)))) ∧ Below w.heap.size w w' := by
  have I1 := Lib.hid (fun w => row_isIn b 0 15 w)
  have I2 := Lib.hid (fun w => row_isIn e 1 10000 w)
  have I3 := Lib.hid (fun w => row_isIn s 1 100000 w)
  generalize (decide (0 ≤ b) && decide (b ≤ 15)) = q1 at *
  generalize (decide (1 ≤ e) && decide (e ≤ 10000)) = q2 at *
  generalize (decide (1 ≤ s) && decide (s ≤ 100000)) = q3 at *
  have G := Lib.hid (alloc_below w (.cells #[.int .i64 b, .int .i64 e, .int .i64 s] 35))
  go_enter Try.func51, Try.ntmps51
  go_wp2_with fail
  refine (I1.out _).mono ?_
  rintro x w' ⟨rfl, rfl⟩
  cases q1
  · go_wp2_with fail
    go_ret
    exact ⟨rfl, G.out⟩
  · go_wp2_with fail
    refine (I2.out _).mono ?_
    rintro x w' ⟨rfl, rfl⟩
    cases q2
    · go_wp2_with fail
      go_ret
      exact ⟨rfl, G.out⟩
    · go_wp2_with fail
      refine (I3.out _).mono ?_
      rintro x w' ⟨rfl, rfl⟩
      go_wp2_with fail
      go_ret
      exact ⟨ret_bool (by simp), G.out⟩

set_option maxHeartbeats 400000 in
theorem row_mayValue (v : Ver) (w : World) :
    Calls Try.prog 53 #[verV v] w fun r w' => r = .returned (.bool (decide (v.val.size ≤ 200) && !(v.gone && !decide (v.val = ⟨#[]⟩)))) ∧ Below w.heap.size w w' := by
  obtain ⟨k, b, e, s, ⟨x, y⟩, u, g⟩ := v
  unfold verV
  simp only
  cases g
  · go_enter Try.func53, Try.ntmps53
    go_wp2
    go_ret
    exact ⟨ret_bool (by simp <;> omega), alloc_below w _⟩
  · by_cases hu : u = ⟨#[]⟩
    · subst hu
      go_enter Try.func53, Try.ntmps53
      go_wp2
      go_ret
      exact ⟨rfl, alloc_below w _⟩
    · have hue := not_empty hu
      go_enter Try.func53, Try.ntmps53
      go_wp2
      go_ret
      exact ⟨ret_bool (by simp [hu]), alloc_below w _⟩

set_option maxHeartbeats 400000 in
theorem row_isKey (s : ByteArray) (w : World) (hs : s.size ≤ 1000000) :
    Calls Try.prog 50 #[.string s] w fun r w' => r = .returned (.bool (decide ((Ord.splitOf s.data.toList).2.2 = 0))) ∧ Below w.heap.size w w' := by
  have M1 := Lib.hid (fun w => Ord.order_split s w hs)
  generalize Ord.splitOf s.data.toList = sl at *
  obtain ⟨s1, s2, s3⟩ := sl
  go_enter Try.func50, Try.ntmps50
  go_wp2_with fail
  refine (M1.out _).mono ?_
  rintro x w' ⟨rfl, hb⟩
  have G := Lib.hid hb
  clear hb
  go_wp2_with fail
  go_ret
  exact ⟨ret_bool (by first | rfl | (rw [beq_eq_decide])), G.out⟩

set_option maxHeartbeats 2000000 in
theorem row_may (v : Ver) (w : World) (hk : v.key.size ≤ 1000000) :
    Calls Try.prog 34 #[verV v] w fun r w' => r = .returned (.bool (mayV v)) ∧ Below w.heap.size w w' := by
  have M1 := Lib.hid (fun w => row_isKey v.key w hk)
  have M2 := Lib.hid (fun w => row_mayStamp v.b v.e v.s w)
  have M3 := Lib.hid (fun w => p_may v.sp w)
  have M4 := Lib.hid (fun w => row_mayValue v w)
  have hh := Lib.hid (show mayV v = (decide ((Ord.splitOf v.key.data.toList).2.2 = 0) && ((decide (0 ≤ v.b) && decide (v.b ≤ 15)) && (decide (1 ≤ v.e) && decide (v.e ≤ 10000)) && (decide (1 ≤ v.s) && decide (v.s ≤ 100000))) && mayB v.sp && (decide (v.val.size ≤ 200) && !(v.gone && !decide (v.val = ⟨#[]⟩)))) from by
    unfold mayV rangeV
    simp only [Bool.and_assoc, Bool.and_comm, Bool.and_left_comm])
  generalize mayV v = res at *
  generalize decide ((Ord.splitOf v.key.data.toList).2.2 = 0) = q1 at *
  generalize ((decide (0 ≤ v.b) && decide (v.b ≤ 15)) && (decide (1 ≤ v.e) && decide (v.e ≤ 10000)) && (decide (1 ≤ v.s) && decide (v.s ≤ 100000))) = q2 at *
  generalize mayB v.sp = q3 at *
  generalize (decide (v.val.size ≤ 200) && !(v.gone && !decide (v.val = ⟨#[]⟩))) = q4 at *
  obtain ⟨k, b, e, s, ⟨x, y⟩, u, g⟩ := v
  unfold verV at M4 ⊢
  unfold spV at M3
  simp only at *
  have B := Lib.hid (Box.new w #[.string k, .int .i64 b, .int .i64 e, .int .i64 s, .int .i64 x, .int .i64 y, .string u, .bool g] 39 _ rfl)
  have G := Lib.hid (alloc_below w (.cells #[.string k, .int .i64 b, .int .i64 e, .int .i64 s, .int .i64 x, .int .i64 y, .string u, .bool g] 39))
  go_enter Try.func34, Try.ntmps34
  go_wp2_with fail
  generalize w.alloc (.cells #[.string k, .int .i64 b, .int .i64 e, .int .i64 s, .int .i64 x, .int .i64 y, .string u, .bool g] 39) = w0 at *
  refine (M1.out _).mono ?_
  rintro z w1 ⟨rfl, hb1⟩
  have B := Lib.hid (B.out.later hb1)
  have G := Lib.hid (G.out.trans (hb1.mono G.out.size))
  clear hb1
  cases q1
  · go_wp2_with fail
    go_ret
    exact ⟨ret_bool (by rw [hh.out]; rfl), G.out⟩
  have c1 := B.out.cell 1 (.int .i64 b) rfl
  have c2 := B.out.cell 2 (.int .i64 e) rfl
  have c3 := B.out.cell 3 (.int .i64 s) rfl
  go_wp2_with fail
  refine (M2.out _).mono ?_
  rintro z w2 ⟨rfl, hb2⟩
  have B := Lib.hid (B.out.later hb2)
  have G := Lib.hid (G.out.trans (hb2.mono G.out.size))
  clear hb2 c1 c2 c3
  cases q2
  · go_wp2_with fail
    go_ret
    exact ⟨ret_bool (by rw [hh.out]; rfl), G.out⟩
  have c4 := B.out.cell 4 (.int .i64 x) rfl
  have c5 := B.out.cell 5 (.int .i64 y) rfl
  go_wp2_with fail
  refine (M3.out _).mono ?_
  rintro z w3 ⟨rfl, hb3⟩
  have B := Lib.hid (B.out.later hb3)
  have G := Lib.hid (G.out.trans (hb3.mono G.out.size))
  clear hb3 c4 c5
  cases q3
  · go_wp2_with fail
    go_ret
    exact ⟨ret_bool (by rw [hh.out]; rfl), G.out⟩
  have c0 := B.out.cell 0 (.string k) rfl
  have c1 := B.out.cell 1 (.int .i64 b) rfl
  have c2 := B.out.cell 2 (.int .i64 e) rfl
  have c3 := B.out.cell 3 (.int .i64 s) rfl
  have c4 := B.out.cell 4 (.int .i64 x) rfl
  have c5 := B.out.cell 5 (.int .i64 y) rfl
  have c6 := B.out.cell 6 (.string u) rfl
  have c7 := B.out.cell 7 (.bool g) rfl
  go_wp2_with fail
  refine (M4.out _).mono ?_
  rintro z w4 ⟨rfl, hb4⟩
  have G := Lib.hid (G.out.trans (hb4.mono G.out.size))
  clear hb4 c0 c1 c2 c3 c4 c5 c6 c7
  go_wp2_with fail
  go_ret
  exact ⟨ret_bool (by rw [hh.out]; simp), G.out⟩
end Go.Proofs.Ytecomnklofceaaa
