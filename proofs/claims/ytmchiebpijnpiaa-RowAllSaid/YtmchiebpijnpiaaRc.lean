/- Layer 6: versions: which may be, cut to few bytes, their bytes, by the document. -/
import Derived.Test.YtmchiebpijnpiaaRs
import Derived.Test.YtmchiebpijnpiaaRb
import Derived.Test.YtmchiebpijnpiaaOB
namespace Go.Proofs.Ytmchiebpijnpiaa
open Go.RowKit
set_option linter.unusedVariables false

structure Ver where
  key : ByteArray
  b : Int
  e : Int
  s : Int
  sp : Sp
  val : ByteArray
  gone : Bool
def verV (v : Ver) : Value := .agg #[.string v.key, .int .i64 v.b, .int .i64 v.e, .int .i64 v.s, .int .i64 v.sp.1, .int .i64 v.sp.2, .string v.val, .bool v.gone]
def rangeV (v : Ver) : Bool := decide (0 ≤ v.b) && decide (v.b ≤ 15) && decide (1 ≤ v.e) && decide (v.e ≤ 10000) && decide (1 ≤ v.s) && decide (v.s ≤ 100000)
def mayV (v : Ver) : Bool := decide ((Ord.splitOf v.key.data.toList).2.2 = 0) && mayB v.sp && decide (v.val.size ≤ 200) && !(v.gone && !decide (v.val = ⟨#[]⟩)) && rangeV v
def cutV (v : Ver) : Ver := { v with key := if 110 < v.key.size then v.key.extract 0 110 else v.key, val := if 210 < v.val.size then v.val.extract 0 210 else v.val }

theorem not_empty {u : ByteArray} (h : ¬ u = ⟨#[]⟩) : u.toList.isEmpty = false := by
  rw [ByteArray.toList_eq]
  obtain ⟨⟨l⟩⟩ := u
  cases l with
  | nil => exact absurd rfl h
  | cons x l => rfl

set_option maxHeartbeats 2000000 in
theorem ref6_cut (v : Ver) (w : World) :
    Calls Try.prog 10 #[verV v] w fun e w' => e = .returned (verV (cutV v)) ∧ Below w.heap.size w w' := by
  obtain ⟨k, b, e, s, ⟨x, y⟩, u, g⟩ := v
  unfold verV cutV
  simp only
  go_enter Try.func10, Try.ntmps10
  go_wp2_with fail
  all_goals
    first
      | refine bodyPost_ret (v := .agg #[.string (k.extract 0 110), .int .i64 b, .int .i64 e, .int .i64 s, .int .i64 x, .int .i64 y, .string (u.extract 0 210), .bool g]) ?_ rfl ⟨rfl, (alloc_below w _).trans ((alloc_below _ _).mono (by simp))⟩
      | refine bodyPost_ret (v := .agg #[.string (k.extract 0 110), .int .i64 b, .int .i64 e, .int .i64 s, .int .i64 x, .int .i64 y, .string u, .bool g]) ?_ rfl ⟨rfl, (alloc_below w _).trans ((alloc_below _ _).mono (by simp))⟩
      | refine bodyPost_ret (v := .agg #[.string k, .int .i64 b, .int .i64 e, .int .i64 s, .int .i64 x, .int .i64 y, .string (u.extract 0 210), .bool g]) ?_ rfl ⟨rfl, (alloc_below w _).trans ((alloc_below _ _).mono (by simp))⟩
      | refine bodyPost_ret (v := .agg #[.string k, .int .i64 b, .int .i64 e, .int .i64 s, .int .i64 x, .int .i64 y, .string u, .bool g]) ?_ rfl ⟨rfl, (alloc_below w _).trans ((alloc_below _ _).mono (by simp))⟩
    rw [results_cell1 rfl]
    go_simp

set_option maxHeartbeats 4000000 in
theorem ref6_may (v : Ver) (w : World) (hk : v.key.size ≤ 1000000) :
    Calls Try.prog 13 #[verV v] w fun e w' => e = .returned (.bool (mayV v)) ∧ Below w.heap.size w w' := by
  have M1 := Lib.hid (fun w => Ord.ref_split v.key w hk)
  have M2 := Lib.hid (fun w => ref_may v.sp w)
  have hh := Lib.hid (show mayV v = (decide ((Ord.splitOf v.key.data.toList).2.2 = 0) && mayB v.sp && decide (v.val.size ≤ 200) && !(v.gone && !decide (v.val = ⟨#[]⟩)) && rangeV v) from rfl)
  have hr := Lib.hid (show rangeV v = (decide (0 ≤ v.b) && decide (v.b ≤ 15) && decide (1 ≤ v.e) && decide (v.e ≤ 10000) && decide (1 ≤ v.s) && decide (v.s ≤ 100000)) from rfl)
  generalize mayV v = res at *
  generalize rangeV v = rg at *
  generalize mayB v.sp = ms at *
  generalize Ord.splitOf v.key.data.toList = sl at *
  obtain ⟨s1, s2, s3⟩ := sl
  obtain ⟨k, b, e, s, ⟨x, y⟩, u, g⟩ := v
  unfold verV
  unfold spV at M2
  simp only at *
  have B := Lib.hid (Box.new w #[.string k, .int .i64 b, .int .i64 e, .int .i64 s, .int .i64 x, .int .i64 y, .string u, .bool g] 27 _ rfl)
  have G := Lib.hid (alloc_below w (.cells #[.string k, .int .i64 b, .int .i64 e, .int .i64 s, .int .i64 x, .int .i64 y, .string u, .bool g] 27))
  go_enter Try.func13, Try.ntmps13
  go_wp2_with fail
  generalize w.alloc (.cells #[.string k, .int .i64 b, .int .i64 e, .int .i64 s, .int .i64 x, .int .i64 y, .string u, .bool g] 27) = w0 at *
  refine (M1.out _).mono ?_
  rintro z w1 ⟨rfl, hb1⟩
  have B := Lib.hid (B.out.later hb1)
  have G := Lib.hid (G.out.trans (hb1.mono G.out.size))
  clear hb1
  have c4 := B.out.cell 4 (.int .i64 x) rfl
  have c5 := B.out.cell 5 (.int .i64 y) rfl
  go_wp2_with fail
  refine (M2.out _).mono ?_
  rintro z w2 ⟨rfl, hb2⟩
  have B := Lib.hid (B.out.later hb2)
  have G := Lib.hid (G.out.trans (hb2.mono G.out.size))
  clear hb2 c4 c5
  have c1 := B.out.cell 1 (.int .i64 b) rfl
  have c2 := B.out.cell 2 (.int .i64 e) rfl
  have c3 := B.out.cell 3 (.int .i64 s) rfl
  have c6 := B.out.cell 6 (.string u) rfl
  have c7 := B.out.cell 7 (.bool g) rfl
  have hno : ∀ q, (s3 ≠ 0 ∨ ms = false ∨ 200 < u.size ∨ (g = true ∧ u ≠ ⟨#[]⟩)) → q = false → res = q := fun q h hq => by
    rw [hq, hh.out]
    rcases h with h | h | h | ⟨h1, h2⟩
    · simp [h]
    · simp [h]
    · rw [show decide (u.size ≤ 200) = false from by simp; omega]; simp
    · simp [h1, h2]
  have hyes : s3 = 0 → ms = true → u.size ≤ 200 → (g = true → u = ⟨#[]⟩) → res = rg := fun h1 h2 h3 h4 => by
    rw [hh.out, h1, h2]
    rw [show decide (u.size ≤ 200) = true from by simpa using h3]
    cases g
    · simp
    · simp [h4 rfl]
  have HN := Lib.hid hno
  have HY := Lib.hid hyes
  clear hno hyes hh
  by_cases z1 : s3 = 0
  · cases ms
    · have hres := Lib.hid (HN.out false (.inr (.inl rfl)) rfl)
      go_wp2_with fail
      go_ret
      exact ⟨ret_bool hres.out.symm, G.out⟩
    · by_cases z2 : 200 < u.size
      · have hres := Lib.hid (HN.out false (.inr (.inr (.inl z2))) rfl)
        go_wp2_with fail
        go_ret
        exact ⟨ret_bool hres.out.symm, G.out⟩
      · cases hg : g
        · have hres := Lib.hid (show res = rg from HY.out z1 rfl (by omega) (by simp [hg]))
          subst hg
          clear HN HY
          go_wp2_with fail
          all_goals go_ret
          all_goals exact ⟨ret_bool (by rw [hres.out, hr.out]; simp [*] <;> omega), G.out⟩
        · subst hg
          by_cases hu : u = ⟨#[]⟩
          · have hres := Lib.hid (show res = rg from HY.out z1 rfl (by omega) (fun _ => hu))
            clear HN HY
            subst hu
            go_wp2_with fail
            all_goals go_ret
            all_goals exact ⟨ret_bool (by rw [hres.out, hr.out]; simp [*] <;> omega), G.out⟩
          · have hres := Lib.hid (HN.out false (.inr (.inr (.inr ⟨rfl, hu⟩))) rfl)
            have hue := not_empty hu
            go_wp2_with fail
            go_ret
            exact ⟨ret_bool hres.out.symm, G.out⟩
  · have hres := Lib.hid (HN.out false (.inl z1) rfl)
    go_wp2_with fail
    go_ret
    exact ⟨ret_bool hres.out.symm, G.out⟩
end Go.Proofs.Ytmchiebpijnpiaa
