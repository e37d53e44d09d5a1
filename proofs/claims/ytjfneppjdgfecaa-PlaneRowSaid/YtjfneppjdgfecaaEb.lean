/- Layer 5: rectangles, by the document's answer: which may be, their points, areas, what two have in common. -/
import Derived.Test.YtjfneppjdgfecaaEa
namespace Go.Proofs.Ytjfneppjdgfecaa
open Go.RowKit
set_option linter.unusedVariables false

def reV (r : Re) : Value := .agg #[.int .i64 r.1.1, .int .i64 r.1.2, .int .i64 r.2.1, .int .i64 r.2.2]

set_option maxHeartbeats 1000000 in
theorem ref5_may (r : Re) (w : World) :
    Calls Try.prog 9 #[reV r] w fun e w' => e = .returned (.bool (rMay r)) ∧ Below w.heap.size w w' := by
  obtain ⟨⟨a, b⟩, ⟨c, d⟩⟩ := r
  have M1 := Lib.hid (fun w => ref_may (a, b) w)
  have M2 := Lib.hid (fun w => ref_may (c, d) w)
  have hh := Lib.hid (show rMay ((a, b), (c, d)) = (mayB (a, b) && mayB (c, d)) from rfl)
  have B := Lib.hid (Box.new w #[.int .i64 a, .int .i64 b, .int .i64 c, .int .i64 d] 25 _ rfl)
  have G := Lib.hid (alloc_below w (.cells #[.int .i64 a, .int .i64 b, .int .i64 c, .int .i64 d] 25))
  generalize rMay ((a, b), (c, d)) = res at *
  generalize mayB (a, b) = m1 at *
  generalize mayB (c, d) = m2 at *
  unfold spV at M1 M2
  unfold reV
  go_enter Try.func9, Try.ntmps9
  go_wp2_with fail
  generalize w.alloc (.cells #[.int .i64 a, .int .i64 b, .int .i64 c, .int .i64 d] 25) = w0 at *
  refine (M1.out _).mono ?_
  rintro e w1 ⟨rfl, hb1⟩
  have B := Lib.hid (B.out.later hb1)
  have G := Lib.hid (G.out.trans (hb1.mono G.out.size))
  clear hb1
  have c2 := B.out.cell 2 (.int .i64 c) rfl
  have c3 := B.out.cell 3 (.int .i64 d) rfl
  go_wp2_with fail
  refine (M2.out _).mono ?_
  rintro e w2 ⟨rfl, hb2⟩
  have G := Lib.hid (G.out.trans (hb2.mono G.out.size))
  clear hb2 c2 c3
  cases m1
  all_goals
    go_wp2_with fail
    go_ret
    exact ⟨ret_bool (by rw [hh.out]; rfl), G.out⟩

set_option maxHeartbeats 1000000 in
theorem ref5_has (r : Re) (x t : Int) (w : World) :
    Calls Try.prog 15 #[reV r, .int .i64 x, .int .i64 t] w fun e w' => e = .returned (.bool (rHas r x t)) ∧ Below w.heap.size w w' := by
  obtain ⟨⟨a, b⟩, ⟨c, d⟩⟩ := r
  have M1 := Lib.hid (fun w => ref_has (a, b) x w)
  have M2 := Lib.hid (fun w => ref_has (c, d) t w)
  have hh := Lib.hid (show rHas ((a, b), (c, d)) x t = (hasB (a, b) x && hasB (c, d) t) from rfl)
  have B := Lib.hid (Box.new w #[.int .i64 a, .int .i64 b, .int .i64 c, .int .i64 d] 25 _ rfl)
  have G := Lib.hid (alloc_below w (.cells #[.int .i64 a, .int .i64 b, .int .i64 c, .int .i64 d] 25))
  generalize rHas ((a, b), (c, d)) x t = res at *
  generalize hasB (a, b) x = m1 at *
  generalize hasB (c, d) t = m2 at *
  unfold spV at M1 M2
  unfold reV
  go_enter Try.func15, Try.ntmps15
  go_wp2_with fail
  generalize w.alloc (.cells #[.int .i64 a, .int .i64 b, .int .i64 c, .int .i64 d] 25) = w0 at *
  refine (M1.out _).mono ?_
  rintro e w1 ⟨rfl, hb1⟩
  have B := Lib.hid (B.out.later hb1)
  have G := Lib.hid (G.out.trans (hb1.mono G.out.size))
  clear hb1
  have c2 := B.out.cell 2 (.int .i64 c) rfl
  have c3 := B.out.cell 3 (.int .i64 d) rfl
  go_wp2_with fail
  refine (M2.out _).mono ?_
  rintro e w2 ⟨rfl, hb2⟩
  have G := Lib.hid (G.out.trans (hb2.mono G.out.size))
  clear hb2 c2 c3
  cases m1
  all_goals
    go_wp2_with fail
    go_ret
    exact ⟨ret_bool (by rw [hh.out]; rfl), G.out⟩

set_option maxHeartbeats 1000000 in
theorem ref5_area (r : Re) (w : World) :
    Calls Try.prog 16 #[reV r] w fun e w' => e = .returned (.int .i64 (rArea r)) ∧ Below w.heap.size w w' := by
  have M := Lib.hid (fun w => ref5_may r w)
  have hno := Lib.hid (show rMay r = false → rArea r = 0 from fun h => by unfold rArea; rw [if_neg (by simp [h])])
  have hyes := Lib.hid (show rMay r = true → rArea r = if r.1.2 - r.1.1 > 4611686018427387904 / (r.2.2 - r.2.1) then 4611686018427387904 else (r.1.2 - r.1.1) * (r.2.2 - r.2.1) from fun h => by unfold rArea; rw [if_pos h])
  have hle := Lib.hid (area_le r)
  have hmb := Lib.hid (show rMay r = true → _ from fun h => And.intro (mayB_iff.1 (rMay_iff.1 h).1) (mayB_iff.1 (rMay_iff.1 h).2))
  obtain ⟨⟨a, b⟩, ⟨c, d⟩⟩ := r
  have B := Lib.hid (Box.new w #[.int .i64 a, .int .i64 b, .int .i64 c, .int .i64 d] 25 _ rfl)
  have G := Lib.hid (alloc_below w (.cells #[.int .i64 a, .int .i64 b, .int .i64 c, .int .i64 d] 25))
  generalize rArea ((a, b), (c, d)) = res at *
  generalize rMay ((a, b), (c, d)) = m at *
  unfold reV at *
  go_enter Try.func16, Try.ntmps16
  go_wp2_with fail
  generalize w.alloc (.cells #[.int .i64 a, .int .i64 b, .int .i64 c, .int .i64 d] 25) = w0 at *
  refine (M.out _).mono ?_
  rintro e w1 ⟨rfl, hb1⟩
  have B := Lib.hid (B.out.later hb1)
  have G := Lib.hid (G.out.trans (hb1.mono G.out.size))
  clear hb1
  cases m
  · go_wp2_with fail
    go_ret
    exact ⟨ret_int (hno.out (by trivial)).symm, G.out⟩
  · have c0 := B.out.cell 0 (.int .i64 a) rfl
    have c1 := B.out.cell 1 (.int .i64 b) rfl
    have c2 := B.out.cell 2 (.int .i64 c) rfl
    have c3 := B.out.cell 3 (.int .i64 d) rfl
    obtain ⟨⟨a0, a1, a2⟩, ⟨b0, b1, b2⟩⟩ := hmb.out (by trivial)
    have hr := Lib.hid (hyes.out (by trivial))
    clear hno hyes hmb
    go_wp2_with fail
    · rename_i h
      go_ret
      exact ⟨ret_int (by rw [hr.out, if_pos h]), G.out⟩
    · rename_i h
      have hp : 0 ≤ (b - a) * (d - c) := Int.mul_nonneg (by omega) (by omega)
      have hr2 : res = (b - a) * (d - c) := by rw [hr.out, if_neg (by omega)]
      have hl := hle.out
      rw [hr2] at hl
      go_ret
      refine ⟨ret_int ?_, G.out⟩
      rw [hr2]
      generalize (b - a) * (d - c) = x at *
      unfold wrap64
      omega

def reL : Lay Re := ⟨4, fun r => [.int .i64 r.1.1, .int .i64 r.1.2, .int .i64 r.2.1, .int .i64 r.2.2], fun _ => rfl, fun x u hu => by simp at hu; rcases hu with rfl | rfl | rfl | rfl <;> rfl, by decide⟩
theorem re_info : (Try.prog.info? 25).map (fun i => (i.zero, i.size, i.bytes)) = some (some (.agg #[.int .i64 0, .int .i64 0, .int .i64 0, .int .i64 0]), 4, 32) := by kernel_rfl
abbrev RdRe (w : World) (B : Nat) (v : Value) (l : List Re) : Prop := RdX reL w B v l
abbrev OwnRe (w : World) (base : Nat) (v : Value) (l : List Re) : Prop := OwnX reL 25 w base v l
theorem RdRe.here {w : World} {B : Nat} {A : Option Addr} {n c : Nat} {l : List Re} (h : RdRe w B (.slice A n c) l) (k : Nat) (hk : k < l.length) : ∃ b o, A = some ⟨b, o, none⟩ ∧ b < B ∧ w.cell? ⟨b, o + k * 4, none⟩ = some (.int .i64 l[k].1.1) ∧ w.cell? ⟨b, o + k * 4 + 1, none⟩ = some (.int .i64 l[k].1.2) ∧ w.cell? ⟨b, o + k * 4 + 2, none⟩ = some (.int .i64 l[k].2.1) ∧ w.cell? ⟨b, o + k * 4 + 3, none⟩ = some (.int .i64 l[k].2.2) := by
  obtain ⟨b, o, rfl, hb, hc⟩ := h.at k hk
  exact ⟨b, o, rfl, hb, hc 0 _ rfl, hc 1 _ rfl, hc 2 _ rfl, hc 3 _ rfl⟩
end Go.Proofs.Ytjfneppjdgfecaa
