/- Layer 4: spans, by the document's answer: which may be, which times lie in them, what two have in common; a piece, cut. -/
import Derived.Test.YtoikhgldffgelaaSn
import Derived.Test.YtoikhgldffgelaaBgen
import Derived.Test.YtoikhgldffgelaaBret
namespace Go.Proofs.Ytoikhgldffgelaa
open Go.RowKit
set_option linter.unusedVariables false

def spV (s : Sp) : Value := .agg #[.int .i64 s.1, .int .i64 s.2]
def pcV (p : Pc) : Value := .agg #[.int .i64 p.1.1, .int .i64 p.1.2, .string p.2]

set_option maxHeartbeats 400000 in
theorem ref_may (s : Sp) (w : World) :
    Calls Try.prog 16 #[spV s] w fun e w' => e = .returned (.bool (mayB s)) ∧ Below w.heap.size w w' := by
  obtain ⟨a, b⟩ := s
  unfold spV
  go_enter Try.func16, Try.ntmps16
  go_wp2
  all_goals go_ret
  all_goals exact ⟨ret_bool (by simp [mayB, *] <;> omega), alloc_below w _⟩

set_option maxHeartbeats 400000 in
theorem ref_has (s : Sp) (t : Int) (w : World) :
    Calls Try.prog 18 #[spV s, .int .i64 t] w fun e w' => e = .returned (.bool (hasB s t)) ∧ Below w.heap.size w w' := by
  obtain ⟨a, b⟩ := s
  have HM := Lib.hid (ref_may (a, b))
  have hh := Lib.hid (show hasB (a, b) t = (mayB (a, b) && decide (a ≤ t ∧ t < b)) from rfl)
  unfold spV at *
  go_enter Try.func18, Try.ntmps18
  go_wp2_with fail
  refine (HM.out _).mono ?_
  rintro e w1 ⟨rfl, hb1⟩
  have c0 := made_cell (by simpa using hb1) 0 _ rfl
  have c1 := made_cell (by simpa using hb1) 1 _ rfl
  have G := Lib.hid ((alloc_below w (.cells #[.int .i64 a, .int .i64 b] 23)).trans (hb1.mono (by simp)))
  clear hb1
  generalize mayB (a, b) = m at *
  cases m
  all_goals
    go_wp2_with fail
    all_goals go_ret
    all_goals exact ⟨ret_bool (by rw [hh.out]; simp [*] <;> omega), G.out⟩

set_option maxHeartbeats 400000 in
theorem ref_cut (p : Pc) (w : World) :
    Calls Try.prog 21 #[pcV p] w fun e w' => e = .returned (pcV (cutP p)) ∧ Below w.heap.size w w' := by
  obtain ⟨⟨a, b⟩, v⟩ := p
  unfold pcV
  go_enter Try.func21, Try.ntmps21
  go_wp2_with fail
  · have e : cutP ((a, b), v) = ((a, b), v.extract 0 10) := by unfold cutP; rw [if_pos (by simp only; omega)]
    refine bodyPost_ret (v := .agg #[.int .i64 a, .int .i64 b, .string (v.extract 0 10)]) ?_ rfl ⟨by rw [e], ?_⟩
    · rw [results_cell1 rfl]
      go_simp
    · exact (alloc_below w _).trans ((alloc_below _ _).mono (by simp))
  · have e : cutP ((a, b), v) = ((a, b), v) := by unfold cutP; rw [if_neg (by simp only; omega)]
    refine bodyPost_ret (v := .agg #[.int .i64 a, .int .i64 b, .string v]) ?_ rfl ⟨by rw [e], ?_⟩
    · rw [results_cell1 rfl]
      go_simp
    · exact (alloc_below w _).trans ((alloc_below _ _).mono (by simp))

theorem meet_eq (a b c d : Int) : meetF (a, b) (c, d) = if mayB (a, b) = true ∧ mayB (c, d) = true ∧ c < b ∧ a < d then ((if c > a then c else a, if d < b then d else b), true) else ((0, 0), false) := rfl

set_option maxHeartbeats 1000000 in
theorem ref_meet (s t : Sp) (w : World) :
    Calls Try.prog 12 #[spV s, spV t] w fun e w' => e = .returned (.tuple #[spV (meetF s t).1, .bool (meetF s t).2]) ∧ Below w.heap.size w w' := by
  obtain ⟨a, b⟩ := s
  obtain ⟨c, d⟩ := t
  have M1 := Lib.hid (ref_may (a, b))
  have M2 := Lib.hid (ref_may (c, d))
  have hh := Lib.hid (meet_eq a b c d)
  have hsp : ∀ x : Sp, spV x = .agg #[.int .i64 x.1, .int .i64 x.2] := fun _ => rfl
  have B0 := Lib.hid (((Box.new w #[.int .i64 a, .int .i64 b] 23 _ rfl).alloc (.cells #[.int .i64 c, .int .i64 d] 23)).alloc (.cells #[.int .i64 0, .int .i64 0] 23))
  have B1 := Lib.hid ((Box.new (w.alloc (.cells #[.int .i64 a, .int .i64 b] 23)) #[.int .i64 c, .int .i64 d] 23 (w.heap.size + 1) (by simp)).alloc (.cells #[.int .i64 0, .int .i64 0] 23))
  have B2 := Lib.hid (Box.new ((w.alloc (.cells #[.int .i64 a, .int .i64 b] 23)).alloc (.cells #[.int .i64 c, .int .i64 d] 23)) #[.int .i64 0, .int .i64 0] 23 (w.heap.size + 1 + 1) (by simp))
  have G := Lib.hid ((((Below.refl w.heap.size w).alloc (Nat.le_refl _) (.cells #[.int .i64 a, .int .i64 b] 23)).alloc (by simp) (.cells #[.int .i64 c, .int .i64 d] 23)).alloc (by simp; omega) (.cells #[.int .i64 0, .int .i64 0] 23))
  unfold spV at M1 M2
  rw [hsp, hsp]
  generalize meetF (a, b) (c, d) = r at *
  go_enter Try.func12, Try.ntmps12
  go_wp2_with fail
  generalize ((w.alloc (.cells #[.int .i64 a, .int .i64 b] 23)).alloc (.cells #[.int .i64 c, .int .i64 d] 23)).alloc (.cells #[.int .i64 0, .int .i64 0] 23) = W at *
  refine (M1.out _).mono ?_
  rintro e w1 ⟨rfl, hb1⟩
  have B0 := Lib.hid (B0.out.later hb1)
  have B1 := Lib.hid (B1.out.later hb1)
  have B2 := Lib.hid (B2.out.later hb1)
  have G := Lib.hid (G.out.trans (hb1.mono G.out.size))
  have c10 := B1.out.cell 0 _ rfl
  have c11 := B1.out.cell 1 _ rfl
  clear hb1
  go_wp2_with fail
  refine (M2.out _).mono ?_
  rintro e w2 ⟨rfl, hb2⟩
  have B0 := Lib.hid (B0.out.later hb2)
  have B1 := Lib.hid (B1.out.later hb2)
  have B2 := Lib.hid (B2.out.later hb2)
  have G := Lib.hid (G.out.trans (hb2.mono G.out.size))
  clear hb2 c10 c11
  have c00 := B0.out.cell 0 (.int .i64 a) rfl
  have c01 := B0.out.cell 1 (.int .i64 b) rfl
  have c10 := B1.out.cell 0 (.int .i64 c) rfl
  have c11 := B1.out.cell 1 (.int .i64 d) rfl
  have c20 := B2.out.cell 0 (.int .i64 0) rfl
  have c21 := B2.out.cell 1 (.int .i64 0) rfl
  have f20 := B2.out.frozen 0
  have f21 := B2.out.frozen 1
  have hl2 := B2.out.lt
  generalize mayB (a, b) = m1 at *
  generalize mayB (c, d) = m2 at *
  have G2 := Lib.hid (show ∀ n, Below w.heap.size w2 (((w2.setCell ⟨w.heap.size + 1 + 1, 0, none⟩ (.int .i64 n.1)).setCell ⟨w.heap.size + 1 + 1, 1, none⟩ (.int .i64 n.2))) from fun (n : Int × Int) => ((Below.refl _ _).setCell (p := ⟨w.heap.size + 1 + 1, 0, none⟩) (by simp only; omega) _).setCell (p := ⟨w.heap.size + 1 + 1, 1, none⟩) (by simp only; omega) _)
  cases m1
  · have hr : r = ((0, 0), false) := by rw [hh.out]; simp
    subst hr
    go_wp2_with fail
    refine bodyPost_ret (v := .tuple #[.agg #[.int .i64 0, .int .i64 0], .bool false]) ?_ rfl ⟨rfl, ?_⟩
    · rw [results_cell_tmp rfl]
      go_simp
    · exact G.out.trans (G2.out (0, 0))
  · cases m2
    · have hr : r = ((0, 0), false) := by rw [hh.out]; simp
      subst hr
      go_wp2_with fail
      refine bodyPost_ret (v := .tuple #[.agg #[.int .i64 0, .int .i64 0], .bool false]) ?_ rfl ⟨rfl, ?_⟩
      · rw [results_cell_tmp rfl]
        go_simp
      · exact G.out.trans (G2.out (0, 0))
    · by_cases hov : c < b ∧ a < d
      · obtain ⟨h1, h2⟩ := hov
        have hr : r = ((if c > a then c else a, if d < b then d else b), true) := by rw [hh.out, if_pos ⟨rfl, rfl, h1, h2⟩]
        have c10a : ∀ cs, (w2.alloc (.cells cs 23)).cell? ⟨w.heap.size + 1, 0, none⟩ = some (.int .i64 c) := fun cs => (B1.out.alloc (.cells cs 23)).cell 0 _ rfl
        have c11a : ∀ cs, (w2.alloc (.cells cs 23)).cell? ⟨w.heap.size + 1, 1, none⟩ = some (.int .i64 d) := fun cs => (B1.out.alloc (.cells cs 23)).cell 1 _ rfl
        have c20a : ∀ cs, (w2.alloc (.cells cs 23)).cell? ⟨w.heap.size + 1 + 1, 0, none⟩ = some (.int .i64 0) := fun cs => (B2.out.alloc (.cells cs 23)).cell 0 _ rfl
        have c21a : ∀ cs, (w2.alloc (.cells cs 23)).cell? ⟨w.heap.size + 1 + 1, 1, none⟩ = some (.int .i64 0) := fun cs => (B2.out.alloc (.cells cs 23)).cell 1 _ rfl
        have f20a : ∀ cs, (w2.alloc (.cells cs 23)).frozen? ⟨w.heap.size + 1 + 1, 0, none⟩ = false := fun cs => (B2.out.alloc (.cells cs 23)).frozen 0
        have f21a : ∀ cs, (w2.alloc (.cells cs 23)).frozen? ⟨w.heap.size + 1 + 1, 1, none⟩ = false := fun cs => (B2.out.alloc (.cells cs 23)).frozen 1
        by_cases h3 : c > a
        · by_cases h4 : d < b
          · rw [if_pos h3, if_pos h4] at hr
            go_wp2_with fail
            refine bodyPost_ret (v := .tuple #[.agg #[.int .i64 c, .int .i64 d], .bool true]) ?_ rfl ⟨by rw [hr]; rfl, ?_⟩
            · rw [results_cell_tmp rfl]
              go_simp
            · exact (G.out.trans (G2.out (c, d))).alloc (G.out.trans (G2.out (c, d))).size _
          · rw [if_pos h3, if_neg h4] at hr
            go_wp2_with fail
            refine bodyPost_ret (v := .tuple #[.agg #[.int .i64 c, .int .i64 b], .bool true]) ?_ rfl ⟨by rw [hr]; rfl, ?_⟩
            · rw [results_cell_tmp rfl]
              go_simp
            · exact (G.out.trans (G2.out (c, b))).alloc (G.out.trans (G2.out (c, b))).size _
        · by_cases h4 : d < b
          · rw [if_neg h3, if_pos h4] at hr
            go_wp2_with fail
            refine bodyPost_ret (v := .tuple #[.agg #[.int .i64 a, .int .i64 d], .bool true]) ?_ rfl ⟨by rw [hr]; rfl, ?_⟩
            · rw [results_cell_tmp rfl]
              go_simp
            · exact (G.out.trans (G2.out (a, d))).alloc (G.out.trans (G2.out (a, d))).size _
          · rw [if_neg h3, if_neg h4] at hr
            go_wp2_with fail
            refine bodyPost_ret (v := .tuple #[.agg #[.int .i64 a, .int .i64 b], .bool true]) ?_ rfl ⟨by rw [hr]; rfl, ?_⟩
            · rw [results_cell_tmp rfl]
              go_simp
            · exact (G.out.trans (G2.out (a, b))).alloc (G.out.trans (G2.out (a, b))).size _
      · have hr : r = ((0, 0), false) := by rw [hh.out, if_neg (fun h => hov ⟨h.2.2.1, h.2.2.2⟩)]
        subst hr
        have hor : b ≤ c ∨ d ≤ a := by omega
        rcases hor with h | h
        · go_wp2_with fail
          refine bodyPost_ret (v := .tuple #[.agg #[.int .i64 0, .int .i64 0], .bool false]) ?_ rfl ⟨rfl, ?_⟩
          · rw [results_cell_tmp rfl]
            go_simp
          · exact G.out.trans (G2.out (0, 0))
        · rcases Int.lt_or_le c b with h2 | h2
          · go_wp2_with fail
            refine bodyPost_ret (v := .tuple #[.agg #[.int .i64 0, .int .i64 0], .bool false]) ?_ rfl ⟨rfl, ?_⟩
            · rw [results_cell_tmp rfl]
              go_simp
            · exact G.out.trans (G2.out (0, 0))
          · go_wp2_with fail
            refine bodyPost_ret (v := .tuple #[.agg #[.int .i64 0, .int .i64 0], .bool false]) ?_ rfl ⟨rfl, ?_⟩
            · rw [results_cell_tmp rfl]
              go_simp
            · exact G.out.trans (G2.out (0, 0))
end Go.Proofs.Ytoikhgldffgelaa
