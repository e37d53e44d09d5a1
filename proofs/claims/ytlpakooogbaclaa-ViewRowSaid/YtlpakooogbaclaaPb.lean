/- Layer 4, the project's: what two have in common. -/
import Derived.Test.YtlpakooogbaclaaPa
namespace Go.Proofs.Ytlpakooogbaclaa
open Go.RowKit
set_option linter.unusedVariables false

def bothF (s t : Sp) : Sp := (if s.1 < t.1 then t.1 else s.1, if t.2 < s.2 then t.2 else s.2)
theorem meet_both (s t : Sp) : meetF s t = if mayB s = true ∧ mayB t = true ∧ mayB (bothF s t) = true then (bothF s t, true) else ((0, 0), false) := by
  by_cases h : mayB s = true ∧ mayB t = true ∧ t.1 < s.2 ∧ s.1 < t.2
  · obtain ⟨h1, h2, h3, h4⟩ := h
    have h1' := mayB_iff.1 h1
    have h2' := mayB_iff.1 h2
    have hb : mayB (bothF s t) = true := by
      rw [mayB_iff]; unfold bothF; simp only
      split <;> split <;> omega
    rw [if_pos (c := mayB s = true ∧ mayB t = true ∧ mayB (bothF s t) = true) ⟨h1, h2, hb⟩, meet_pos ⟨h1, h2, h3, h4⟩]
    rfl
  · rw [meet_neg h, if_neg]
    rintro ⟨h1, h2, h3⟩
    have h1' := mayB_iff.1 h1
    have h2' := mayB_iff.1 h2
    rw [mayB_iff] at h3
    unfold bothF at h3; simp only at h3
    refine h ⟨h1, h2, ?_⟩
    split at h3 <;> split at h3 <;> omega





end Go.Proofs.Ytlpakooogbaclaa
/- Layer 4, the project's: what is left of a span, as two. -/
namespace Go.Proofs.Ytlpakooogbaclaa
open Go.RowKit
set_option linter.unusedVariables false

def leftF (a b : Sp) : Sp × Sp := if mayB a = true ∧ mayB b = true then ((a.1, if b.1 < a.2 then b.1 else a.2), (if a.1 < b.2 then b.2 else a.1, a.2)) else (a, (0, 0))
theorem left_pos {a b : Sp} (ha : mayB a = true) (hb : mayB b = true) : leftF a b = ((a.1, if b.1 < a.2 then b.1 else a.2), (if a.1 < b.2 then b.2 else a.1, a.2)) := if_pos ⟨ha, hb⟩
theorem left_neg {a b : Sp} (h : ¬ (mayB a = true ∧ mayB b = true)) : leftF a b = (a, (0, 0)) := if_neg h
theorem minus_ov {a b : Sp} (ha : mayB a = true) (hb : mayB b = true ∧ b.1 < a.2 ∧ a.1 < b.2) : minusF a b = (if a.1 < b.1 then [(a.1, b.1)] else []) ++ (if b.2 < a.2 then [(b.2, a.2)] else []) := by
  unfold minusF; rw [if_pos ha, if_pos hb]
theorem minus_no {a b : Sp} (ha : mayB a = true) (hb : ¬ (mayB b = true ∧ b.1 < a.2 ∧ a.1 < b.2)) : minusF a b = [a] := by
  unfold minusF; rw [if_pos ha, if_neg hb]
theorem minus_bad {a b : Sp} (ha : ¬ mayB a = true) : minusF a b = [] := by unfold minusF; rw [if_neg ha]
theorem left_minus (a b : Sp) : minusF a b = [(leftF a b).1, (leftF a b).2].filter mayB := by
  have h0 : mayB (0, 0) = false := rfl
  by_cases ha : mayB a = true
  · have ha' := mayB_iff.1 ha
    by_cases hb : mayB b = true
    · have hb' := mayB_iff.1 hb
      rw [left_pos ha hb]
      have k1 : mayB (a.1, if b.1 < a.2 then b.1 else a.2) = decide (a.1 < b.1) := by
        rw [Bool.eq_iff_iff, mayB_iff, decide_eq_true_iff]; simp only; split <;> omega
      have k2 : mayB (if a.1 < b.2 then b.2 else a.1, a.2) = decide (b.2 < a.2) := by
        rw [Bool.eq_iff_iff, mayB_iff, decide_eq_true_iff]; simp only; split <;> omega
      rw [List.filter_cons, List.filter_cons, List.filter_nil, k1, k2]
      by_cases ho : b.1 < a.2 ∧ a.1 < b.2
      · rw [minus_ov ha ⟨hb, ho⟩, if_pos ho.1, if_pos ho.2]
        by_cases h1 : a.1 < b.1 <;> by_cases h2 : b.2 < a.2 <;> simp [h1, h2]
      · rw [minus_no ha (fun h => ho h.2)]
        by_cases h1 : b.1 < a.2
        · have h2 : ¬ a.1 < b.2 := fun h => ho ⟨h1, h⟩
          have h3 : ¬ a.1 < b.1 := by omega
          have h4 : b.2 < a.2 := by omega
          simp [h2, h3, h4]
        · have h3 : a.1 < b.1 := by omega
          have h4 : ¬ b.2 < a.2 := by omega
          simp [h1, h3, h4]
    · rw [minus_no ha (fun h => hb h.1), left_neg (fun h => hb h.2)]
      simp [ha, h0]
  · rw [minus_bad ha, left_neg (fun h => ha h.1)]
    simp [ha, h0]
def lfV (l : Sp × Sp) : Value := .agg #[.int .i64 l.1.1, .int .i64 l.1.2, .int .i64 l.2.1, .int .i64 l.2.2]

set_option maxHeartbeats 1000000 in
theorem p_left (s t : Sp) (w : World) :
    Calls Try.prog 60 #[spV s, spV t] w fun e w' => e = .returned (lfV (leftF s t)) ∧ Below w.heap.size w w' := by
  obtain ⟨a, b⟩ := s
  obtain ⟨c, d⟩ := t
  have M1 := Lib.hid (p_may (a, b))
  have M2 := Lib.hid (p_may (c, d))
  have hh := Lib.hid (show leftF (a, b) (c, d) = if mayB (a, b) = true ∧ mayB (c, d) = true then ((a, if c < b then c else b), (if a < d then d else a, b)) else ((a, b), (0, 0)) from rfl)
  have hsp : ∀ x : Sp, spV x = .agg #[.int .i64 x.1, .int .i64 x.2] := fun _ => rfl
  have B0 := Lib.hid (((Box.new w #[.int .i64 a, .int .i64 b] 46 (w.heap.size) rfl).alloc (.cells #[.int .i64 c, .int .i64 d] 46)).alloc (.cells #[.int .i64 0, .int .i64 0, .int .i64 0, .int .i64 0] 89))
  have B1 := Lib.hid ((Box.new (w.alloc (.cells #[.int .i64 a, .int .i64 b] 46)) #[.int .i64 c, .int .i64 d] 46 (w.heap.size + 1) (by simp)).alloc (.cells #[.int .i64 0, .int .i64 0, .int .i64 0, .int .i64 0] 89))
  have B2 := Lib.hid (Box.new ((w.alloc (.cells #[.int .i64 a, .int .i64 b] 46)).alloc (.cells #[.int .i64 c, .int .i64 d] 46)) #[.int .i64 0, .int .i64 0, .int .i64 0, .int .i64 0] 89 (w.heap.size + 1 + 1) (by simp))
  have G := Lib.hid ((((Below.refl w.heap.size w).alloc (Nat.le_refl _) (.cells #[.int .i64 a, .int .i64 b] 46)).alloc (by simp) (.cells #[.int .i64 c, .int .i64 d] 46)).alloc (by simp; omega) (.cells #[.int .i64 0, .int .i64 0, .int .i64 0, .int .i64 0] 89))
  unfold spV at M1 M2
  rw [hsp, hsp]
  generalize leftF (a, b) (c, d) = r at *
  go_enter Try.func60, Try.ntmps60
  go_wp2_with fail
  generalize ((w.alloc (.cells #[.int .i64 a, .int .i64 b] 46)).alloc (.cells #[.int .i64 c, .int .i64 d] 46)).alloc (.cells #[.int .i64 0, .int .i64 0, .int .i64 0, .int .i64 0] 89) = W at *
  refine (M1.out _).mono ?_
  rintro e w1 ⟨rfl, hb1⟩
  have B0 := Lib.hid (B0.out.later hb1)
  have B1 := Lib.hid (B1.out.later hb1)
  have B2 := Lib.hid (B2.out.later hb1)
  have G := Lib.hid (G.out.trans (hb1.mono G.out.size))
  clear hb1
  cases hm1 : mayB (a, b)
  · have hr : r = ((a, b), (0, 0)) := by rw [hh.out]; simp [hm1]
    subst hr
    clear hm1 hh
    have c00 := B0.out.cell 0 (.int .i64 a) rfl
    have c01 := B0.out.cell 1 (.int .i64 b) rfl
    have f20 := B2.out.frozen 0
    have f21 := B2.out.frozen 1
    have f22 := B2.out.frozen 2
    have f23 := B2.out.frozen 3
    have c20 := B2.out.cell 0 (.int .i64 0) rfl
    have c21 := B2.out.cell 1 (.int .i64 0) rfl
    have c22 := B2.out.cell 2 (.int .i64 0) rfl
    have c23 := B2.out.cell 3 (.int .i64 0) rfl
    have G2 := Lib.hid (show ∀ n m p q, Below w.heap.size w1 ((((w1.setCell ⟨w.heap.size + 1 + 1, 0, none⟩ (.int .i64 n)).setCell ⟨w.heap.size + 1 + 1, 1, none⟩ (.int .i64 m)).setCell ⟨w.heap.size + 1 + 1, 2, none⟩ (.int .i64 p)).setCell ⟨w.heap.size + 1 + 1, 3, none⟩ (.int .i64 q)) from fun n m p q => ((((Below.refl _ _).setCell (p := ⟨w.heap.size + 1 + 1, 0, none⟩) (by simp only; omega) _).setCell (p := ⟨w.heap.size + 1 + 1, 1, none⟩) (by simp only; omega) _).setCell (p := ⟨w.heap.size + 1 + 1, 2, none⟩) (by simp only; omega) _).setCell (p := ⟨w.heap.size + 1 + 1, 3, none⟩) (by simp only; omega) _)
    go_wp2_with fail
    refine bodyPost_ret (v := .agg #[.int .i64 a, .int .i64 b, .int .i64 0, .int .i64 0]) ?_ rfl ⟨rfl, ?_⟩
    · rw [results_cell1 rfl]
      go_simp
    · exact G.out.trans (G2.out a b 0 0)
  · have c10 := B1.out.cell 0 (.int .i64 c) rfl
    have c11 := B1.out.cell 1 (.int .i64 d) rfl
    go_wp2_with fail
    refine (M2.out _).mono ?_
    rintro e w2 ⟨rfl, hb2⟩
    have B0 := Lib.hid (B0.out.later hb2)
    have B1 := Lib.hid (B1.out.later hb2)
    have B2 := Lib.hid (B2.out.later hb2)
    have G := Lib.hid (G.out.trans (hb2.mono G.out.size))
    clear hb2 c10 c11
    have c00 := B0.out.cell 0 (.int .i64 a) rfl
    have c01 := B0.out.cell 1 (.int .i64 b) rfl
    have c10 := B1.out.cell 0 (.int .i64 c) rfl
    have c11 := B1.out.cell 1 (.int .i64 d) rfl
    have f20 := B2.out.frozen 0
    have f21 := B2.out.frozen 1
    have f22 := B2.out.frozen 2
    have f23 := B2.out.frozen 3
    have c20 := B2.out.cell 0 (.int .i64 0) rfl
    have c21 := B2.out.cell 1 (.int .i64 0) rfl
    have c22 := B2.out.cell 2 (.int .i64 0) rfl
    have c23 := B2.out.cell 3 (.int .i64 0) rfl
    have G2 := Lib.hid (show ∀ n m p q, Below w.heap.size w2 ((((w2.setCell ⟨w.heap.size + 1 + 1, 0, none⟩ (.int .i64 n)).setCell ⟨w.heap.size + 1 + 1, 1, none⟩ (.int .i64 m)).setCell ⟨w.heap.size + 1 + 1, 2, none⟩ (.int .i64 p)).setCell ⟨w.heap.size + 1 + 1, 3, none⟩ (.int .i64 q)) from fun n m p q => ((((Below.refl _ _).setCell (p := ⟨w.heap.size + 1 + 1, 0, none⟩) (by simp only; omega) _).setCell (p := ⟨w.heap.size + 1 + 1, 1, none⟩) (by simp only; omega) _).setCell (p := ⟨w.heap.size + 1 + 1, 2, none⟩) (by simp only; omega) _).setCell (p := ⟨w.heap.size + 1 + 1, 3, none⟩) (by simp only; omega) _)
    cases hm2 : mayB (c, d)
    · have hr : r = ((a, b), (0, 0)) := by rw [hh.out]; simp [hm2]
      subst hr
      clear hm1 hm2 hh
      go_wp2_with fail
      refine bodyPost_ret (v := .agg #[.int .i64 a, .int .i64 b, .int .i64 0, .int .i64 0]) ?_ rfl ⟨rfl, ?_⟩
      · rw [results_cell1 rfl]
        go_simp
      · exact G.out.trans (G2.out a b 0 0)
    · have hr := Lib.hid (show r = ((a, if c < b then c else b), (if a < d then d else a, b)) from by rw [hh.out, if_pos ⟨hm1, hm2⟩])
      clear hm1 hm2 hh
      rcases Int.lt_or_le a d with h1 | h1 <;> rcases Int.lt_or_le c b with h2 | h2
      · have hr : r = ((a, c), (d, b)) := by rw [hr.out, if_pos (by omega), if_pos (by omega)]
        subst hr
        go_wp2_with fail
        refine bodyPost_ret (v := .agg #[.int .i64 a, .int .i64 c, .int .i64 d, .int .i64 b]) ?_ rfl ⟨rfl, ?_⟩
        · rw [results_cell1 rfl]
          go_simp
        · exact G.out.trans (G2.out a c d b)
      · have hr : r = ((a, b), (d, b)) := by rw [hr.out, if_neg (by omega), if_pos (by omega)]
        subst hr
        go_wp2_with fail
        refine bodyPost_ret (v := .agg #[.int .i64 a, .int .i64 b, .int .i64 d, .int .i64 b]) ?_ rfl ⟨rfl, ?_⟩
        · rw [results_cell1 rfl]
          go_simp
        · exact G.out.trans (G2.out a b d b)
      · have hr : r = ((a, c), (a, b)) := by rw [hr.out, if_pos (by omega), if_neg (by omega)]
        subst hr
        go_wp2_with fail
        refine bodyPost_ret (v := .agg #[.int .i64 a, .int .i64 c, .int .i64 a, .int .i64 b]) ?_ rfl ⟨rfl, ?_⟩
        · rw [results_cell1 rfl]
          go_simp
        · exact G.out.trans (G2.out a c a b)
      · have hr : r = ((a, b), (a, b)) := by rw [hr.out, if_neg (by omega), if_neg (by omega)]
        subst hr
        go_wp2_with fail
        refine bodyPost_ret (v := .agg #[.int .i64 a, .int .i64 b, .int .i64 a, .int .i64 b]) ?_ rfl ⟨rfl, ?_⟩
        · rw [results_cell1 rfl]
          go_simp
        · exact G.out.trans (G2.out a b a b)
end Go.Proofs.Ytlpakooogbaclaa
/- Layer 4, the project's: what is left of a span. -/
namespace Go.Proofs.Ytlpakooogbaclaa
open Go.RowKit
set_option linter.unusedVariables false

theorem lf_index0 (W : World) (x1 y1 x2 y2 : Int) : (Instr.index 89 (.agg #[.int .i64 x1, .int .i64 y1, .int .i64 x2, .int .i64 y2]) (.int .i64 0)).run Try.prog W = .ok (.agg #[.int .i64 x1, .int .i64 y1]) W := by
  simp [Instr.index, run_underlying Try.underlying89, asIntOf, go_sem, part, Sem.run_bind]
theorem lf_index1 (W : World) (x1 y1 x2 y2 : Int) : (Instr.index 89 (.agg #[.int .i64 x1, .int .i64 y1, .int .i64 x2, .int .i64 y2]) (.int .i64 1)).run Try.prog W = .ok (.agg #[.int .i64 x2, .int .i64 y2]) W := by
  simp [Instr.index, run_underlying Try.underlying89, asIntOf, go_sem, part, Sem.run_bind]

end Go.Proofs.Ytlpakooogbaclaa
