/- Layer 5: the project's spans (out of the texts of stage 4): what two have in common, what is left of one. -/
import Derived.Test.YtjfneppjdgfecaaEa
namespace Go.Proofs.Ytjfneppjdgfecaa
open Go.RowKit
set_option linter.unusedVariables false

def bothF (s t : Sp) : Sp := (if s.1 < t.1 then t.1 else s.1, if t.2 < s.2 then t.2 else s.2)

theorem meet_both (s t : Sp) : meetF s t = if mayB s = true ∧ mayB t = true ∧ mayB (bothF s t) = true then (bothF s t, true) else ((0, 0), false) := by
  by_cases h : mayB s = true ∧ mayB t = true ∧ t.1 < s.2 ∧ s.1 < t.2
  · obtain ⟨h1, h2, h3, h4⟩ := h
    have h1' := mayB_iff.1 h1
    have h2' := mayB_iff.1 h2
    have hb : mayB (bothF s t) = true := by
      rw [mayB_iff]; unfold bothF; simp only
      split <;> split <;> omega
    rw [if_pos (c := mayB s = true ∧ mayB t = true ∧ mayB (bothF s t) = true) ⟨h1, h2, hb⟩, meet_pos ⟨h1, h2, h3, h4⟩]
    rfl
  · rw [meet_neg h, if_neg]
    rintro ⟨h1, h2, h3⟩
    have h1' := mayB_iff.1 h1
    have h2' := mayB_iff.1 h2
    rw [mayB_iff] at h3
    unfold bothF at h3; simp only at h3
    refine h ⟨h1, h2, ?_⟩
    split at h3 <;> split at h3 <;> omega

set_option maxHeartbeats 1000000 in
theorem p_meet1 (a b c d : Int) (w : World) (z1 : a < c) (z2 : d < b) :
    Calls Try.prog 30 #[spV (a, b), spV (c, d)] w fun e w' => e = .returned (.tuple #[spV (meetF (a, b) (c, d)).1, .bool (meetF (a, b) (c, d)).2]) ∧ Below w.heap.size w w' := by
  have M1 := Lib.hid (p_may (a, b))
  have M2 := Lib.hid (p_may (c, d))
  have M3 := Lib.hid (p_may (c, d))
  have hbo : bothF (a, b) (c, d) = (c, d) := by
    unfold bothF
    rw [if_pos (by simp only; omega), if_pos (by simp only; omega)]
  have hh := Lib.hid (show _ = if mayB (a, b) = true ∧ mayB (c, d) = true ∧ mayB (c, d) = true then ((c, d), true) else ((0, 0), false) from hbo ▸ meet_both (a, b) (c, d))
  clear hbo
  have hsp : ∀ x : Sp, spV x = .agg #[.int .i64 x.1, .int .i64 x.2] := fun _ => rfl
  have B1 := Lib.hid (((Box.new (w.alloc (.cells #[.int .i64 a, .int .i64 b] 23)) #[.int .i64 c, .int .i64 d] 23 (w.heap.size + 1) (by simp)).alloc (.cells #[.int .i64 0, .int .i64 0] 23)).alloc (.cells #[.int .i64 c, .int .i64 d] 23))
  have B2 := Lib.hid ((Box.new ((w.alloc (.cells #[.int .i64 a, .int .i64 b] 23)).alloc (.cells #[.int .i64 c, .int .i64 d] 23)) #[.int .i64 0, .int .i64 0] 23 (w.heap.size + 1 + 1) (by simp)).alloc (.cells #[.int .i64 c, .int .i64 d] 23))
  have B3 := Lib.hid (Box.new (((w.alloc (.cells #[.int .i64 a, .int .i64 b] 23)).alloc (.cells #[.int .i64 c, .int .i64 d] 23)).alloc (.cells #[.int .i64 0, .int .i64 0] 23)) #[.int .i64 c, .int .i64 d] 23 (w.heap.size + 1 + 1 + 1) (by simp))
  have G := Lib.hid (((((Below.refl w.heap.size w).alloc (Nat.le_refl _) (.cells #[.int .i64 a, .int .i64 b] 23)).alloc (by simp) (.cells #[.int .i64 c, .int .i64 d] 23)).alloc (by simp; omega) (.cells #[.int .i64 0, .int .i64 0] 23)).alloc (by simp; omega) (.cells #[.int .i64 c, .int .i64 d] 23))
  unfold spV at M1 M2 M3
  rw [hsp, hsp]
  generalize meetF (a, b) (c, d) = r at *
  go_enter Try.func30, Try.ntmps30
  go_wp2_with fail
  generalize (((w.alloc (.cells #[.int .i64 a, .int .i64 b] 23)).alloc (.cells #[.int .i64 c, .int .i64 d] 23)).alloc (.cells #[.int .i64 0, .int .i64 0] 23)).alloc (.cells #[.int .i64 c, .int .i64 d] 23) = W at *
  refine (M1.out _).mono ?_
  rintro e w1 ⟨rfl, hb1⟩
  have B1 := Lib.hid (B1.out.later hb1)
  have B2 := Lib.hid (B2.out.later hb1)
  have B3 := Lib.hid (B3.out.later hb1)
  have G := Lib.hid (G.out.trans (hb1.mono G.out.size))
  clear hb1
  cases hm1 : mayB (a, b)
  · have hr : r = ((0, 0), false) := by rw [hh.out]; simp [hm1]
    subst hr
    clear hm1 hh
    have f20 := B2.out.frozen 0
    have f21 := B2.out.frozen 1
    have c20 := B2.out.cell 0 (.int .i64 0) rfl
    have c21 := B2.out.cell 1 (.int .i64 0) rfl
    have G2 := Lib.hid (show Below w.heap.size w1 ((w1.setCell ⟨w.heap.size + 1 + 1, 0, none⟩ (.int .i64 0)).setCell ⟨w.heap.size + 1 + 1, 1, none⟩ (.int .i64 0)) from ((Below.refl _ _).setCell (p := ⟨w.heap.size + 1 + 1, 0, none⟩) (by simp only; omega) _).setCell (p := ⟨w.heap.size + 1 + 1, 1, none⟩) (by simp only; omega) _)
    go_wp2_with fail
    refine bodyPost_ret (v := .tuple #[.agg #[.int .i64 0, .int .i64 0], .bool false]) ?_ rfl ⟨rfl, ?_⟩
    · rw [results_cell_tmp rfl]
      go_simp
    · exact G.out.trans G2.out
  · have c10 := B1.out.cell 0 (.int .i64 c) rfl
    have c11 := B1.out.cell 1 (.int .i64 d) rfl
    go_wp2_with fail
    refine (M2.out _).mono ?_
    rintro e w2 ⟨rfl, hb2⟩
    have B2 := Lib.hid (B2.out.later hb2)
    have B3 := Lib.hid (B3.out.later hb2)
    have G := Lib.hid (G.out.trans (hb2.mono G.out.size))
    clear hb2 c10 c11
    cases hm2 : mayB (c, d)
    · have hr : r = ((0, 0), false) := by rw [hh.out]; simp [hm2]
      subst hr
      clear hm1 hm2 hh
      have f20 := B2.out.frozen 0
      have f21 := B2.out.frozen 1
      have c20 := B2.out.cell 0 (.int .i64 0) rfl
      have c21 := B2.out.cell 1 (.int .i64 0) rfl
      have G2 := Lib.hid (show Below w.heap.size w2 ((w2.setCell ⟨w.heap.size + 1 + 1, 0, none⟩ (.int .i64 0)).setCell ⟨w.heap.size + 1 + 1, 1, none⟩ (.int .i64 0)) from ((Below.refl _ _).setCell (p := ⟨w.heap.size + 1 + 1, 0, none⟩) (by simp only; omega) _).setCell (p := ⟨w.heap.size + 1 + 1, 1, none⟩) (by simp only; omega) _)
      go_wp2_with fail
      refine bodyPost_ret (v := .tuple #[.agg #[.int .i64 0, .int .i64 0], .bool false]) ?_ rfl ⟨rfl, ?_⟩
      · rw [results_cell_tmp rfl]
        go_simp
      · exact G.out.trans G2.out
    · have c30 := B3.out.cell 0 (.int .i64 c) rfl
      have c31 := B3.out.cell 1 (.int .i64 d) rfl
      go_wp2_with fail
      refine (M3.out _).mono ?_
      rintro e w3 ⟨rfl, hb3⟩
      have B2 := Lib.hid (B2.out.later hb3)
      have B3 := Lib.hid (B3.out.later hb3)
      have G := Lib.hid (G.out.trans (hb3.mono G.out.size))
      clear hb3 c30 c31
      have f20 := B2.out.frozen 0
      have f21 := B2.out.frozen 1
      have c20 := B2.out.cell 0 (.int .i64 0) rfl
      have c21 := B2.out.cell 1 (.int .i64 0) rfl
      have c30 := B3.out.cell 0 (.int .i64 c) rfl
      have c31 := B3.out.cell 1 (.int .i64 d) rfl
      have G2 := Lib.hid (show ∀ n, Below w.heap.size w3 ((w3.setCell ⟨w.heap.size + 1 + 1, 0, none⟩ (.int .i64 n.1)).setCell ⟨w.heap.size + 1 + 1, 1, none⟩ (.int .i64 n.2)) from fun (n : Int × Int) => ((Below.refl _ _).setCell (p := ⟨w.heap.size + 1 + 1, 0, none⟩) (by simp only; omega) _).setCell (p := ⟨w.heap.size + 1 + 1, 1, none⟩) (by simp only; omega) _)
      cases hm3 : mayB (c, d)
      · have hr : r = ((0, 0), false) := by rw [hh.out]; simp [hm3]
        subst hr
        clear hm1 hm2 hm3 hh
        go_wp2_with fail
        refine bodyPost_ret (v := .tuple #[.agg #[.int .i64 0, .int .i64 0], .bool false]) ?_ rfl ⟨rfl, ?_⟩
        · rw [results_cell_tmp rfl]
          go_simp
        · exact G.out.trans (G2.out (0, 0))
      · have hr : r = ((c, d), true) := by rw [hh.out, if_pos ⟨hm1, hm2, hm3⟩]
        subst hr
        clear hm1 hm2 hm3 hh
        go_wp2_with fail
        refine bodyPost_ret (v := .tuple #[.agg #[.int .i64 c, .int .i64 d], .bool true]) ?_ rfl ⟨rfl, ?_⟩
        · rw [results_cell_tmp rfl]
          go_simp
        · exact G.out.trans (G2.out (c, d))

set_option maxHeartbeats 1000000 in
theorem p_meet2 (a b c d : Int) (w : World) (z1 : a < c) (z2 : b ≤ d) :
    Calls Try.prog 30 #[spV (a, b), spV (c, d)] w fun e w' => e = .returned (.tuple #[spV (meetF (a, b) (c, d)).1, .bool (meetF (a, b) (c, d)).2]) ∧ Below w.heap.size w w' := by
  have M1 := Lib.hid (p_may (a, b))
  have M2 := Lib.hid (p_may (c, d))
  have M3 := Lib.hid (p_may (c, b))
  have hbo : bothF (a, b) (c, d) = (c, b) := by
    unfold bothF
    rw [if_pos (by simp only; omega), if_neg (by simp only; omega)]
  have hh := Lib.hid (show _ = if mayB (a, b) = true ∧ mayB (c, d) = true ∧ mayB (c, b) = true then ((c, b), true) else ((0, 0), false) from hbo ▸ meet_both (a, b) (c, d))
  clear hbo
  have hsp : ∀ x : Sp, spV x = .agg #[.int .i64 x.1, .int .i64 x.2] := fun _ => rfl
  have B1 := Lib.hid (((Box.new (w.alloc (.cells #[.int .i64 a, .int .i64 b] 23)) #[.int .i64 c, .int .i64 d] 23 (w.heap.size + 1) (by simp)).alloc (.cells #[.int .i64 0, .int .i64 0] 23)).alloc (.cells #[.int .i64 c, .int .i64 b] 23))
  have B2 := Lib.hid ((Box.new ((w.alloc (.cells #[.int .i64 a, .int .i64 b] 23)).alloc (.cells #[.int .i64 c, .int .i64 d] 23)) #[.int .i64 0, .int .i64 0] 23 (w.heap.size + 1 + 1) (by simp)).alloc (.cells #[.int .i64 c, .int .i64 b] 23))
  have B3 := Lib.hid (Box.new (((w.alloc (.cells #[.int .i64 a, .int .i64 b] 23)).alloc (.cells #[.int .i64 c, .int .i64 d] 23)).alloc (.cells #[.int .i64 0, .int .i64 0] 23)) #[.int .i64 c, .int .i64 b] 23 (w.heap.size + 1 + 1 + 1) (by simp))
  have G := Lib.hid (((((Below.refl w.heap.size w).alloc (Nat.le_refl _) (.cells #[.int .i64 a, .int .i64 b] 23)).alloc (by simp) (.cells #[.int .i64 c, .int .i64 d] 23)).alloc (by simp; omega) (.cells #[.int .i64 0, .int .i64 0] 23)).alloc (by simp; omega) (.cells #[.int .i64 c, .int .i64 b] 23))
  unfold spV at M1 M2 M3
  rw [hsp, hsp]
  generalize meetF (a, b) (c, d) = r at *
  go_enter Try.func30, Try.ntmps30
  go_wp2_with fail
  generalize (((w.alloc (.cells #[.int .i64 a, .int .i64 b] 23)).alloc (.cells #[.int .i64 c, .int .i64 d] 23)).alloc (.cells #[.int .i64 0, .int .i64 0] 23)).alloc (.cells #[.int .i64 c, .int .i64 b] 23) = W at *
  refine (M1.out _).mono ?_
  rintro e w1 ⟨rfl, hb1⟩
  have B1 := Lib.hid (B1.out.later hb1)
  have B2 := Lib.hid (B2.out.later hb1)
  have B3 := Lib.hid (B3.out.later hb1)
  have G := Lib.hid (G.out.trans (hb1.mono G.out.size))
  clear hb1
  cases hm1 : mayB (a, b)
  · have hr : r = ((0, 0), false) := by rw [hh.out]; simp [hm1]
    subst hr
    clear hm1 hh
    have f20 := B2.out.frozen 0
    have f21 := B2.out.frozen 1
    have c20 := B2.out.cell 0 (.int .i64 0) rfl
    have c21 := B2.out.cell 1 (.int .i64 0) rfl
    have G2 := Lib.hid (show Below w.heap.size w1 ((w1.setCell ⟨w.heap.size + 1 + 1, 0, none⟩ (.int .i64 0)).setCell ⟨w.heap.size + 1 + 1, 1, none⟩ (.int .i64 0)) from ((Below.refl _ _).setCell (p := ⟨w.heap.size + 1 + 1, 0, none⟩) (by simp only; omega) _).setCell (p := ⟨w.heap.size + 1 + 1, 1, none⟩) (by simp only; omega) _)
    go_wp2_with fail
    refine bodyPost_ret (v := .tuple #[.agg #[.int .i64 0, .int .i64 0], .bool false]) ?_ rfl ⟨rfl, ?_⟩
    · rw [results_cell_tmp rfl]
      go_simp
    · exact G.out.trans G2.out
  · have c10 := B1.out.cell 0 (.int .i64 c) rfl
    have c11 := B1.out.cell 1 (.int .i64 d) rfl
    go_wp2_with fail
    refine (M2.out _).mono ?_
    rintro e w2 ⟨rfl, hb2⟩
    have B2 := Lib.hid (B2.out.later hb2)
    have B3 := Lib.hid (B3.out.later hb2)
    have G := Lib.hid (G.out.trans (hb2.mono G.out.size))
    clear hb2 c10 c11
    cases hm2 : mayB (c, d)
    · have hr : r = ((0, 0), false) := by rw [hh.out]; simp [hm2]
      subst hr
      clear hm1 hm2 hh
      have f20 := B2.out.frozen 0
      have f21 := B2.out.frozen 1
      have c20 := B2.out.cell 0 (.int .i64 0) rfl
      have c21 := B2.out.cell 1 (.int .i64 0) rfl
      have G2 := Lib.hid (show Below w.heap.size w2 ((w2.setCell ⟨w.heap.size + 1 + 1, 0, none⟩ (.int .i64 0)).setCell ⟨w.heap.size + 1 + 1, 1, none⟩ (.int .i64 0)) from ((Below.refl _ _).setCell (p := ⟨w.heap.size + 1 + 1, 0, none⟩) (by simp only; omega) _).setCell (p := ⟨w.heap.size + 1 + 1, 1, none⟩) (by simp only; omega) _)
      go_wp2_with fail
      refine bodyPost_ret (v := .tuple #[.agg #[.int .i64 0, .int .i64 0], .bool false]) ?_ rfl ⟨rfl, ?_⟩
      · rw [results_cell_tmp rfl]
        go_simp
      · exact G.out.trans G2.out
    · have c30 := B3.out.cell 0 (.int .i64 c) rfl
      have c31 := B3.out.cell 1 (.int .i64 b) rfl
      go_wp2_with fail
      refine (M3.out _).mono ?_
      rintro e w3 ⟨rfl, hb3⟩
      have B2 := Lib.hid (B2.out.later hb3)
      have B3 := Lib.hid (B3.out.later hb3)
      have G := Lib.hid (G.out.trans (hb3.mono G.out.size))
      clear hb3 c30 c31
      have f20 := B2.out.frozen 0
      have f21 := B2.out.frozen 1
      have c20 := B2.out.cell 0 (.int .i64 0) rfl
      have c21 := B2.out.cell 1 (.int .i64 0) rfl
      have c30 := B3.out.cell 0 (.int .i64 c) rfl
      have c31 := B3.out.cell 1 (.int .i64 b) rfl
      have G2 := Lib.hid (show ∀ n, Below w.heap.size w3 ((w3.setCell ⟨w.heap.size + 1 + 1, 0, none⟩ (.int .i64 n.1)).setCell ⟨w.heap.size + 1 + 1, 1, none⟩ (.int .i64 n.2)) from fun (n : Int × Int) => ((Below.refl _ _).setCell (p := ⟨w.heap.size + 1 + 1, 0, none⟩) (by simp only; omega) _).setCell (p := ⟨w.heap.size + 1 + 1, 1, none⟩) (by simp only; omega) _)
      cases hm3 : mayB (c, b)
      · have hr : r = ((0, 0), false) := by rw [hh.out]; simp [hm3]
        subst hr
        clear hm1 hm2 hm3 hh
        go_wp2_with fail
        refine bodyPost_ret (v := .tuple #[.agg #[.int .i64 0, .int .i64 0], .bool false]) ?_ rfl ⟨rfl, ?_⟩
        · rw [results_cell_tmp rfl]
          go_simp
        · exact G.out.trans (G2.out (0, 0))
      · have hr : r = ((c, b), true) := by rw [hh.out, if_pos ⟨hm1, hm2, hm3⟩]
        subst hr
        clear hm1 hm2 hm3 hh
        go_wp2_with fail
        refine bodyPost_ret (v := .tuple #[.agg #[.int .i64 c, .int .i64 b], .bool true]) ?_ rfl ⟨rfl, ?_⟩
        · rw [results_cell_tmp rfl]
          go_simp
        · exact G.out.trans (G2.out (c, b))

set_option maxHeartbeats 1000000 in
theorem p_meet3 (a b c d : Int) (w : World) (z1 : c ≤ a) (z2 : d < b) :
    Calls Try.prog 30 #[spV (a, b), spV (c, d)] w fun e w' => e = .returned (.tuple #[spV (meetF (a, b) (c, d)).1, .bool (meetF (a, b) (c, d)).2]) ∧ Below w.heap.size w w' := by
  have M1 := Lib.hid (p_may (a, b))
  have M2 := Lib.hid (p_may (c, d))
  have M3 := Lib.hid (p_may (a, d))
  have hbo : bothF (a, b) (c, d) = (a, d) := by
    unfold bothF
    rw [if_neg (by simp only; omega), if_pos (by simp only; omega)]
  have hh := Lib.hid (show _ = if mayB (a, b) = true ∧ mayB (c, d) = true ∧ mayB (a, d) = true then ((a, d), true) else ((0, 0), false) from hbo ▸ meet_both (a, b) (c, d))
  clear hbo
  have hsp : ∀ x : Sp, spV x = .agg #[.int .i64 x.1, .int .i64 x.2] := fun _ => rfl
  have B1 := Lib.hid (((Box.new (w.alloc (.cells #[.int .i64 a, .int .i64 b] 23)) #[.int .i64 c, .int .i64 d] 23 (w.heap.size + 1) (by simp)).alloc (.cells #[.int .i64 0, .int .i64 0] 23)).alloc (.cells #[.int .i64 a, .int .i64 d] 23))
  have B2 := Lib.hid ((Box.new ((w.alloc (.cells #[.int .i64 a, .int .i64 b] 23)).alloc (.cells #[.int .i64 c, .int .i64 d] 23)) #[.int .i64 0, .int .i64 0] 23 (w.heap.size + 1 + 1) (by simp)).alloc (.cells #[.int .i64 a, .int .i64 d] 23))
  have B3 := Lib.hid (Box.new (((w.alloc (.cells #[.int .i64 a, .int .i64 b] 23)).alloc (.cells #[.int .i64 c, .int .i64 d] 23)).alloc (.cells #[.int .i64 0, .int .i64 0] 23)) #[.int .i64 a, .int .i64 d] 23 (w.heap.size + 1 + 1 + 1) (by simp))
  have G := Lib.hid (((((Below.refl w.heap.size w).alloc (Nat.le_refl _) (.cells #[.int .i64 a, .int .i64 b] 23)).alloc (by simp) (.cells #[.int .i64 c, .int .i64 d] 23)).alloc (by simp; omega) (.cells #[.int .i64 0, .int .i64 0] 23)).alloc (by simp; omega) (.cells #[.int .i64 a, .int .i64 d] 23))
  unfold spV at M1 M2 M3
  rw [hsp, hsp]
  generalize meetF (a, b) (c, d) = r at *
  go_enter Try.func30, Try.ntmps30
  go_wp2_with fail
  generalize (((w.alloc (.cells #[.int .i64 a, .int .i64 b] 23)).alloc (.cells #[.int .i64 c, .int .i64 d] 23)).alloc (.cells #[.int .i64 0, .int .i64 0] 23)).alloc (.cells #[.int .i64 a, .int .i64 d] 23) = W at *
  refine (M1.out _).mono ?_
  rintro e w1 ⟨rfl, hb1⟩
  have B1 := Lib.hid (B1.out.later hb1)
  have B2 := Lib.hid (B2.out.later hb1)
  have B3 := Lib.hid (B3.out.later hb1)
  have G := Lib.hid (G.out.trans (hb1.mono G.out.size))
  clear hb1
  cases hm1 : mayB (a, b)
  · have hr : r = ((0, 0), false) := by rw [hh.out]; simp [hm1]
    subst hr
    clear hm1 hh
    have f20 := B2.out.frozen 0
    have f21 := B2.out.frozen 1
    have c20 := B2.out.cell 0 (.int .i64 0) rfl
    have c21 := B2.out.cell 1 (.int .i64 0) rfl
    have G2 := Lib.hid (show Below w.heap.size w1 ((w1.setCell ⟨w.heap.size + 1 + 1, 0, none⟩ (.int .i64 0)).setCell ⟨w.heap.size + 1 + 1, 1, none⟩ (.int .i64 0)) from ((Below.refl _ _).setCell (p := ⟨w.heap.size + 1 + 1, 0, none⟩) (by simp only; omega) _).setCell (p := ⟨w.heap.size + 1 + 1, 1, none⟩) (by simp only; omega) _)
    go_wp2_with fail
    refine bodyPost_ret (v := .tuple #[.agg #[.int .i64 0, .int .i64 0], .bool false]) ?_ rfl ⟨rfl, ?_⟩
    · rw [results_cell_tmp rfl]
      go_simp
    · exact G.out.trans G2.out
  · have c10 := B1.out.cell 0 (.int .i64 c) rfl
    have c11 := B1.out.cell 1 (.int .i64 d) rfl
    go_wp2_with fail
    refine (M2.out _).mono ?_
    rintro e w2 ⟨rfl, hb2⟩
    have B2 := Lib.hid (B2.out.later hb2)
    have B3 := Lib.hid (B3.out.later hb2)
    have G := Lib.hid (G.out.trans (hb2.mono G.out.size))
    clear hb2 c10 c11
    cases hm2 : mayB (c, d)
    · have hr : r = ((0, 0), false) := by rw [hh.out]; simp [hm2]
      subst hr
      clear hm1 hm2 hh
      have f20 := B2.out.frozen 0
      have f21 := B2.out.frozen 1
      have c20 := B2.out.cell 0 (.int .i64 0) rfl
      have c21 := B2.out.cell 1 (.int .i64 0) rfl
      have G2 := Lib.hid (show Below w.heap.size w2 ((w2.setCell ⟨w.heap.size + 1 + 1, 0, none⟩ (.int .i64 0)).setCell ⟨w.heap.size + 1 + 1, 1, none⟩ (.int .i64 0)) from ((Below.refl _ _).setCell (p := ⟨w.heap.size + 1 + 1, 0, none⟩) (by simp only; omega) _).setCell (p := ⟨w.heap.size + 1 + 1, 1, none⟩) (by simp only; omega) _)
      go_wp2_with fail
      refine bodyPost_ret (v := .tuple #[.agg #[.int .i64 0, .int .i64 0], .bool false]) ?_ rfl ⟨rfl, ?_⟩
      · rw [results_cell_tmp rfl]
        go_simp
      · exact G.out.trans G2.out
    · have c30 := B3.out.cell 0 (.int .i64 a) rfl
      have c31 := B3.out.cell 1 (.int .i64 d) rfl
      go_wp2_with fail
      refine (M3.out _).mono ?_
      rintro e w3 ⟨rfl, hb3⟩
      have B2 := Lib.hid (B2.out.later hb3)
      have B3 := Lib.hid (B3.out.later hb3)
      have G := Lib.hid (G.out.trans (hb3.mono G.out.size))
      clear hb3 c30 c31
      have f20 := B2.out.frozen 0
      have f21 := B2.out.frozen 1
      have c20 := B2.out.cell 0 (.int .i64 0) rfl
      have c21 := B2.out.cell 1 (.int .i64 0) rfl
      have c30 := B3.out.cell 0 (.int .i64 a) rfl
      have c31 := B3.out.cell 1 (.int .i64 d) rfl
      have G2 := Lib.hid (show ∀ n, Below w.heap.size w3 ((w3.setCell ⟨w.heap.size + 1 + 1, 0, none⟩ (.int .i64 n.1)).setCell ⟨w.heap.size + 1 + 1, 1, none⟩ (.int .i64 n.2)) from fun (n : Int × Int) => ((Below.refl _ _).setCell (p := ⟨w.heap.size + 1 + 1, 0, none⟩) (by simp only; omega) _).setCell (p := ⟨w.heap.size + 1 + 1, 1, none⟩) (by simp only; omega) _)
      cases hm3 : mayB (a, d)
      · have hr : r = ((0, 0), false) := by rw [hh.out]; simp [hm3]
        subst hr
        clear hm1 hm2 hm3 hh
        go_wp2_with fail
        refine bodyPost_ret (v := .tuple #[.agg #[.int .i64 0, .int .i64 0], .bool false]) ?_ rfl ⟨rfl, ?_⟩
        · rw [results_cell_tmp rfl]
          go_simp
        · exact G.out.trans (G2.out (0, 0))
      · have hr : r = ((a, d), true) := by rw [hh.out, if_pos ⟨hm1, hm2, hm3⟩]
        subst hr
        clear hm1 hm2 hm3 hh
        go_wp2_with fail
        refine bodyPost_ret (v := .tuple #[.agg #[.int .i64 a, .int .i64 d], .bool true]) ?_ rfl ⟨rfl, ?_⟩
        · rw [results_cell_tmp rfl]
          go_simp
        · exact G.out.trans (G2.out (a, d))

set_option maxHeartbeats 1000000 in
theorem p_meet4 (a b c d : Int) (w : World) (z1 : c ≤ a) (z2 : b ≤ d) :
    Calls Try.prog 30 #[spV (a, b), spV (c, d)] w fun e w' => e = .returned (.tuple #[spV (meetF (a, b) (c, d)).1, .bool (meetF (a, b) (c, d)).2]) ∧ Below w.heap.size w w' := by
  have M1 := Lib.hid (p_may (a, b))
  have M2 := Lib.hid (p_may (c, d))
  have M3 := Lib.hid (p_may (a, b))
  have hbo : bothF (a, b) (c, d) = (a, b) := by
    unfold bothF
    rw [if_neg (by simp only; omega), if_neg (by simp only; omega)]
  have hh := Lib.hid (show _ = if mayB (a, b) = true ∧ mayB (c, d) = true ∧ mayB (a, b) = true then ((a, b), true) else ((0, 0), false) from hbo ▸ meet_both (a, b) (c, d))
  clear hbo
  have hsp : ∀ x : Sp, spV x = .agg #[.int .i64 x.1, .int .i64 x.2] := fun _ => rfl
  have B1 := Lib.hid (((Box.new (w.alloc (.cells #[.int .i64 a, .int .i64 b] 23)) #[.int .i64 c, .int .i64 d] 23 (w.heap.size + 1) (by simp)).alloc (.cells #[.int .i64 0, .int .i64 0] 23)).alloc (.cells #[.int .i64 a, .int .i64 b] 23))
  have B2 := Lib.hid ((Box.new ((w.alloc (.cells #[.int .i64 a, .int .i64 b] 23)).alloc (.cells #[.int .i64 c, .int .i64 d] 23)) #[.int .i64 0, .int .i64 0] 23 (w.heap.size + 1 + 1) (by simp)).alloc (.cells #[.int .i64 a, .int .i64 b] 23))
  have B3 := Lib.hid (Box.new (((w.alloc (.cells #[.int .i64 a, .int .i64 b] 23)).alloc (.cells #[.int .i64 c, .int .i64 d] 23)).alloc (.cells #[.int .i64 0, .int .i64 0] 23)) #[.int .i64 a, .int .i64 b] 23 (w.heap.size + 1 + 1 + 1) (by simp))
  have G := Lib.hid (((((Below.refl w.heap.size w).alloc (Nat.le_refl _) (.cells #[.int .i64 a, .int .i64 b] 23)).alloc (by simp) (.cells #[.int .i64 c, .int .i64 d] 23)).alloc (by simp; omega) (.cells #[.int .i64 0, .int .i64 0] 23)).alloc (by simp; omega) (.cells #[.int .i64 a, .int .i64 b] 23))
  unfold spV at M1 M2 M3
  rw [hsp, hsp]
  generalize meetF (a, b) (c, d) = r at *
  go_enter Try.func30, Try.ntmps30
  go_wp2_with fail
  generalize (((w.alloc (.cells #[.int .i64 a, .int .i64 b] 23)).alloc (.cells #[.int .i64 c, .int .i64 d] 23)).alloc (.cells #[.int .i64 0, .int .i64 0] 23)).alloc (.cells #[.int .i64 a, .int .i64 b] 23) = W at *
  refine (M1.out _).mono ?_
  rintro e w1 ⟨rfl, hb1⟩
  have B1 := Lib.hid (B1.out.later hb1)
  have B2 := Lib.hid (B2.out.later hb1)
  have B3 := Lib.hid (B3.out.later hb1)
  have G := Lib.hid (G.out.trans (hb1.mono G.out.size))
  clear hb1
  cases hm1 : mayB (a, b)
  · have hr : r = ((0, 0), false) := by rw [hh.out]; simp [hm1]
    subst hr
    clear hm1 hh
    have f20 := B2.out.frozen 0
    have f21 := B2.out.frozen 1
    have c20 := B2.out.cell 0 (.int .i64 0) rfl
    have c21 := B2.out.cell 1 (.int .i64 0) rfl
    have G2 := Lib.hid (show Below w.heap.size w1 ((w1.setCell ⟨w.heap.size + 1 + 1, 0, none⟩ (.int .i64 0)).setCell ⟨w.heap.size + 1 + 1, 1, none⟩ (.int .i64 0)) from ((Below.refl _ _).setCell (p := ⟨w.heap.size + 1 + 1, 0, none⟩) (by simp only; omega) _).setCell (p := ⟨w.heap.size + 1 + 1, 1, none⟩) (by simp only; omega) _)
    go_wp2_with fail
    refine bodyPost_ret (v := .tuple #[.agg #[.int .i64 0, .int .i64 0], .bool false]) ?_ rfl ⟨rfl, ?_⟩
    · rw [results_cell_tmp rfl]
      go_simp
    · exact G.out.trans G2.out
  · have c10 := B1.out.cell 0 (.int .i64 c) rfl
    have c11 := B1.out.cell 1 (.int .i64 d) rfl
    go_wp2_with fail
    refine (M2.out _).mono ?_
    rintro e w2 ⟨rfl, hb2⟩
    have B2 := Lib.hid (B2.out.later hb2)
    have B3 := Lib.hid (B3.out.later hb2)
    have G := Lib.hid (G.out.trans (hb2.mono G.out.size))
    clear hb2 c10 c11
    cases hm2 : mayB (c, d)
    · have hr : r = ((0, 0), false) := by rw [hh.out]; simp [hm2]
      subst hr
      clear hm1 hm2 hh
      have f20 := B2.out.frozen 0
      have f21 := B2.out.frozen 1
      have c20 := B2.out.cell 0 (.int .i64 0) rfl
      have c21 := B2.out.cell 1 (.int .i64 0) rfl
      have G2 := Lib.hid (show Below w.heap.size w2 ((w2.setCell ⟨w.heap.size + 1 + 1, 0, none⟩ (.int .i64 0)).setCell ⟨w.heap.size + 1 + 1, 1, none⟩ (.int .i64 0)) from ((Below.refl _ _).setCell (p := ⟨w.heap.size + 1 + 1, 0, none⟩) (by simp only; omega) _).setCell (p := ⟨w.heap.size + 1 + 1, 1, none⟩) (by simp only; omega) _)
      go_wp2_with fail
      refine bodyPost_ret (v := .tuple #[.agg #[.int .i64 0, .int .i64 0], .bool false]) ?_ rfl ⟨rfl, ?_⟩
      · rw [results_cell_tmp rfl]
        go_simp
      · exact G.out.trans G2.out
    · have c30 := B3.out.cell 0 (.int .i64 a) rfl
      have c31 := B3.out.cell 1 (.int .i64 b) rfl
      go_wp2_with fail
      refine (M3.out _).mono ?_
      rintro e w3 ⟨rfl, hb3⟩
      have B2 := Lib.hid (B2.out.later hb3)
      have B3 := Lib.hid (B3.out.later hb3)
      have G := Lib.hid (G.out.trans (hb3.mono G.out.size))
      clear hb3 c30 c31
      have f20 := B2.out.frozen 0
      have f21 := B2.out.frozen 1
      have c20 := B2.out.cell 0 (.int .i64 0) rfl
      have c21 := B2.out.cell 1 (.int .i64 0) rfl
      have c30 := B3.out.cell 0 (.int .i64 a) rfl
      have c31 := B3.out.cell 1 (.int .i64 b) rfl
      have G2 := Lib.hid (show ∀ n, Below w.heap.size w3 ((w3.setCell ⟨w.heap.size + 1 + 1, 0, none⟩ (.int .i64 n.1)).setCell ⟨w.heap.size + 1 + 1, 1, none⟩ (.int .i64 n.2)) from fun (n : Int × Int) => ((Below.refl _ _).setCell (p := ⟨w.heap.size + 1 + 1, 0, none⟩) (by simp only; omega) _).setCell (p := ⟨w.heap.size + 1 + 1, 1, none⟩) (by simp only; omega) _)
      cases hm3 : mayB (a, b)
      · have hr : r = ((0, 0), false) := by rw [hh.out]; simp [hm3]
        subst hr
        clear hm1 hm2 hm3 hh
        go_wp2_with fail
        refine bodyPost_ret (v := .tuple #[.agg #[.int .i64 0, .int .i64 0], .bool false]) ?_ rfl ⟨rfl, ?_⟩
        · rw [results_cell_tmp rfl]
          go_simp
        · exact G.out.trans (G2.out (0, 0))
      · have hr : r = ((a, b), true) := by rw [hh.out, if_pos ⟨hm1, hm2, hm3⟩]
        subst hr
        clear hm1 hm2 hm3 hh
        go_wp2_with fail
        refine bodyPost_ret (v := .tuple #[.agg #[.int .i64 a, .int .i64 b], .bool true]) ?_ rfl ⟨rfl, ?_⟩
        · rw [results_cell_tmp rfl]
          go_simp
        · exact G.out.trans (G2.out (a, b))

theorem p_meet (s t : Sp) (w : World) :
    Calls Try.prog 30 #[spV s, spV t] w fun e w' => e = .returned (.tuple #[spV (meetF s t).1, .bool (meetF s t).2]) ∧ Below w.heap.size w w' := by
  obtain ⟨a, b⟩ := s
  obtain ⟨c, d⟩ := t
  rcases Int.lt_or_le a c with h1 | h1 <;> rcases Int.lt_or_le d b with h2 | h2
  · exact p_meet1 a b c d w h1 h2
  · exact p_meet2 a b c d w h1 h2
  · exact p_meet3 a b c d w h1 h2
  · exact p_meet4 a b c d w h1 h2

def leftF (a b : Sp) : Sp × Sp := if mayB a = true ∧ mayB b = true then ((a.1, if b.1 < a.2 then b.1 else a.2), (if a.1 < b.2 then b.2 else a.1, a.2)) else (a, (0, 0))

theorem left_pos {a b : Sp} (ha : mayB a = true) (hb : mayB b = true) : leftF a b = ((a.1, if b.1 < a.2 then b.1 else a.2), (if a.1 < b.2 then b.2 else a.1, a.2)) := if_pos ⟨ha, hb⟩

theorem left_neg {a b : Sp} (h : ¬ (mayB a = true ∧ mayB b = true)) : leftF a b = (a, (0, 0)) := if_neg h

theorem minus_ov {a b : Sp} (ha : mayB a = true) (hb : mayB b = true ∧ b.1 < a.2 ∧ a.1 < b.2) : minusF a b = (if a.1 < b.1 then [(a.1, b.1)] else []) ++ (if b.2 < a.2 then [(b.2, a.2)] else []) := by
  unfold minusF; rw [if_pos ha, if_pos hb]

theorem minus_no {a b : Sp} (ha : mayB a = true) (hb : ¬ (mayB b = true ∧ b.1 < a.2 ∧ a.1 < b.2)) : minusF a b = [a] := by
  unfold minusF; rw [if_pos ha, if_neg hb]

theorem minus_bad {a b : Sp} (ha : ¬ mayB a = true) : minusF a b = [] := by unfold minusF; rw [if_neg ha]

theorem left_minus (a b : Sp) : minusF a b = [(leftF a b).1, (leftF a b).2].filter mayB := by
  have h0 : mayB (0, 0) = false := rfl
  by_cases ha : mayB a = true
  · have ha' := mayB_iff.1 ha
    by_cases hb : mayB b = true
    · have hb' := mayB_iff.1 hb
      rw [left_pos ha hb]
      have k1 : mayB (a.1, if b.1 < a.2 then b.1 else a.2) = decide (a.1 < b.1) := by
        rw [Bool.eq_iff_iff, mayB_iff, decide_eq_true_iff]; simp only; split <;> omega
      have k2 : mayB (if a.1 < b.2 then b.2 else a.1, a.2) = decide (b.2 < a.2) := by
        rw [Bool.eq_iff_iff, mayB_iff, decide_eq_true_iff]; simp only; split <;> omega
      rw [List.filter_cons, List.filter_cons, List.filter_nil, k1, k2]
      by_cases ho : b.1 < a.2 ∧ a.1 < b.2
      · rw [minus_ov ha ⟨hb, ho⟩, if_pos ho.1, if_pos ho.2]
        by_cases h1 : a.1 < b.1 <;> by_cases h2 : b.2 < a.2 <;> simp [h1, h2]
      · rw [minus_no ha (fun h => ho h.2)]
        by_cases h1 : b.1 < a.2
        · have h2 : ¬ a.1 < b.2 := fun h => ho ⟨h1, h⟩
          have h3 : ¬ a.1 < b.1 := by omega
          have h4 : b.2 < a.2 := by omega
          simp [h2, h3, h4]
        · have h3 : a.1 < b.1 := by omega
          have h4 : ¬ b.2 < a.2 := by omega
          simp [h1, h3, h4]
    · rw [minus_no ha (fun h => hb h.1), left_neg (fun h => hb h.2)]
      simp [ha, h0]
  · rw [minus_bad ha, left_neg (fun h => ha h.1)]
    simp [ha, h0]

def lfV (l : Sp × Sp) : Value := .agg #[.int .i64 l.1.1, .int .i64 l.1.2, .int .i64 l.2.1, .int .i64 l.2.2]

set_option maxHeartbeats 1000000 in
theorem p_left (s t : Sp) (w : World) :
    Calls Try.prog 35 #[spV s, spV t] w fun e w' => e = .returned (lfV (leftF s t)) ∧ Below w.heap.size w w' := by
  obtain ⟨a, b⟩ := s
  obtain ⟨c, d⟩ := t
  have M1 := Lib.hid (p_may (a, b))
  have M2 := Lib.hid (p_may (c, d))
  have hh := Lib.hid (show leftF (a, b) (c, d) = if mayB (a, b) = true ∧ mayB (c, d) = true then ((a, if c < b then c else b), (if a < d then d else a, b)) else ((a, b), (0, 0)) from rfl)
  have hsp : ∀ x : Sp, spV x = .agg #[.int .i64 x.1, .int .i64 x.2] := fun _ => rfl
  have B0 := Lib.hid (((Box.new w #[.int .i64 a, .int .i64 b] 23 (w.heap.size) rfl).alloc (.cells #[.int .i64 c, .int .i64 d] 23)).alloc (.cells #[.int .i64 0, .int .i64 0, .int .i64 0, .int .i64 0] 64))
  have B1 := Lib.hid ((Box.new (w.alloc (.cells #[.int .i64 a, .int .i64 b] 23)) #[.int .i64 c, .int .i64 d] 23 (w.heap.size + 1) (by simp)).alloc (.cells #[.int .i64 0, .int .i64 0, .int .i64 0, .int .i64 0] 64))
  have B2 := Lib.hid (Box.new ((w.alloc (.cells #[.int .i64 a, .int .i64 b] 23)).alloc (.cells #[.int .i64 c, .int .i64 d] 23)) #[.int .i64 0, .int .i64 0, .int .i64 0, .int .i64 0] 64 (w.heap.size + 1 + 1) (by simp))
  have G := Lib.hid ((((Below.refl w.heap.size w).alloc (Nat.le_refl _) (.cells #[.int .i64 a, .int .i64 b] 23)).alloc (by simp) (.cells #[.int .i64 c, .int .i64 d] 23)).alloc (by simp; omega) (.cells #[.int .i64 0, .int .i64 0, .int .i64 0, .int .i64 0] 64))
  unfold spV at M1 M2
  rw [hsp, hsp]
  generalize leftF (a, b) (c, d) = r at *
  go_enter Try.func35, Try.ntmps35
  go_wp2_with fail
  generalize ((w.alloc (.cells #[.int .i64 a, .int .i64 b] 23)).alloc (.cells #[.int .i64 c, .int .i64 d] 23)).alloc (.cells #[.int .i64 0, .int .i64 0, .int .i64 0, .int .i64 0] 64) = W at *
  refine (M1.out _).mono ?_
  rintro e w1 ⟨rfl, hb1⟩
  have B0 := Lib.hid (B0.out.later hb1)
  have B1 := Lib.hid (B1.out.later hb1)
  have B2 := Lib.hid (B2.out.later hb1)
  have G := Lib.hid (G.out.trans (hb1.mono G.out.size))
  clear hb1
  cases hm1 : mayB (a, b)
  · have hr : r = ((a, b), (0, 0)) := by rw [hh.out]; simp [hm1]
    subst hr
    clear hm1 hh
    have c00 := B0.out.cell 0 (.int .i64 a) rfl
    have c01 := B0.out.cell 1 (.int .i64 b) rfl
    have f20 := B2.out.frozen 0
    have f21 := B2.out.frozen 1
    have f22 := B2.out.frozen 2
    have f23 := B2.out.frozen 3
    have c20 := B2.out.cell 0 (.int .i64 0) rfl
    have c21 := B2.out.cell 1 (.int .i64 0) rfl
    have c22 := B2.out.cell 2 (.int .i64 0) rfl
    have c23 := B2.out.cell 3 (.int .i64 0) rfl
    have G2 := Lib.hid (show ∀ n m p q, Below w.heap.size w1 ((((w1.setCell ⟨w.heap.size + 1 + 1, 0, none⟩ (.int .i64 n)).setCell ⟨w.heap.size + 1 + 1, 1, none⟩ (.int .i64 m)).setCell ⟨w.heap.size + 1 + 1, 2, none⟩ (.int .i64 p)).setCell ⟨w.heap.size + 1 + 1, 3, none⟩ (.int .i64 q)) from fun n m p q => ((((Below.refl _ _).setCell (p := ⟨w.heap.size + 1 + 1, 0, none⟩) (by simp only; omega) _).setCell (p := ⟨w.heap.size + 1 + 1, 1, none⟩) (by simp only; omega) _).setCell (p := ⟨w.heap.size + 1 + 1, 2, none⟩) (by simp only; omega) _).setCell (p := ⟨w.heap.size + 1 + 1, 3, none⟩) (by simp only; omega) _)
    go_wp2_with fail
    refine bodyPost_ret (v := .agg #[.int .i64 a, .int .i64 b, .int .i64 0, .int .i64 0]) ?_ rfl ⟨rfl, ?_⟩
    · rw [results_cell1 rfl]
      go_simp
    · exact G.out.trans (G2.out a b 0 0)
  · have c10 := B1.out.cell 0 (.int .i64 c) rfl
    have c11 := B1.out.cell 1 (.int .i64 d) rfl
    go_wp2_with fail
    refine (M2.out _).mono ?_
    rintro e w2 ⟨rfl, hb2⟩
    have B0 := Lib.hid (B0.out.later hb2)
    have B1 := Lib.hid (B1.out.later hb2)
    have B2 := Lib.hid (B2.out.later hb2)
    have G := Lib.hid (G.out.trans (hb2.mono G.out.size))
    clear hb2 c10 c11
    have c00 := B0.out.cell 0 (.int .i64 a) rfl
    have c01 := B0.out.cell 1 (.int .i64 b) rfl
    have c10 := B1.out.cell 0 (.int .i64 c) rfl
    have c11 := B1.out.cell 1 (.int .i64 d) rfl
    have f20 := B2.out.frozen 0
    have f21 := B2.out.frozen 1
    have f22 := B2.out.frozen 2
    have f23 := B2.out.frozen 3
    have c20 := B2.out.cell 0 (.int .i64 0) rfl
    have c21 := B2.out.cell 1 (.int .i64 0) rfl
    have c22 := B2.out.cell 2 (.int .i64 0) rfl
    have c23 := B2.out.cell 3 (.int .i64 0) rfl
    have G2 := Lib.hid (show ∀ n m p q, Below w.heap.size w2 ((((w2.setCell ⟨w.heap.size + 1 + 1, 0, none⟩ (.int .i64 n)).setCell ⟨w.heap.size + 1 + 1, 1, none⟩ (.int .i64 m)).setCell ⟨w.heap.size + 1 + 1, 2, none⟩ (.int .i64 p)).setCell ⟨w.heap.size + 1 + 1, 3, none⟩ (.int .i64 q)) from fun n m p q => ((((Below.refl _ _).setCell (p := ⟨w.heap.size + 1 + 1, 0, none⟩) (by simp only; omega) _).setCell (p := ⟨w.heap.size + 1 + 1, 1, none⟩) (by simp only; omega) _).setCell (p := ⟨w.heap.size + 1 + 1, 2, none⟩) (by simp only; omega) _).setCell (p := ⟨w.heap.size + 1 + 1, 3, none⟩) (by simp only; omega) _)
    cases hm2 : mayB (c, d)
    · have hr : r = ((a, b), (0, 0)) := by rw [hh.out]; simp [hm2]
      subst hr
      clear hm1 hm2 hh
      go_wp2_with fail
      refine bodyPost_ret (v := .agg #[.int .i64 a, .int .i64 b, .int .i64 0, .int .i64 0]) ?_ rfl ⟨rfl, ?_⟩
      · rw [results_cell1 rfl]
        go_simp
      · exact G.out.trans (G2.out a b 0 0)
    · have hr := Lib.hid (show r = ((a, if c < b then c else b), (if a < d then d else a, b)) from by rw [hh.out, if_pos ⟨hm1, hm2⟩])
      clear hm1 hm2 hh
      rcases Int.lt_or_le a d with h1 | h1 <;> rcases Int.lt_or_le c b with h2 | h2
      · have hr : r = ((a, c), (d, b)) := by rw [hr.out, if_pos (by omega), if_pos (by omega)]
        subst hr
        go_wp2_with fail
        refine bodyPost_ret (v := .agg #[.int .i64 a, .int .i64 c, .int .i64 d, .int .i64 b]) ?_ rfl ⟨rfl, ?_⟩
        · rw [results_cell1 rfl]
          go_simp
        · exact G.out.trans (G2.out a c d b)
      · have hr : r = ((a, b), (d, b)) := by rw [hr.out, if_neg (by omega), if_pos (by omega)]
        subst hr
        go_wp2_with fail
        refine bodyPost_ret (v := .agg #[.int .i64 a, .int .i64 b, .int .i64 d, .int .i64 b]) ?_ rfl ⟨rfl, ?_⟩
        · rw [results_cell1 rfl]
          go_simp
        · exact G.out.trans (G2.out a b d b)
      · have hr : r = ((a, c), (a, b)) := by rw [hr.out, if_pos (by omega), if_neg (by omega)]
        subst hr
        go_wp2_with fail
        refine bodyPost_ret (v := .agg #[.int .i64 a, .int .i64 c, .int .i64 a, .int .i64 b]) ?_ rfl ⟨rfl, ?_⟩
        · rw [results_cell1 rfl]
          go_simp
        · exact G.out.trans (G2.out a c a b)
      · have hr : r = ((a, b), (a, b)) := by rw [hr.out, if_neg (by omega), if_neg (by omega)]
        subst hr
        go_wp2_with fail
        refine bodyPost_ret (v := .agg #[.int .i64 a, .int .i64 b, .int .i64 a, .int .i64 b]) ?_ rfl ⟨rfl, ?_⟩
        · rw [results_cell1 rfl]
          go_simp
        · exact G.out.trans (G2.out a b a b)

theorem lf_index0 (W : World) (x1 y1 x2 y2 : Int) : (Instr.index 64 (.agg #[.int .i64 x1, .int .i64 y1, .int .i64 x2, .int .i64 y2]) (.int .i64 0)).run Try.prog W = .ok (.agg #[.int .i64 x1, .int .i64 y1]) W := by
  simp [Instr.index, run_underlying Try.underlying64, asIntOf, go_sem, part, Sem.run_bind]

theorem lf_index1 (W : World) (x1 y1 x2 y2 : Int) : (Instr.index 64 (.agg #[.int .i64 x1, .int .i64 y1, .int .i64 x2, .int .i64 y2]) (.int .i64 1)).run Try.prog W = .ok (.agg #[.int .i64 x2, .int .i64 y2]) W := by
  simp [Instr.index, run_underlying Try.underlying64, asIntOf, go_sem, part, Sem.run_bind]

set_option maxHeartbeats 1000000 in
theorem p_minus (s t : Sp) (w : World) :
    Calls Try.prog 32 #[spV s, spV t] w fun e w' => ∃ v', e = .returned v' ∧ OwnSp w' w.heap.size v' (minusF s t) ∧ Below w.heap.size w w' := by
  have HL := Lib.hid (p_left s t)
  have HM := Lib.hid p_may
  rw [left_minus s t]
  obtain ⟨a, b⟩ := s
  obtain ⟨c, d⟩ := t
  have hsp : ∀ x : Sp, spV x = .agg #[.int .i64 x.1, .int .i64 x.2] := fun _ => rfl
  have hlf : ∀ l : Sp × Sp, lfV l = .agg #[.int .i64 l.1.1, .int .i64 l.1.2, .int .i64 l.2.1, .int .i64 l.2.2] := fun _ => rfl
  rw [hsp, hsp] at HL
  rw [hsp, hsp]
  rw [hlf] at HL
  generalize leftF (a, b) (c, d) = r at *
  obtain ⟨⟨x1, y1⟩, ⟨x2, y2⟩⟩ := r
  clear hsp hlf
  have B := Lib.hid ((alloc_below w (.cells #[.int .i64 a, .int .i64 b] 23)).alloc (by simp) (.cells #[.int .i64 c, .int .i64 d] 23))
  go_enter Try.func32, Try.ntmps32
  go_wp2_with fail
  refine (HL.out _).mono ?_
  rintro e w1 ⟨rfl, hb1⟩
  have G := Lib.hid (B.out.trans (hb1.mono B.out.size))
  clear hb1
  go_wp2_with fail
  go_loopw [5, 11] (fun x i wr => ∃ k : Nat, i = .int .i64 k ∧ k ≤ 2 ∧ OwnSp wr w.heap.size x (([(x1, y1), (x2, y2)].take k).filter mayB) ∧ Below w.heap.size w wr) (fun _ i _ => 2 - (intOf i).toNat)
  case atStart => exact ⟨0, rfl, by omega, OwnX.nil _ _, G.out⟩
  case round =>
    obtain ⟨k, rfl, hk, ho, hb⟩ := hrel
    have O := Lib.hid ho
    have GW := Lib.hid hb
    clear ho hb G
    rcases (show k = 0 ∨ k = 1 ∨ k = 2 from by omega) with rfl | rfl | rfl
    · have hix := fun W => lf_index0 W x1 y1 x2 y2
      have M := Lib.hid (HM.out (x1, y1))
      have hT : ([(x1, y1), (x2, y2)].take 1).filter mayB = ([(x1, y1), (x2, y2)].take 0).filter mayB ++ (if mayB (x1, y1) = true then [(x1, y1)] else []) := by
        simp [List.filter_cons, List.take]
      have T := Lib.hid hT
      have hol : (([(x1, y1), (x2, y2)].take 0).filter mayB).length + 1 ≤ 1000000000 := by
        have := List.length_filter_le mayB ([(x1, y1), (x2, y2)].take 0)
        have := List.length_take_le 0 [(x1, y1), (x2, y2)]
        omega
      clear hT
      generalize ([(x1, y1), (x2, y2)].take 0).filter mayB = acc at *
      unfold spV at M
      go_wp2_with fail
      refine (M.out _).mono ?_
      rintro e w2 ⟨rfl, hb2⟩
      have c0 := made_cell (by simpa using hb2) 0 _ rfl
      have c1 := made_cell (by simpa using hb2) 1 _ rfl
      have hbx := (alloc_below wr (.cells #[.int .i64 x1, .int .i64 y1] 23)).trans (hb2.mono (by simp))
      have O := Lib.hid (O.out.on hbx)
      have GX := Lib.hid (GW.out.trans (hbx.mono GW.out.size))
      clear hb2 hbx
      cases hm : mayB (x1, y1)
      · have T := Lib.hid (show ([(x1, y1), (x2, y2)].take 1).filter mayB = acc from by rw [T.out, hm]; simp)
        clear hm
        go_wp2_with fail
        go_roundw
        case rel => exact ⟨1, by go_num, by omega, by rw [T.out]; exact O.out, GX.out⟩
        case measure => simp [intOf]
      · have T := Lib.hid (show ([(x1, y1), (x2, y2)].take 1).filter mayB = acc ++ [(x1, y1)] from by rw [T.out, hm]; simp)
        clear hm
        go_wp2_with (at_builtin; refine wpl_appX rfl (.tmp 16) (.tmp 18) rfl Try.underlying60 sp_info rfl w.heap.size _ acc [(x1, y1)] _ _ _ rfl rfl rfl rfl O.out GX.out.size hol (by decide) ?_; intro x3 w3 ho3 hg3 hb3)
        go_roundw
        case rel => exact ⟨1, by go_num, by omega, by rw [T.out]; exact ho3, GX.out.trans hb3⟩
        case measure => simp [intOf]
    · have hix := fun W => lf_index1 W x1 y1 x2 y2
      have M := Lib.hid (HM.out (x2, y2))
      have hT : ([(x1, y1), (x2, y2)].take 2).filter mayB = ([(x1, y1), (x2, y2)].take 1).filter mayB ++ (if mayB (x2, y2) = true then [(x2, y2)] else []) := by
        simp [List.filter_cons, List.take]; split <;> split <;> rfl
      have T := Lib.hid hT
      have hol : (([(x1, y1), (x2, y2)].take 1).filter mayB).length + 1 ≤ 1000000000 := by
        have := List.length_filter_le mayB ([(x1, y1), (x2, y2)].take 1)
        have := List.length_take_le 1 [(x1, y1), (x2, y2)]
        omega
      clear hT
      generalize ([(x1, y1), (x2, y2)].take 1).filter mayB = acc at *
      unfold spV at M
      go_wp2_with fail
      refine (M.out _).mono ?_
      rintro e w2 ⟨rfl, hb2⟩
      have c0 := made_cell (by simpa using hb2) 0 _ rfl
      have c1 := made_cell (by simpa using hb2) 1 _ rfl
      have hbx := (alloc_below wr (.cells #[.int .i64 x2, .int .i64 y2] 23)).trans (hb2.mono (by simp))
      have O := Lib.hid (O.out.on hbx)
      have GX := Lib.hid (GW.out.trans (hbx.mono GW.out.size))
      clear hb2 hbx
      cases hm : mayB (x2, y2)
      · have T := Lib.hid (show ([(x1, y1), (x2, y2)].take 2).filter mayB = acc from by rw [T.out, hm]; simp)
        clear hm
        go_wp2_with fail
        go_roundw
        case rel => exact ⟨2, by go_num, by omega, by rw [T.out]; exact O.out, GX.out⟩
        case measure => simp [intOf]
      · have T := Lib.hid (show ([(x1, y1), (x2, y2)].take 2).filter mayB = acc ++ [(x2, y2)] from by rw [T.out, hm]; simp)
        clear hm
        go_wp2_with (at_builtin; refine wpl_appX rfl (.tmp 16) (.tmp 18) rfl Try.underlying60 sp_info rfl w.heap.size _ acc [(x2, y2)] _ _ _ rfl rfl rfl rfl O.out GX.out.size hol (by decide) ?_; intro x3 w3 ho3 hg3 hb3)
        go_roundw
        case rel => exact ⟨2, by go_num, by omega, by rw [T.out]; exact ho3, GX.out.trans hb3⟩
        case measure => simp [intOf]
    · go_wp2_with fail
      go_ret
      exact ⟨_, rfl, O.out, GW.out⟩

end Go.Proofs.Ytjfneppjdgfecaa
