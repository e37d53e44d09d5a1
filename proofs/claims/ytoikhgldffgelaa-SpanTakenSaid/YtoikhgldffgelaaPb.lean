/- Layer 4, the project's: what two have in common. -/
import Derived.Test.YtoikhgldffgelaaPa
namespace Go.Proofs.Ytoikhgldffgelaa
open Go.RowKit
set_option linter.unusedVariables false

def bothF (s t : Sp) : Sp := (if s.1 < t.1 then t.1 else s.1, if t.2 < s.2 then t.2 else s.2)
theorem meet_both (s t : Sp) : meetF s t = if mayB s = true ∧ mayB t = true ∧ mayB (bothF s t) = true then (bothF s t, true) else ((0, 0), false) := by
  by_cases h : mayB s = true ∧ mayB t = true ∧ t.1 < s.2 ∧ s.1 < t.2
  · obtain ⟨h1, h2, h3, h4⟩ := h
    have h1' := mayB_iff.1 h1
    have h2' := mayB_iff.1 h2
    have hb : mayB (bothF s t) = true := by
      rw [mayB_iff]; unfold bothF; simp only
      split <;> split <;> omega
    rw [if_pos (c := mayB s = true ∧ mayB t = true ∧ mayB (bothF s t) = true) ⟨h1, h2, hb⟩, meet_pos ⟨h1, h2, h3, h4⟩]
    rfl
  · rw [meet_neg h, if_neg]
    rintro ⟨h1, h2, h3⟩
    have h1' := mayB_iff.1 h1
    have h2' := mayB_iff.1 h2
    rw [mayB_iff] at h3
    unfold bothF at h3; simp only at h3
    refine h ⟨h1, h2, ?_⟩
    split at h3 <;> split at h3 <;> omega

set_option maxHeartbeats 1000000 in
theorem p_meet1 (a b c d : Int) (w : World) (z1 : a < c) (z2 : d < b) :
    Calls Try.prog 11 #[spV (a, b), spV (c, d)] w fun e w' => e = .returned (.tuple #[spV (meetF (a, b) (c, d)).1, .bool (meetF (a, b) (c, d)).2]) ∧ Below w.heap.size w w' := by
  have M1 := Lib.hid (p_may (a, b))
  have M2 := Lib.hid (p_may (c, d))
  have M3 := Lib.hid (p_may (c, d))
  have hbo : bothF (a, b) (c, d) = (c, d) := by
    unfold bothF
    rw [if_pos (by simp only; omega), if_pos (by simp only; omega)]
  have hh := Lib.hid (show _ = if mayB (a, b) = true ∧ mayB (c, d) = true ∧ mayB (c, d) = true then ((c, d), true) else ((0, 0), false) from hbo ▸ meet_both (a, b) (c, d))
  clear hbo
  have hsp : ∀ x : Sp, spV x = .agg #[.int .i64 x.1, .int .i64 x.2] := fun _ => rfl
  have B1 := Lib.hid (((Box.new (w.alloc (.cells #[.int .i64 a, .int .i64 b] 23)) #[.int .i64 c, .int .i64 d] 23 (w.heap.size + 1) (by simp)).alloc (.cells #[.int .i64 0, .int .i64 0] 23)).alloc (.cells #[.int .i64 c, .int .i64 d] 23))
  have B2 := Lib.hid ((Box.new ((w.alloc (.cells #[.int .i64 a, .int .i64 b] 23)).alloc (.cells #[.int .i64 c, .int .i64 d] 23)) #[.int .i64 0, .int .i64 0] 23 (w.heap.size + 1 + 1) (by simp)).alloc (.cells #[.int .i64 c, .int .i64 d] 23))
  have B3 := Lib.hid (Box.new (((w.alloc (.cells #[.int .i64 a, .int .i64 b] 23)).alloc (.cells #[.int .i64 c, .int .i64 d] 23)).alloc (.cells #[.int .i64 0, .int .i64 0] 23)) #[.int .i64 c, .int .i64 d] 23 (w.heap.size + 1 + 1 + 1) (by simp))
  have G := Lib.hid (((((Below.refl w.heap.size w).alloc (Nat.le_refl _) (.cells #[.int .i64 a, .int .i64 b] 23)).alloc (by simp) (.cells #[.int .i64 c, .int .i64 d] 23)).alloc (by simp; omega) (.cells #[.int .i64 0, .int .i64 0] 23)).alloc (by simp; omega) (.cells #[.int .i64 c, .int .i64 d] 23))
  unfold spV at M1 M2 M3
  rw [hsp, hsp]
  generalize meetF (a, b) (c, d) = r at *
  go_enter Try.func11, Try.ntmps11
  go_wp2_with fail
  generalize (((w.alloc (.cells #[.int .i64 a, .int .i64 b] 23)).alloc (.cells #[.int .i64 c, .int .i64 d] 23)).alloc (.cells #[.int .i64 0, .int .i64 0] 23)).alloc (.cells #[.int .i64 c, .int .i64 d] 23) = W at *
  refine (M1.out _).mono ?_
  rintro e w1 ⟨rfl, hb1⟩
  have B1 := Lib.hid (B1.out.later hb1)
  have B2 := Lib.hid (B2.out.later hb1)
  have B3 := Lib.hid (B3.out.later hb1)
  have G := Lib.hid (G.out.trans (hb1.mono G.out.size))
  clear hb1
  cases hm1 : mayB (a, b)
  · have hr : r = ((0, 0), false) := by rw [hh.out]; simp [hm1]
    subst hr
    clear hm1 hh
    have f20 := B2.out.frozen 0
    have f21 := B2.out.frozen 1
    have c20 := B2.out.cell 0 (.int .i64 0) rfl
    have c21 := B2.out.cell 1 (.int .i64 0) rfl
    have G2 := Lib.hid (show Below w.heap.size w1 ((w1.setCell ⟨w.heap.size + 1 + 1, 0, none⟩ (.int .i64 0)).setCell ⟨w.heap.size + 1 + 1, 1, none⟩ (.int .i64 0)) from ((Below.refl _ _).setCell (p := ⟨w.heap.size + 1 + 1, 0, none⟩) (by simp only; omega) _).setCell (p := ⟨w.heap.size + 1 + 1, 1, none⟩) (by simp only; omega) _)
    go_wp2_with fail
    refine bodyPost_ret (v := .tuple #[.agg #[.int .i64 0, .int .i64 0], .bool false]) ?_ rfl ⟨rfl, ?_⟩
    · rw [results_cell_tmp rfl]
      go_simp
    · exact G.out.trans G2.out
  · have c10 := B1.out.cell 0 (.int .i64 c) rfl
    have c11 := B1.out.cell 1 (.int .i64 d) rfl
    go_wp2_with fail
    refine (M2.out _).mono ?_
    rintro e w2 ⟨rfl, hb2⟩
    have B2 := Lib.hid (B2.out.later hb2)
    have B3 := Lib.hid (B3.out.later hb2)
    have G := Lib.hid (G.out.trans (hb2.mono G.out.size))
    clear hb2 c10 c11
    cases hm2 : mayB (c, d)
    · have hr : r = ((0, 0), false) := by rw [hh.out]; simp [hm2]
      subst hr
      clear hm1 hm2 hh
      have f20 := B2.out.frozen 0
      have f21 := B2.out.frozen 1
      have c20 := B2.out.cell 0 (.int .i64 0) rfl
      have c21 := B2.out.cell 1 (.int .i64 0) rfl
      have G2 := Lib.hid (show Below w.heap.size w2 ((w2.setCell ⟨w.heap.size + 1 + 1, 0, none⟩ (.int .i64 0)).setCell ⟨w.heap.size + 1 + 1, 1, none⟩ (.int .i64 0)) from ((Below.refl _ _).setCell (p := ⟨w.heap.size + 1 + 1, 0, none⟩) (by simp only; omega) _).setCell (p := ⟨w.heap.size + 1 + 1, 1, none⟩) (by simp only; omega) _)
      go_wp2_with fail
      refine bodyPost_ret (v := .tuple #[.agg #[.int .i64 0, .int .i64 0], .bool false]) ?_ rfl ⟨rfl, ?_⟩
      · rw [results_cell_tmp rfl]
        go_simp
      · exact G.out.trans G2.out
    · have c30 := B3.out.cell 0 (.int .i64 c) rfl
      have c31 := B3.out.cell 1 (.int .i64 d) rfl
      go_wp2_with fail
      refine (M3.out _).mono ?_
      rintro e w3 ⟨rfl, hb3⟩
      have B2 := Lib.hid (B2.out.later hb3)
      have B3 := Lib.hid (B3.out.later hb3)
      have G := Lib.hid (G.out.trans (hb3.mono G.out.size))
      clear hb3 c30 c31
      have f20 := B2.out.frozen 0
      have f21 := B2.out.frozen 1
      have c20 := B2.out.cell 0 (.int .i64 0) rfl
      have c21 := B2.out.cell 1 (.int .i64 0) rfl
      have c30 := B3.out.cell 0 (.int .i64 c) rfl
      have c31 := B3.out.cell 1 (.int .i64 d) rfl
      have G2 := Lib.hid (show ∀ n, Below w.heap.size w3 ((w3.setCell ⟨w.heap.size + 1 + 1, 0, none⟩ (.int .i64 n.1)).setCell ⟨w.heap.size + 1 + 1, 1, none⟩ (.int .i64 n.2)) from fun (n : Int × Int) => ((Below.refl _ _).setCell (p := ⟨w.heap.size + 1 + 1, 0, none⟩) (by simp only; omega) _).setCell (p := ⟨w.heap.size + 1 + 1, 1, none⟩) (by simp only; omega) _)
      cases hm3 : mayB (c, d)
      · have hr : r = ((0, 0), false) := by rw [hh.out]; simp [hm3]
        subst hr
        clear hm1 hm2 hm3 hh
        go_wp2_with fail
        refine bodyPost_ret (v := .tuple #[.agg #[.int .i64 0, .int .i64 0], .bool false]) ?_ rfl ⟨rfl, ?_⟩
        · rw [results_cell_tmp rfl]
          go_simp
        · exact G.out.trans (G2.out (0, 0))
      · have hr : r = ((c, d), true) := by rw [hh.out, if_pos ⟨hm1, hm2, hm3⟩]
        subst hr
        clear hm1 hm2 hm3 hh
        go_wp2_with fail
        refine bodyPost_ret (v := .tuple #[.agg #[.int .i64 c, .int .i64 d], .bool true]) ?_ rfl ⟨rfl, ?_⟩
        · rw [results_cell_tmp rfl]
          go_simp
        · exact G.out.trans (G2.out (c, d))

set_option maxHeartbeats 1000000 in
theorem p_meet2 (a b c d : Int) (w : World) (z1 : a < c) (z2 : b ≤ d) :
    Calls Try.prog 11 #[spV (a, b), spV (c, d)] w fun e w' => e = .returned (.tuple #[spV (meetF (a, b) (c, d)).1, .bool (meetF (a, b) (c, d)).2]) ∧ Below w.heap.size w w' := by
  have M1 := Lib.hid (p_may (a, b))
  have M2 := Lib.hid (p_may (c, d))
  have M3 := Lib.hid (p_may (c, b))
  have hbo : bothF (a, b) (c, d) = (c, b) := by
    unfold bothF
    rw [if_pos (by simp only; omega), if_neg (by simp only; omega)]
  have hh := Lib.hid (show _ = if mayB (a, b) = true ∧ mayB (c, d) = true ∧ mayB (c, b) = true then ((c, b), true) else ((0, 0), false) from hbo ▸ meet_both (a, b) (c, d))
  clear hbo
  have hsp : ∀ x : Sp, spV x = .agg #[.int .i64 x.1, .int .i64 x.2] := fun _ => rfl
  have B1 := Lib.hid (((Box.new (w.alloc (.cells #[.int .i64 a, .int .i64 b] 23)) #[.int .i64 c, .int .i64 d] 23 (w.heap.size + 1) (by simp)).alloc (.cells #[.int .i64 0, .int .i64 0] 23)).alloc (.cells #[.int .i64 c, .int .i64 b] 23))
  have B2 := Lib.hid ((Box.new ((w.alloc (.cells #[.int .i64 a, .int .i64 b] 23)).alloc (.cells #[.int .i64 c, .int .i64 d] 23)) #[.int .i64 0, .int .i64 0] 23 (w.heap.size + 1 + 1) (by simp)).alloc (.cells #[.int .i64 c, .int .i64 b] 23))
  have B3 := Lib.hid (Box.new (((w.alloc (.cells #[.int .i64 a, .int .i64 b] 23)).alloc (.cells #[.int .i64 c, .int .i64 d] 23)).alloc (.cells #[.int .i64 0, .int .i64 0] 23)) #[.int .i64 c, .int .i64 b] 23 (w.heap.size + 1 + 1 + 1) (by simp))
  have G := Lib.hid (((((Below.refl w.heap.size w).alloc (Nat.le_refl _) (.cells #[.int .i64 a, .int .i64 b] 23)).alloc (by simp) (.cells #[.int .i64 c, .int .i64 d] 23)).alloc (by simp; omega) (.cells #[.int .i64 0, .int .i64 0] 23)).alloc (by simp; omega) (.cells #[.int .i64 c, .int .i64 b] 23))
  unfold spV at M1 M2 M3
  rw [hsp, hsp]
  generalize meetF (a, b) (c, d) = r at *
  go_enter Try.func11, Try.ntmps11
  go_wp2_with fail
  generalize (((w.alloc (.cells #[.int .i64 a, .int .i64 b] 23)).alloc (.cells #[.int .i64 c, .int .i64 d] 23)).alloc (.cells #[.int .i64 0, .int .i64 0] 23)).alloc (.cells #[.int .i64 c, .int .i64 b] 23) = W at *
  refine (M1.out _).mono ?_
  rintro e w1 ⟨rfl, hb1⟩
  have B1 := Lib.hid (B1.out.later hb1)
  have B2 := Lib.hid (B2.out.later hb1)
  have B3 := Lib.hid (B3.out.later hb1)
  have G := Lib.hid (G.out.trans (hb1.mono G.out.size))
  clear hb1
  cases hm1 : mayB (a, b)
  · have hr : r = ((0, 0), false) := by rw [hh.out]; simp [hm1]
    subst hr
    clear hm1 hh
    have f20 := B2.out.frozen 0
    have f21 := B2.out.frozen 1
    have c20 := B2.out.cell 0 (.int .i64 0) rfl
    have c21 := B2.out.cell 1 (.int .i64 0) rfl
    have G2 := Lib.hid (show Below w.heap.size w1 ((w1.setCell ⟨w.heap.size + 1 + 1, 0, none⟩ (.int .i64 0)).setCell ⟨w.heap.size + 1 + 1, 1, none⟩ (.int .i64 0)) from ((Below.refl _ _).setCell (p := ⟨w.heap.size + 1 + 1, 0, none⟩) (by simp only; omega) _).setCell (p := ⟨w.heap.size + 1 + 1, 1, none⟩) (by simp only; omega) _)
    go_wp2_with fail
    refine bodyPost_ret (v := .tuple #[.agg #[.int .i64 0, .int .i64 0], .bool false]) ?_ rfl ⟨rfl, ?_⟩
    · rw [results_cell_tmp rfl]
      go_simp
    · exact G.out.trans G2.out
  · have c10 := B1.out.cell 0 (.int .i64 c) rfl
    have c11 := B1.out.cell 1 (.int .i64 d) rfl
    go_wp2_with fail
    refine (M2.out _).mono ?_
    rintro e w2 ⟨rfl, hb2⟩
    have B2 := Lib.hid (B2.out.later hb2)
    have B3 := Lib.hid (B3.out.later hb2)
    have G := Lib.hid (G.out.trans (hb2.mono G.out.size))
    clear hb2 c10 c11
    cases hm2 : mayB (c, d)
    · have hr : r = ((0, 0), false) := by rw [hh.out]; simp [hm2]
      subst hr
      clear hm1 hm2 hh
      have f20 := B2.out.frozen 0
      have f21 := B2.out.frozen 1
      have c20 := B2.out.cell 0 (.int .i64 0) rfl
      have c21 := B2.out.cell 1 (.int .i64 0) rfl
      have G2 := Lib.hid (show Below w.heap.size w2 ((w2.setCell ⟨w.heap.size + 1 + 1, 0, none⟩ (.int .i64 0)).setCell ⟨w.heap.size + 1 + 1, 1, none⟩ (.int .i64 0)) from ((Below.refl _ _).setCell (p := ⟨w.heap.size + 1 + 1, 0, none⟩) (by simp only; omega) _).setCell (p := ⟨w.heap.size + 1 + 1, 1, none⟩) (by simp only; omega) _)
      go_wp2_with fail
      refine bodyPost_ret (v := .tuple #[.agg #[.int .i64 0, .int .i64 0], .bool false]) ?_ rfl ⟨rfl, ?_⟩
      · rw [results_cell_tmp rfl]
        go_simp
      · exact G.out.trans G2.out
    · have c30 := B3.out.cell 0 (.int .i64 c) rfl
      have c31 := B3.out.cell 1 (.int .i64 b) rfl
      go_wp2_with fail
      refine (M3.out _).mono ?_
      rintro e w3 ⟨rfl, hb3⟩
      have B2 := Lib.hid (B2.out.later hb3)
      have B3 := Lib.hid (B3.out.later hb3)
      have G := Lib.hid (G.out.trans (hb3.mono G.out.size))
      clear hb3 c30 c31
      have f20 := B2.out.frozen 0
      have f21 := B2.out.frozen 1
      have c20 := B2.out.cell 0 (.int .i64 0) rfl
      have c21 := B2.out.cell 1 (.int .i64 0) rfl
      have c30 := B3.out.cell 0 (.int .i64 c) rfl
      have c31 := B3.out.cell 1 (.int .i64 b) rfl
      have G2 := Lib.hid (show ∀ n, Below w.heap.size w3 ((w3.setCell ⟨w.heap.size + 1 + 1, 0, none⟩ (.int .i64 n.1)).setCell ⟨w.heap.size + 1 + 1, 1, none⟩ (.int .i64 n.2)) from fun (n : Int × Int) => ((Below.refl _ _).setCell (p := ⟨w.heap.size + 1 + 1, 0, none⟩) (by simp only; omega) _).setCell (p := ⟨w.heap.size + 1 + 1, 1, none⟩) (by simp only; omega) _)
      cases hm3 : mayB (c, b)
      · have hr : r = ((0, 0), false) := by rw [hh.out]; simp [hm3]
        subst hr
        clear hm1 hm2 hm3 hh
        go_wp2_with fail
        refine bodyPost_ret (v := .tuple #[.agg #[.int .i64 0, .int .i64 0], .bool false]) ?_ rfl ⟨rfl, ?_⟩
        · rw [results_cell_tmp rfl]
          go_simp
        · exact G.out.trans (G2.out (0, 0))
      · have hr : r = ((c, b), true) := by rw [hh.out, if_pos ⟨hm1, hm2, hm3⟩]
        subst hr
        clear hm1 hm2 hm3 hh
        go_wp2_with fail
        refine bodyPost_ret (v := .tuple #[.agg #[.int .i64 c, .int .i64 b], .bool true]) ?_ rfl ⟨rfl, ?_⟩
        · rw [results_cell_tmp rfl]
          go_simp
        · exact G.out.trans (G2.out (c, b))

set_option maxHeartbeats 1000000 in
theorem p_meet3 (a b c d : Int) (w : World) (z1 : c ≤ a) (z2 : d < b) :
    Calls Try.prog 11 #[spV (a, b), spV (c, d)] w fun e w' => e = .returned (.tuple #[spV (meetF (a, b) (c, d)).1, .bool (meetF (a, b) (c, d)).2]) ∧ Below w.heap.size w w' := by
  have M1 := Lib.hid (p_may (a, b))
  have M2 := Lib.hid (p_may (c, d))
  have M3 := Lib.hid (p_may (a, d))
  have hbo : bothF (a, b) (c, d) = (a, d) := by
    unfold bothF
    rw [if_neg (by simp only; omega), if_pos (by simp only; omega)]
  have hh := Lib.hid (show _ = if mayB (a, b) = true ∧ mayB (c, d) = true ∧ mayB (a, d) = true then ((a, d), true) else ((0, 0), false) from hbo ▸ meet_both (a, b) (c, d))
  clear hbo
  have hsp : ∀ x : Sp, spV x = .agg #[.int .i64 x.1, .int .i64 x.2] := fun _ => rfl
  have B1 := Lib.hid (((Box.new (w.alloc (.cells #[.int .i64 a, .int .i64 b] 23)) #[.int .i64 c, .int .i64 d] 23 (w.heap.size + 1) (by simp)).alloc (.cells #[.int .i64 0, .int .i64 0] 23)).alloc (.cells #[.int .i64 a, .int .i64 d] 23))
  have B2 := Lib.hid ((Box.new ((w.alloc (.cells #[.int .i64 a, .int .i64 b] 23)).alloc (.cells #[.int .i64 c, .int .i64 d] 23)) #[.int .i64 0, .int .i64 0] 23 (w.heap.size + 1 + 1) (by simp)).alloc (.cells #[.int .i64 a, .int .i64 d] 23))
  have B3 := Lib.hid (Box.new (((w.alloc (.cells #[.int .i64 a, .int .i64 b] 23)).alloc (.cells #[.int .i64 c, .int .i64 d] 23)).alloc (.cells #[.int .i64 0, .int .i64 0] 23)) #[.int .i64 a, .int .i64 d] 23 (w.heap.size + 1 + 1 + 1) (by simp))
  have G := Lib.hid (((((Below.refl w.heap.size w).alloc (Nat.le_refl _) (.cells #[.int .i64 a, .int .i64 b] 23)).alloc (by simp) (.cells #[.int .i64 c, .int .i64 d] 23)).alloc (by simp; omega) (.cells #[.int .i64 0, .int .i64 0] 23)).alloc (by simp; omega) (.cells #[.int .i64 a, .int .i64 d] 23))
  unfold spV at M1 M2 M3
  rw [hsp, hsp]
  generalize meetF (a, b) (c, d) = r at *
  go_enter Try.func11, Try.ntmps11
  go_wp2_with fail
  generalize (((w.alloc (.cells #[.int .i64 a, .int .i64 b] 23)).alloc (.cells #[.int .i64 c, .int .i64 d] 23)).alloc (.cells #[.int .i64 0, .int .i64 0] 23)).alloc (.cells #[.int .i64 a, .int .i64 d] 23) = W at *
  refine (M1.out _).mono ?_
  rintro e w1 ⟨rfl, hb1⟩
  have B1 := Lib.hid (B1.out.later hb1)
  have B2 := Lib.hid (B2.out.later hb1)
  have B3 := Lib.hid (B3.out.later hb1)
  have G := Lib.hid (G.out.trans (hb1.mono G.out.size))
  clear hb1
  cases hm1 : mayB (a, b)
  · have hr : r = ((0, 0), false) := by rw [hh.out]; simp [hm1]
    subst hr
    clear hm1 hh
    have f20 := B2.out.frozen 0
    have f21 := B2.out.frozen 1
    have c20 := B2.out.cell 0 (.int .i64 0) rfl
    have c21 := B2.out.cell 1 (.int .i64 0) rfl
    have G2 := Lib.hid (show Below w.heap.size w1 ((w1.setCell ⟨w.heap.size + 1 + 1, 0, none⟩ (.int .i64 0)).setCell ⟨w.heap.size + 1 + 1, 1, none⟩ (.int .i64 0)) from ((Below.refl _ _).setCell (p := ⟨w.heap.size + 1 + 1, 0, none⟩) (by simp only; omega) _).setCell (p := ⟨w.heap.size + 1 + 1, 1, none⟩) (by simp only; omega) _)
    go_wp2_with fail
    refine bodyPost_ret (v := .tuple #[.agg #[.int .i64 0, .int .i64 0], .bool false]) ?_ rfl ⟨rfl, ?_⟩
    · rw [results_cell_tmp rfl]
      go_simp
    · exact G.out.trans G2.out
  · have c10 := B1.out.cell 0 (.int .i64 c) rfl
    have c11 := B1.out.cell 1 (.int .i64 d) rfl
    go_wp2_with fail
    refine (M2.out _).mono ?_
    rintro e w2 ⟨rfl, hb2⟩
    have B2 := Lib.hid (B2.out.later hb2)
    have B3 := Lib.hid (B3.out.later hb2)
    have G := Lib.hid (G.out.trans (hb2.mono G.out.size))
    clear hb2 c10 c11
    cases hm2 : mayB (c, d)
    · have hr : r = ((0, 0), false) := by rw [hh.out]; simp [hm2]
      subst hr
      clear hm1 hm2 hh
      have f20 := B2.out.frozen 0
      have f21 := B2.out.frozen 1
      have c20 := B2.out.cell 0 (.int .i64 0) rfl
      have c21 := B2.out.cell 1 (.int .i64 0) rfl
      have G2 := Lib.hid (show Below w.heap.size w2 ((w2.setCell ⟨w.heap.size + 1 + 1, 0, none⟩ (.int .i64 0)).setCell ⟨w.heap.size + 1 + 1, 1, none⟩ (.int .i64 0)) from ((Below.refl _ _).setCell (p := ⟨w.heap.size + 1 + 1, 0, none⟩) (by simp only; omega) _).setCell (p := ⟨w.heap.size + 1 + 1, 1, none⟩) (by simp only; omega) _)
      go_wp2_with fail
      refine bodyPost_ret (v := .tuple #[.agg #[.int .i64 0, .int .i64 0], .bool false]) ?_ rfl ⟨rfl, ?_⟩
      · rw [results_cell_tmp rfl]
        go_simp
      · exact G.out.trans G2.out
    · have c30 := B3.out.cell 0 (.int .i64 a) rfl
      have c31 := B3.out.cell 1 (.int .i64 d) rfl
      go_wp2_with fail
      refine (M3.out _).mono ?_
      rintro e w3 ⟨rfl, hb3⟩
      have B2 := Lib.hid (B2.out.later hb3)
      have B3 := Lib.hid (B3.out.later hb3)
      have G := Lib.hid (G.out.trans (hb3.mono G.out.size))
      clear hb3 c30 c31
      have f20 := B2.out.frozen 0
      have f21 := B2.out.frozen 1
      have c20 := B2.out.cell 0 (.int .i64 0) rfl
      have c21 := B2.out.cell 1 (.int .i64 0) rfl
      have c30 := B3.out.cell 0 (.int .i64 a) rfl
      have c31 := B3.out.cell 1 (.int .i64 d) rfl
      have G2 := Lib.hid (show ∀ n, Below w.heap.size w3 ((w3.setCell ⟨w.heap.size + 1 + 1, 0, none⟩ (.int .i64 n.1)).setCell ⟨w.heap.size + 1 + 1, 1, none⟩ (.int .i64 n.2)) from fun (n : Int × Int) => ((Below.refl _ _).setCell (p := ⟨w.heap.size + 1 + 1, 0, none⟩) (by simp only; omega) _).setCell (p := ⟨w.heap.size + 1 + 1, 1, none⟩) (by simp only; omega) _)
      cases hm3 : mayB (a, d)
      · have hr : r = ((0, 0), false) := by rw [hh.out]; simp [hm3]
        subst hr
        clear hm1 hm2 hm3 hh
        go_wp2_with fail
        refine bodyPost_ret (v := .tuple #[.agg #[.int .i64 0, .int .i64 0], .bool false]) ?_ rfl ⟨rfl, ?_⟩
        · rw [results_cell_tmp rfl]
          go_simp
        · exact G.out.trans (G2.out (0, 0))
      · have hr : r = ((a, d), true) := by rw [hh.out, if_pos ⟨hm1, hm2, hm3⟩]
        subst hr
        clear hm1 hm2 hm3 hh
        go_wp2_with fail
        refine bodyPost_ret (v := .tuple #[.agg #[.int .i64 a, .int .i64 d], .bool true]) ?_ rfl ⟨rfl, ?_⟩
        · rw [results_cell_tmp rfl]
          go_simp
        · exact G.out.trans (G2.out (a, d))

set_option maxHeartbeats 1000000 in
theorem p_meet4 (a b c d : Int) (w : World) (z1 : c ≤ a) (z2 : b ≤ d) :
    Calls Try.prog 11 #[spV (a, b), spV (c, d)] w fun e w' => e = .returned (.tuple #[spV (meetF (a, b) (c, d)).1, .bool (meetF (a, b) (c, d)).2]) ∧ Below w.heap.size w w' := by
  have M1 := Lib.hid (p_may (a, b))
  have M2 := Lib.hid (p_may (c, d))
  have M3 := Lib.hid (p_may (a, b))
  have hbo : bothF (a, b) (c, d) = (a, b) := by
    unfold bothF
    rw [if_neg (by simp only; omega), if_neg (by simp only; omega)]
  have hh := Lib.hid (show _ = if mayB (a, b) = true ∧ mayB (c, d) = true ∧ mayB (a, b) = true then ((a, b), true) else ((0, 0), false) from hbo ▸ meet_both (a, b) (c, d))
  clear hbo
  have hsp : ∀ x : Sp, spV x = .agg #[.int .i64 x.1, .int .i64 x.2] := fun _ => rfl
  have B1 := Lib.hid (((Box.new (w.alloc (.cells #[.int .i64 a, .int .i64 b] 23)) #[.int .i64 c, .int .i64 d] 23 (w.heap.size + 1) (by simp)).alloc (.cells #[.int .i64 0, .int .i64 0] 23)).alloc (.cells #[.int .i64 a, .int .i64 b] 23))
  have B2 := Lib.hid ((Box.new ((w.alloc (.cells #[.int .i64 a, .int .i64 b] 23)).alloc (.cells #[.int .i64 c, .int .i64 d] 23)) #[.int .i64 0, .int .i64 0] 23 (w.heap.size + 1 + 1) (by simp)).alloc (.cells #[.int .i64 a, .int .i64 b] 23))
  have B3 := Lib.hid (Box.new (((w.alloc (.cells #[.int .i64 a, .int .i64 b] 23)).alloc (.cells #[.int .i64 c, .int .i64 d] 23)).alloc (.cells #[.int .i64 0, .int .i64 0] 23)) #[.int .i64 a, .int .i64 b] 23 (w.heap.size + 1 + 1 + 1) (by simp))
  have G := Lib.hid (((((Below.refl w.heap.size w).alloc (Nat.le_refl _) (.cells #[.int .i64 a, .int .i64 b] 23)).alloc (by simp) (.cells #[.int .i64 c, .int .i64 d] 23)).alloc (by simp; omega) (.cells #[.int .i64 0, .int .i64 0] 23)).alloc (by simp; omega) (.cells #[.int .i64 a, .int .i64 b] 23))
  unfold spV at M1 M2 M3
  rw [hsp, hsp]
  generalize meetF (a, b) (c, d) = r at *
  go_enter Try.func11, Try.ntmps11
  go_wp2_with fail
  generalize (((w.alloc (.cells #[.int .i64 a, .int .i64 b] 23)).alloc (.cells #[.int .i64 c, .int .i64 d] 23)).alloc (.cells #[.int .i64 0, .int .i64 0] 23)).alloc (.cells #[.int .i64 a, .int .i64 b] 23) = W at *
  refine (M1.out _).mono ?_
  rintro e w1 ⟨rfl, hb1⟩
  have B1 := Lib.hid (B1.out.later hb1)
  have B2 := Lib.hid (B2.out.later hb1)
  have B3 := Lib.hid (B3.out.later hb1)
  have G := Lib.hid (G.out.trans (hb1.mono G.out.size))
  clear hb1
  cases hm1 : mayB (a, b)
  · have hr : r = ((0, 0), false) := by rw [hh.out]; simp [hm1]
    subst hr
    clear hm1 hh
    have f20 := B2.out.frozen 0
    have f21 := B2.out.frozen 1
    have c20 := B2.out.cell 0 (.int .i64 0) rfl
    have c21 := B2.out.cell 1 (.int .i64 0) rfl
    have G2 := Lib.hid (show Below w.heap.size w1 ((w1.setCell ⟨w.heap.size + 1 + 1, 0, none⟩ (.int .i64 0)).setCell ⟨w.heap.size + 1 + 1, 1, none⟩ (.int .i64 0)) from ((Below.refl _ _).setCell (p := ⟨w.heap.size + 1 + 1, 0, none⟩) (by simp only; omega) _).setCell (p := ⟨w.heap.size + 1 + 1, 1, none⟩) (by simp only; omega) _)
    go_wp2_with fail
    refine bodyPost_ret (v := .tuple #[.agg #[.int .i64 0, .int .i64 0], .bool false]) ?_ rfl ⟨rfl, ?_⟩
    · rw [results_cell_tmp rfl]
      go_simp
    · exact G.out.trans G2.out
  · have c10 := B1.out.cell 0 (.int .i64 c) rfl
    have c11 := B1.out.cell 1 (.int .i64 d) rfl
    go_wp2_with fail
    refine (M2.out _).mono ?_
    rintro e w2 ⟨rfl, hb2⟩
    have B2 := Lib.hid (B2.out.later hb2)
    have B3 := Lib.hid (B3.out.later hb2)
    have G := Lib.hid (G.out.trans (hb2.mono G.out.size))
    clear hb2 c10 c11
    cases hm2 : mayB (c, d)
    · have hr : r = ((0, 0), false) := by rw [hh.out]; simp [hm2]
      subst hr
      clear hm1 hm2 hh
      have f20 := B2.out.frozen 0
      have f21 := B2.out.frozen 1
      have c20 := B2.out.cell 0 (.int .i64 0) rfl
      have c21 := B2.out.cell 1 (.int .i64 0) rfl
      have G2 := Lib.hid (show Below w.heap.size w2 ((w2.setCell ⟨w.heap.size + 1 + 1, 0, none⟩ (.int .i64 0)).setCell ⟨w.heap.size + 1 + 1, 1, none⟩ (.int .i64 0)) from ((Below.refl _ _).setCell (p := ⟨w.heap.size + 1 + 1, 0, none⟩) (by simp only; omega) _).setCell (p := ⟨w.heap.size + 1 + 1, 1, none⟩) (by simp only; omega) _)
      go_wp2_with fail
      refine bodyPost_ret (v := .tuple #[.agg #[.int .i64 0, .int .i64 0], .bool false]) ?_ rfl ⟨rfl, ?_⟩
      · rw [results_cell_tmp rfl]
        go_simp
      · exact G.out.trans G2.out
    · have c30 := B3.out.cell 0 (.int .i64 a) rfl
      have c31 := B3.out.cell 1 (.int .i64 b) rfl
      go_wp2_with fail
      refine (M3.out _).mono ?_
      rintro e w3 ⟨rfl, hb3⟩
      have B2 := Lib.hid (B2.out.later hb3)
      have B3 := Lib.hid (B3.out.later hb3)
      have G := Lib.hid (G.out.trans (hb3.mono G.out.size))
      clear hb3 c30 c31
      have f20 := B2.out.frozen 0
      have f21 := B2.out.frozen 1
      have c20 := B2.out.cell 0 (.int .i64 0) rfl
      have c21 := B2.out.cell 1 (.int .i64 0) rfl
      have c30 := B3.out.cell 0 (.int .i64 a) rfl
      have c31 := B3.out.cell 1 (.int .i64 b) rfl
      have G2 := Lib.hid (show ∀ n, Below w.heap.size w3 ((w3.setCell ⟨w.heap.size + 1 + 1, 0, none⟩ (.int .i64 n.1)).setCell ⟨w.heap.size + 1 + 1, 1, none⟩ (.int .i64 n.2)) from fun (n : Int × Int) => ((Below.refl _ _).setCell (p := ⟨w.heap.size + 1 + 1, 0, none⟩) (by simp only; omega) _).setCell (p := ⟨w.heap.size + 1 + 1, 1, none⟩) (by simp only; omega) _)
      cases hm3 : mayB (a, b)
      · have hr : r = ((0, 0), false) := by rw [hh.out]; simp [hm3]
        subst hr
        clear hm1 hm2 hm3 hh
        go_wp2_with fail
        refine bodyPost_ret (v := .tuple #[.agg #[.int .i64 0, .int .i64 0], .bool false]) ?_ rfl ⟨rfl, ?_⟩
        · rw [results_cell_tmp rfl]
          go_simp
        · exact G.out.trans (G2.out (0, 0))
      · have hr : r = ((a, b), true) := by rw [hh.out, if_pos ⟨hm1, hm2, hm3⟩]
        subst hr
        clear hm1 hm2 hm3 hh
        go_wp2_with fail
        refine bodyPost_ret (v := .tuple #[.agg #[.int .i64 a, .int .i64 b], .bool true]) ?_ rfl ⟨rfl, ?_⟩
        · rw [results_cell_tmp rfl]
          go_simp
        · exact G.out.trans (G2.out (a, b))

theorem p_meet (s t : Sp) (w : World) :
    Calls Try.prog 11 #[spV s, spV t] w fun e w' => e = .returned (.tuple #[spV (meetF s t).1, .bool (meetF s t).2]) ∧ Below w.heap.size w w' := by
  obtain ⟨a, b⟩ := s
  obtain ⟨c, d⟩ := t
  rcases Int.lt_or_le a c with h1 | h1 <;> rcases Int.lt_or_le d b with h2 | h2
  · exact p_meet1 a b c d w h1 h2
  · exact p_meet2 a b c d w h1 h2
  · exact p_meet3 a b c d w h1 h2
  · exact p_meet4 a b c d w h1 h2
end Go.Proofs.Ytoikhgldffgelaa
