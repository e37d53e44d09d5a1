/- Layer 3: one frame alone, read by the program. -/
import Derived.Test.YtdpjohehmbddnaaCi
namespace Go.Proofs.Ytdpjohehmbddnaa
open Go.RowKit
set_option linter.unusedVariables false

theorem dec4_drop_take (l : List UInt8) (d : Nat) (h : 8 + d ≤ l.length) : dec4 ((l.take (8 + d)).drop 4) = dec4 (l.drop 4) := by
  have h1 : (l.drop 4).length = l.length - 4 := List.length_drop ..
  have e : (l.take (8 + d)).drop 4 = (l.drop 4).take (4 + d) := by rw [List.drop_take]; congr 1; omega
  rw [e, ← dec4_take (l.drop 4) (by omega), ← dec4_take ((l.drop 4).take (4 + d)) (by rw [List.length_take]; omega), List.take_take, Nat.min_eq_left (by omega)]
theorem drop8_take (l : List UInt8) (d : Nat) : (l.take (8 + d)).drop 8 = (l.drop 8).take d := by rw [List.drop_take]; congr 1; omega
theorem summed_take (l : List UInt8) (h : 8 + dec4 l ≤ l.length) : summed (l.take (8 + dec4 l)) = decide (dec4 (l.drop 4) = crcN ((l.drop 8).take (dec4 l))) := by
  unfold summed; rw [dec4_drop_take l _ h, drop8_take]
theorem fst1_out {l : List UInt8} (h : whole l = false) : fst1 l = ([], 0, 3) := by
  unfold fst1
  rw [if_pos]
  unfold whole at h
  simp at h; omega
theorem fst1_bad {l : List UInt8} (h : whole l = true) (hs : summed (l.take (8 + dec4 l)) = false) : fst1 l = ([], 8 + dec4 l, 4) := by
  unfold whole at h
  simp at h
  rw [summed_take l h.2] at hs
  unfold fst1
  rw [if_neg (by omega), if_pos (fun e => by simp at hs; exact hs e.symm)]
theorem fst1_good {l : List UInt8} (h : whole l = true) (hs : summed (l.take (8 + dec4 l)) = true) : fst1 l = ((l.drop 8).take (dec4 l), 8 + dec4 l, 0) := by
  unfold whole at h
  simp at h
  rw [summed_take l h.2] at hs
  unfold fst1
  rw [if_neg (by omega), if_neg (fun e => e (by simpa using (of_decide_eq_true hs).symm))]

set_option maxHeartbeats 2000000 in
theorem chk_one (v : Value) (l : List UInt8) (w : World) (h : RdB w w.heap.size v l) (hl : l.length ≤ 1000000) :
    Calls Try.prog 19 #[v] w fun e w' => ∃ v', e = .returned (.tuple #[v', .int .i64 (one1 l).2]) ∧ OwnB w' w.heap.size v' (one1 l).1 ∧ Below w.heap.size w w' := by
  have hf := Lib.hid (chk_first v l w h (by omega))
  obtain ⟨A, c, rfl, -⟩ := h
  by_cases hw : whole l = true
  · rw [hw] at hf
    have hle : 8 ≤ l.length ∧ 8 + dec4 l ≤ l.length := by unfold whole at hw; simpa using hw
    have hfl : (l.take (8 + dec4 l)).length = 8 + dec4 l := by rw [List.length_take]; omega
    by_cases hn : 8 + dec4 l < l.length
    · have hone : one1 l = ([], 2) := by
        unfold one1
        by_cases hs : summed (l.take (8 + dec4 l)) = true
        · rw [fst1_good hw hs]; simp [hn]
        · rw [fst1_bad hw (by simpa using hs)]; simp [hn]
      rw [hone]
      clear hone
      generalize l.take (8 + dec4 l) = f at *
      generalize dec4 l = d at *
      go_enter Try.func19, Try.ntmps19
      go_wp2_with fail
      refine hf.out.mono ?_
      rintro e w1 ⟨v1, rfl, hr1, hb1⟩
      obtain ⟨A1, c1, rfl, -⟩ := hr1
      have G := Lib.hid hb1
      clear hb1
      simp only [if_true, hfl]
      go_wp2_with fail
      go_ret2
      exact ⟨_, rfl, OwnB.nil _ _, G.out⟩
    · have hs := hfl
      have hdr := drop8_take l (dec4 l)
      by_cases hsm : summed (l.take (8 + dec4 l)) = true
      · have hone : one1 l = ((l.drop 8).take (dec4 l), 0) := by
          unfold one1
          rw [fst1_good hw hsm]; simp [hn]
        rw [hone, ← hdr]
        clear hone hdr
        generalize l.take (8 + dec4 l) = f at *
        generalize dec4 l = d at *
        go_enter Try.func19, Try.ntmps19
        go_wp2_with fail
        refine hf.out.mono ?_
        rintro e w1 ⟨v1, rfl, hr1, hb1⟩
        simp only [if_true] at hr1
        have R := Lib.hid (hr1.on hb1)
        obtain ⟨A1, c1, rfl, -⟩ := hr1
        have G := Lib.hid hb1
        clear hb1
        rw [hfl]
        have hfl2 := hfl
        go_wp2_with fail
        rw [← hfl]
        refine (chk_summed _ f _ R.out (by omega)).mono ?_
        rintro e w2 ⟨rfl, hb2⟩
        rw [hsm]
        have R := Lib.hid (R.out.on hb2)
        have G := Lib.hid (G.out.trans (hb2.mono G.out.size))
        clear hb2
        go_wp2_with fail
        rw [← hfl]
        refine (chk_body _ _ f _ R.out (by omega)).mono ?_
        rintro e w3 ⟨A3, c3, rfl, hr3, rfl⟩
        rw [show f.length - 8 = d from by omega] at hr3 ⊢
        have R := Lib.hid hr3
        clear hr3
        go_wp2_with fail
        refine (clone_any _ (f.drop 8) _ R.out (by rw [List.length_drop]; omega)).mono ?_
        rintro e w4 ⟨v4, rfl, ho4, hb4⟩
        go_wp2_with fail
        go_ret2
        exact ⟨_, rfl, ⟨ho4.1, ho4.2.imp id fun ⟨g, cap, cur, e, hg, h3⟩ => ⟨g, cap, cur, e, Nat.le_trans G.out.size hg, h3⟩⟩, G.out.trans (hb4.mono G.out.size)⟩
      · have hsm : summed (l.take (8 + dec4 l)) = false := by simpa using hsm
        have hone : one1 l = ([], 4) := by
          unfold one1
          rw [fst1_bad hw hsm]; simp [hn]
        rw [hone]
        clear hone hdr
        generalize l.take (8 + dec4 l) = f at *
        generalize dec4 l = d at *
        go_enter Try.func19, Try.ntmps19
        go_wp2_with fail
        refine hf.out.mono ?_
        rintro e w1 ⟨v1, rfl, hr1, hb1⟩
        simp only [if_true] at hr1
        have R := Lib.hid (hr1.on hb1)
        obtain ⟨A1, c1, rfl, -⟩ := hr1
        have G := Lib.hid hb1
        clear hb1
        rw [hfl]
        have hfl2 := hfl
        go_wp2_with fail
        rw [← hfl]
        refine (chk_summed _ f _ R.out (by omega)).mono ?_
        rintro e w2 ⟨rfl, hb2⟩
        rw [hsm]
        have G := Lib.hid (G.out.trans (hb2.mono G.out.size))
        clear hb2
        go_wp2_with fail
        go_ret2
        exact ⟨_, rfl, OwnB.nil _ _, G.out⟩
  · have hw : whole l = false := by simpa using hw
    have hone : one1 l = ([], 3) := by unfold one1; rw [fst1_out hw]; rfl
    rw [hone]
    rw [hw] at hf
    clear hone
    go_enter Try.func19, Try.ntmps19
    go_wp2_with fail
    refine hf.out.mono ?_
    rintro e w1 ⟨v1, rfl, hr1, hb1⟩
    go_wp2_with fail
    go_ret2
    exact ⟨_, rfl, OwnB.nil _ _, hb1⟩
end Go.Proofs.Ytdpjohehmbddnaa
