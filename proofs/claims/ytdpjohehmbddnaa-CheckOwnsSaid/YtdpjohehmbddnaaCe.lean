/- Layer 3: frames one behind the other, one alone, and the comparing of lists, as the document's answer has them. -/
import Derived.Test.YtdpjohehmbddnaaCd
namespace Go.Proofs.Ytdpjohehmbddnaa
open Go.RowKit
set_option linter.unusedVariables false

theorem fst1_ok (l : List UInt8) (h : (fst1 l).2.2 = 0) : 8 ≤ (fst1 l).2.1 ∧ (fst1 l).2.1 ≤ l.length ∧ (fst1 l).1 = (l.drop 8).take ((fst1 l).2.1 - 8) := by
  unfold fst1 at *
  split at h
  · simp at h
  · rename_i hn
    split at h
    · simp at h
    · rename_i hc
      rw [if_neg hn, if_neg hc]
      refine ⟨by simp, by simp; omega, by simp⟩
/-- The frames at the beginning, and how long they are. -/
def frs (l : List UInt8) : List (List UInt8) × Nat :=
  if h : (fst1 l).2.2 = 0 then ((fst1 l).1 :: (frs (l.drop (fst1 l).2.1)).1, (fst1 l).2.1 + (frs (l.drop (fst1 l).2.1)).2) else ([], 0)
termination_by l.length
decreasing_by
  all_goals
    have := fst1_ok l h
    rw [List.length_drop]; omega
theorem frs_ok (l : List UInt8) (h : (fst1 l).2.2 = 0) : frs l = ((fst1 l).1 :: (frs (l.drop (fst1 l).2.1)).1, (fst1 l).2.1 + (frs (l.drop (fst1 l).2.1)).2) := by rw [frs, dif_pos h]
theorem frs_end (l : List UInt8) (h : (fst1 l).2.2 ≠ 0) : frs l = ([], 0) := by rw [frs, dif_neg h]
def one1 (l : List UInt8) : List UInt8 × Int := if (fst1 l).2.2 = 3 then ([], 3) else if (fst1 l).2.1 < l.length then ([], 2) else ((fst1 l).1, (fst1 l).2.2)

set_option maxHeartbeats 2000000 in
theorem ref_frames (v : Value) (l : List UInt8) (w : World) (h : RdB w w.heap.size v l) (hl : l.length ≤ 1000000) :
    Calls Try.prog 17 #[v] w fun e w' => ∃ v', e = .returned (.tuple #[v', .int .i64 (frs l).2]) ∧ RdBB w' w'.heap.size v' (frs l).1 ∧ Below w.heap.size w w' := by
  have HW := Lib.hid h
  obtain ⟨A, c, rfl, -⟩ := h
  go_enter Try.func17, Try.ntmps17
  go_wp2_with fail
  go_loopw [4, 5] (fun x i wr => ∃ (k : Nat) (ls : List (List UInt8)), i = .int .i64 k ∧ k ≤ l.length ∧ ls.length ≤ k ∧ OwnBB wr w.heap.size x ls ∧ frs l = (ls ++ (frs (l.drop k)).1, k + (frs (l.drop k)).2) ∧ Below w.heap.size w wr) (fun _ i _ => l.length - (intOf i).toNat)
  case atStart => exact ⟨0, [], rfl, Nat.zero_le _, Nat.le_refl _, OwnBB.nil _ _, by simp, Below.refl _ _⟩
  case round =>
    obtain ⟨k, ls, rfl, hk, hlk, ho, hf, hb⟩ := hrel
    have O := Lib.hid ho
    have G := Lib.hid hb
    obtain ⟨A2, c2, hsl, hrd, hob⟩ := sl_tail_own (HW.out.below hb) k (k : Int) rfl hk
    have R2 := Lib.hid hrd
    have OB := Lib.hid hob
    have hld : (l.drop k).length = l.length - k := List.length_drop ..
    have HLD := Lib.hid hld
    clear ho hb hrd hob
    go_wp2_with fail
    refine (ref_first _ (l.drop k) _ (R2.out.more G.out.size) (by omega)).mono ?_
    rintro e w1 ⟨v1, rfl, hr1, hob1, hb1⟩
    clear hsl hld
    by_cases he : (fst1 (l.drop k)).2.2 = 0
    · have hok := fst1_ok _ he
      have hfo := frs_ok _ he
      have hrd1 := hr1
      generalize fst1 (l.drop k) = r at *
      obtain ⟨own, n, e1⟩ := r
      simp only at he hok hfo hrd1
      subst he
      have hlp : 0 < l.length := by have := HLD.out; omega
      have hold := HW.out.old hlp
      have hne : 0 < own.length → ∀ j, v1.ownBlock = some j → some j ≠ u4.ownBlock := fun _ j hj => by
        have h1 := hold j (OB.out j (hob1 j hj))
        exact fun e => by have := OwnBB.base O.out j e.symm; omega
      have O1 := Lib.hid (O.out.on hb1)
      have V1 := Lib.hid (hr1.more hb1.size)
      have NE := Lib.hid hne
      have G1 := Lib.hid (G.out.trans (hb1.mono G.out.size))
      have hn8 : 8 ≤ n := hok.1
      have hnl : n ≤ l.length - k := by have := hok.2.1; have := HLD.out; omega
      have HF := Lib.hid hf
      have HFO := Lib.hid hfo
      obtain ⟨A1, c1, hv1, -⟩ := hr1
      subst hv1
      clear hf hfo hok hne hold hb1 hob1 O G
      go_wp2_with (at_builtin; refine wpl_app_bb rfl (.tmp 21) (.tmp 23) rfl w.heap.size _ _ ls own _ 1 _ rfl rfl rfl rfl O1.out V1.out NE.out G1.out.size (by omega) ?_; intro x2 w2 ho2 hb2)
      go_roundw
      case rel =>
        refine ⟨k + n, ls ++ [own], by go_num, by omega, by simp; omega, ho2, ?_, G1.out.trans hb2⟩
        rw [HF.out, HFO.out, List.drop_drop]
        simp [Nat.add_assoc]
      case measure => simp [intOf]; omega
    · have hfe := frs_end _ he
      have hne : ((fst1 (l.drop k)).2.2 != 0) = true := by simpa [bne] using he
      have HE := Lib.hid (show frs l = (ls, k) from by rw [hf, hfe]; simp)
      have O1 := Lib.hid (O.out.on hb1).rd
      have G1 := Lib.hid (G.out.trans (hb1.mono G.out.size))
      generalize fst1 (l.drop k) = r at *
      obtain ⟨own, n, e1⟩ := r
      simp only at hne
      clear hfe hf hr1 he hob1 hb1
      go_wp2_with fail
      go_ret2
      rw [HE.out]
      exact ⟨_, rfl, O1.out, G1.out⟩

set_option maxHeartbeats 1000000 in
theorem ref_one (v : Value) (l : List UInt8) (w : World) (h : RdB w w.heap.size v l) (hl : l.length ≤ 1000000) :
    Calls Try.prog 20 #[v] w fun e w' => ∃ v', e = .returned (.tuple #[v', .int .i64 (one1 l).2]) ∧ RdB w' w'.heap.size v' (one1 l).1 ∧ Below w.heap.size w w' := by
  have hf := ref_first v l w h (by omega)
  have hone : one1 l = if (fst1 l).2.2 = 3 then ([], 3) else if (fst1 l).2.1 < l.length then ([], 2) else ((fst1 l).1, (fst1 l).2.2) := rfl
  generalize fst1 l = r at *
  obtain ⟨own, n, e⟩ := r
  simp only at hf hone
  have HF := Lib.hid hf
  obtain ⟨A, c, rfl, -⟩ := h
  clear hf
  by_cases h3 : e = 3
  · subst h3
    rw [if_pos rfl] at hone
    rw [hone]
    clear hone
    go_enter Try.func20, Try.ntmps20
    go_wp2_with fail
    refine HF.out.mono ?_
    rintro x w1 ⟨v1, rfl, hr1, -, hb1⟩
    go_wp2_with fail
    go_ret2
    exact ⟨_, rfl, RdB.nil _ _, hb1⟩
  · rw [if_neg h3] at hone
    have z3 : (e == 3) = false := by simpa using h3
    by_cases hn : n < l.length
    · rw [if_pos hn] at hone
      rw [hone]
      clear hone h3
      go_enter Try.func20, Try.ntmps20
      go_wp2_with fail
      refine HF.out.mono ?_
      rintro x w1 ⟨v1, rfl, hr1, -, hb1⟩
      go_wp2_with fail
      go_ret2
      exact ⟨_, rfl, RdB.nil _ _, hb1⟩
    · rw [if_neg hn] at hone
      rw [hone]
      clear hone h3
      go_enter Try.func20, Try.ntmps20
      go_wp2_with fail
      refine HF.out.mono ?_
      rintro x w1 ⟨v1, rfl, hr1, -, hb1⟩
      go_wp2_with fail
      go_ret2
      exact ⟨v1, rfl, hr1.more hb1.size, hb1⟩

set_option maxHeartbeats 2000000 in
theorem ref_same (va vb : Value) (l m : List (List UInt8)) (w : World) (ha : RdBB w w.heap.size va l) (hb : RdBB w w.heap.size vb m) :
    Calls Try.prog 18 #[va, vb] w fun e w' => e = .returned (.bool (decide (l = m))) ∧ Below w.heap.size w w' := by
  have HA := Lib.hid ha
  have HB := Lib.hid hb
  obtain ⟨A, ca, rfl, hla, hca, -⟩ := ha.form
  obtain ⟨B, cb, rfl, hlb, hcb, -⟩ := hb.form
  clear ha hb
  by_cases hlen : l.length = m.length
  · have z0 : ((l.length : Int) != (m.length : Int)) = false := by simp [bne, hlen]
    have HL := Lib.hid hlen
    go_enter Try.func18, Try.ntmps18
    clear hlen
    go_wp2_with fail
    go_loopw [5] (fun i wr => ∃ k : Nat, i = .int .i64 k ∧ k ≤ l.length ∧ l.take k = m.take k ∧ Below w.heap.size w wr) (fun i _ => l.length - (intOf i).toNat)
    case atStart => exact ⟨0, rfl, Nat.zero_le _, rfl, Below.refl _ _⟩
    case round =>
      obtain ⟨k, rfl, hk, ht, hbw⟩ := hrel
      have G := Lib.hid hbw
      have T := Lib.hid ht
      clear hbw ht
      by_cases hlt : k < l.length
      · have hltm : k < m.length := by have := HL.out; omega
        obtain ⟨A', c', e1, -, -, hA⟩ := (HA.out.below G.out).form
        obtain ⟨B', d', e2, -, -, hB⟩ := (HB.out.below G.out).form
        obtain ⟨ba, oa, ua, rfl, hba, ca1, ra⟩ := hA k hlt
        obtain ⟨bb, ob, ub, rfl, hbb, cb1, rb⟩ := hB k hltm
        cases e1
        cases e2
        have hca := ra.str
        have hcb := rb.str
        have hs1 : l.take (k + 1) = l.take k ++ [l[k]] := List.take_succ_eq_append_getElem hlt
        have hs2 : m.take (k + 1) = m.take k ++ [m[k]] := List.take_succ_eq_append_getElem hltm
        have S1 := Lib.hid hs1
        have S2 := Lib.hid hs2
        have hca2 := fun n => RdB.str (w := wr.drewN n) ra
        have hcb2 := fun n => RdB.str (w := wr.drewN n) rb
        obtain ⟨Au, cu, hu, -⟩ := ra
        obtain ⟨Av, cv, hv, -⟩ := rb
        subst hu hv
        have NE := Lib.hid (show l[k] ≠ m[k] → l ≠ m from fun h e => h (by subst e; rfl))
        clear hs1 hs2 hA hB
        generalize l[k] = p at *
        generalize m[k] = q at *
        by_cases hpq : p = q
        · have zpq : (p == q) = true := by simpa using hpq
          have PQ := Lib.hid hpq
          clear hpq
          go_wp2_with fail
          go_quiet (fail)
          go_wp2_with fail
          go_roundw
          case rel => exact ⟨k + 1, by go_num, by omega, by rw [S1.out, S2.out, T.out, PQ.out], G.out.drewN _⟩
          case measure => simp [intOf]; omega
        · have zpq : (p == q) = false := by simpa using hpq
          have LM := Lib.hid (NE.out hpq)
          clear hpq
          go_wp2_with fail
          go_quiet (fail)
          go_wp2_with fail
          go_ret
          exact ⟨ret_bool (by simp [LM.out]), G.out.drewN _⟩
      · have LM := Lib.hid (show l = m from by
          have h1 : l.take k = l := List.take_of_length_le (by omega)
          have h2 : m.take k = m := List.take_of_length_le (by have := HL.out; omega)
          rw [← h1, T.out, h2])
        go_wp2_with fail
        go_ret
        exact ⟨ret_bool (by simp [LM.out]), G.out⟩
  · have z0 : ((l.length : Int) != (m.length : Int)) = true := by simp [bne]; omega
    have LM := Lib.hid (show l ≠ m from fun e => hlen (by rw [e]))
    clear hlen
    go_enter Try.func18, Try.ntmps18
    go_wp2_with fail
    go_ret
    exact ⟨ret_bool (by simp [LM.out]), Below.refl _ _⟩
end Go.Proofs.Ytdpjohehmbddnaa
