/- Layer 1: a number's bytes and a text's, as the document's answer makes them. -/
import Derived.Test.YtnapadpkfjpklaaOf
namespace Go.Proofs.Ytnapadpkfjpklaa
open Go.RowKit
set_option linter.unusedVariables false

set_option maxHeartbeats 400000 in
theorem ref_text (s : ByteArray) (w : World) (hs : s.size ≤ 137438953472) :
    Calls Try.prog 28 #[.string s] w fun e w' => ∃ v', e = .returned v' ∧ OwnB w' w.heap.size v' (encText s.data.toList ++ [0, 1]) ∧ Below w.heap.size w w' := by
  go_enter Try.func28, Try.ntmps28
  go_wp2
  go_loopw [3, 4] (fun x i wr => ∃ k : Nat, k ≤ s.size ∧ i = .int .i64 k ∧ OwnB wr w.heap.size x (encText (s.data.toList.take k)) ∧ Grew w wr (.slice none 0 0) x) (fun _ i _ => s.size - (intOf i).toNat)
  case atStart => exact ⟨0, Nat.zero_le _, rfl, by simpa [encText] using OwnB.nil w _, Grew.refl _ _⟩
  case round =>
    obtain ⟨k, hk, rfl, ho, hg⟩ := hrel
    have hgs := hg.grown.size
    have hel := encText_length (s.data.toList.take k)
    have htl : (s.data.toList.take k).length ≤ k := List.length_take_le _ _
    have hll : (encText (s.data.toList.take k)).length ≤ 2 * k := by omega
    have HG := Lib.hid hg
    clear hg hel htl
    by_cases hlt : k < s.size
    · have hts := Lib.hid (take_snoc s k hlt)
      by_cases hz : s[k] = 0
      · have hz1 : (s[k].toNat : Int) = 0 := by rw [hz]; rfl
        have HZ := Lib.hid hz
        clear hz
        go_wp2_with (first
          | (at_builtin; refine wpl_app rfl (.tmp 11) (.tmp 15) rfl w.heap.size _ _ [s[k]] _ _ _ ?_ rfl rfl rfl ho ?_ ?_ ?_; rotate_left 3; intro v1 w1 ho1 hg1 hs1)
          | (at_builtin; refine wpl_app rfl (.tmp 21) (.tmp 22) rfl w.heap.size _ _ [255] _ _ _ ?_ rfl rfl rfl ho1 ?_ ?_ ?_; rotate_left 3; intro v2 w2 ho2 hg2 hs2))
        · go_roundw
          case rel =>
            refine ⟨k + 1, by omega, by go_num, ?_, HG.out.trans (hg1.trans hg2)⟩
            rw [hts.out, encText_append, HZ.out]
            rw [HZ.out] at ho2
            simpa [encText] using ho2
          case measure => simp [intOf]; omega
        all_goals first | omega | rfl | (simp [bv, hz1]; done) | (simp only [List.length_append, List.length_cons, List.length_nil]; omega)
      · have hz1 : ((s[k].toNat : Int) == 0) = false := by
          have : s[k].toNat ≠ 0 := fun e => hz (UInt8.toNat_inj.1 e)
          rw [beq_eq_false_iff_ne]; omega
        go_wp2_with (first
          | (at_builtin; refine wpl_app rfl (.tmp 11) (.tmp 15) rfl w.heap.size _ _ [s[k]] _ _ _ ?_ rfl rfl rfl ho ?_ ?_ ?_; rotate_left 3; intro v1 w1 ho1 hg1 hs1))
        · go_roundw
          case rel =>
            refine ⟨k + 1, by omega, by go_num, ?_, HG.out.trans hg1⟩
            rw [hts.out, encText_append]
            simpa [encText, hz] using ho1
          case measure => simp [intOf]; omega
        all_goals first | omega | rfl | (simp [bv, hz1]; done) | (simp only [List.length_append, List.length_cons, List.length_nil]; omega)
    · have hk2 : k = s.size := by omega
      have H2 := Lib.hid (show s.data.toList.take k = s.data.toList from List.take_of_length_le (by simp; omega))
      clear hk2
      go_wp2_with (first
        | (at_builtin; refine wpl_app rfl (.tmp 24) (.tmp 25) rfl w.heap.size _ _ [0, 1] _ _ _ ?_ rfl rfl rfl ho ?_ ?_ ?_; rotate_left 3; intro v1 w1 ho1 hg1 hs1))
      · go_ret
        rw [H2.out] at ho1
        exact ⟨v1, rfl, ho1, (HG.out.trans hg1).below (Nat.le_refl _) (by simp [Value.ownBlock])⟩
      all_goals first | omega | rfl | (simp [bv]; done) | (simp only [List.length_append, List.length_cons, List.length_nil]; omega)

theorem mk_eight (W : World) : (Instr.makeSlice 24 (.int .i64 8) (.int .i64 8)).run Try.prog W = .ok (.slice (some ⟨W.heap.size, 0, none⟩) 8 8)
    (W.alloc (.cells #[.int .u8 0, .int .u8 0, .int .u8 0, .int .u8 0, .int .u8 0, .int .u8 0, .int .u8 0, .int .u8 0] 5)) := by kernel_rfl

set_option maxHeartbeats 800000 in
theorem ref_number (n : Int) (w : World) (h1 : -9223372036854775808 ≤ n) (h2 : n ≤ 9223372036854775807) :
    Calls Try.prog 29 #[.int .i64 n] w fun e w' => ∃ v', e = .returned v' ∧ OwnB w' w.heap.size v' (encNum n) ∧ Below w.heap.size w w' := by
  have hmk := mk_eight
  by_cases hn : n < 0
  · go_enter Try.func29, Try.ntmps29
    go_wp2
    go_rounds 9
    go_ret
    refine ⟨_, rfl, own_new w _ (encNum n) 8 ?_ (encNum_length n).symm (by rw [encNum_length]; omega), by go_grown⟩
    obtain ⟨e0, e1, e2, e3, e4, e5, e6, e7⟩ := numByte_neg n hn h1
    rw [encNum_eq]
    simp only [bv, List.map_cons, List.map_nil]
    rw [e0, e1, e2, e3, e4, e5, e6, e7]
  · have hd : decide (n < 0) = false := by simpa using hn
    go_enter Try.func29, Try.ntmps29
    go_wp2
    go_rounds 9
    trace_state
    go_ret
    refine ⟨_, rfl, own_new w _ (encNum n) 8 ?_ (encNum_length n).symm (by rw [encNum_length]; omega), by go_grown⟩
    obtain ⟨e0, e1, e2, e3, e4, e5, e6, e7⟩ := numByte_pos n (by omega) h2
    rw [encNum_eq]
    simp only [bv, List.map_cons, List.map_nil]
    rw [e0, e1, e2, e3, e4, e5, e6, e7]
end Go.Proofs.Ytnapadpkfjpklaa
