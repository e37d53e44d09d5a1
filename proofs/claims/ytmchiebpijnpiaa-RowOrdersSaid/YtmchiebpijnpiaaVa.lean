/- Layer 2: a number's bytes, put behind a row. -/
import Derived.Test.YtmchiebpijnpiaaVm
import Derived.Test.YtmchiebpijnpiaaBstr
namespace Go.Proofs.Ytmchiebpijnpiaa
open Go.RowKit
set_option linter.unusedVariables false

theorem one_bv (n : Int) (k : Nat) (h : k < 256) (hn : n = (k : Int)) : #[Value.int .u8 n] = (bv [UInt8.ofNat k]).toArray := by subst hn; simp [bv]; omega

set_option maxHeartbeats 400000 in
theorem clone_any (v : Value) (l : List UInt8) (w : World) (h : RdB w w.heap.size v l) (hl : l.length ≤ 549755813888) :
    Calls Try.prog 38 #[v] w fun e w' => ∃ v', e = .returned v' ∧ OwnB w' w.heap.size v' l ∧ Below w.heap.size w w' := by
  have H := Lib.hid h
  obtain ⟨A, c, rfl, hlc, hc, h3⟩ := h
  have hq := fun W => Lib.run_eql_slice_nil (P := Try.prog) W 28 5 A l.length c 0 0 Try.underlying28
  cases A with
  | none =>
    have h0 : l.length = 0 := by
      rcases Nat.eq_zero_or_pos l.length with h0 | h0
      · exact h0
      · obtain ⟨b, o, e, _⟩ := h3 h0; cases e
    have h1 := Lib.hid (List.eq_nil_of_length_eq_zero h0)
    clear h3 h0
    go_enter Try.func38, Try.ntmps38
    go_wp2
    go_ret
    refine ⟨_, rfl, ?_, by go_grown⟩
    rw [h1.out]; exact OwnB.nil _ _
  | some p =>
    clear h3
    have H2 := Lib.hid ((H.out.on (alloc_below w (.cells #[] 5))))
    go_enter Try.func38, Try.ntmps38
    go_wp2_with (at_builtin; refine wpl_app_bytes rfl (.tmp 5) (.tmp 6) rfl w.heap.size _ _ _ [] l rfl rfl (own_new w _ [] 0 rfl rfl (by simp)) H2.out ?_ ?_ ?_; rotate_left 2; intro v1 w1 ho1 hg1 hs1)
    · go_ret
      exact ⟨v1, rfl, ho1, (alloc_below w _).trans (hg1.below (by simp) (OwnB.base (own_new w _ [] 0 rfl rfl (by simp))))⟩
    all_goals first | omega | (simp; done) | (simp; omega)

set_option maxHeartbeats 400000 in
set_option maxRecDepth 100000 in
theorem put_number (base : Nat) (v : Value) (l : List UInt8) (n : Nat) (w : World) (h : OwnB w base v l) (hb : base ≤ w.heap.size) (hl : l.length ≤ 549755813888) (hn : n < 9223372036854775808) :
    Calls Try.prog 50 #[v, .int .i64 n] w fun e w' => ∃ v', e = .returned v' ∧ OwnB w' base v' (l ++ encN n) ∧ Grew w w' v v' := by
  have hlen := encN_nine n hn
  go_enter Try.func50, Try.ntmps50
  go_wp2
  go_loopw [0, 1] (fun x i wr => ∃ (k : Nat) (s : List UInt8), k ≤ n ∧ i = .int .i64 k ∧ s ++ encN k = encN n ∧ OwnB wr base x (l ++ s) ∧ Grew w wr v x) (fun _ i _ => (intOf i).toNat)
  case atStart => exact ⟨n, [], Nat.le_refl _, rfl, rfl, by simpa using h, Grew.refl _ _⟩
  case round =>
    obtain ⟨k, s, hk, rfl, he, ho, hg⟩ := hrel
    have hgs := hg.grown.size
    have hsl : s.length + (encN k).length ≤ 9 := by rw [← List.length_append, he]; exact hlen
    have hkp := encN_pos k
    have hs8 : s.length ≤ 8 := by omega
    have HG := Lib.hid hg
    by_cases h128 : k < 128
    · rw [encN_lt h128] at he
      have HE := Lib.hid he
      clear hg he hlen hkp hsl
      go_wp2_with (at_builtin; refine wpl_app rfl (.tmp 16) (.tmp 19) rfl base _ _ [UInt8.ofNat k] _ _ _ ?_ rfl rfl rfl ho ?_ ?_ ?_; rotate_left 3; intro v1 w1 ho1 hg1 hs1)
      · go_ret
        rw [List.append_assoc, HE.out] at ho1
        exact ⟨v1, rfl, ho1, HG.out.trans hg1⟩
      all_goals first | omega | exact one_bv _ _ (by omega) (by omega) | (simp only [List.length_append, List.length_cons, List.length_nil]; omega)
    · rw [encN_ge h128] at he
      have HE := Lib.hid he
      clear hg he hlen hkp hsl
      go_wp2_with (at_builtin; refine wpl_app rfl (.tmp 7) (.tmp 12) rfl base _ _ [UInt8.ofNat (k % 128 + 128)] _ _ _ ?_ rfl rfl rfl ho ?_ ?_ ?_; rotate_left 3; intro v1 w1 ho1 hg1 hs1)
      · go_roundw
        case rel => exact ⟨k / 128, s ++ [UInt8.ofNat (k % 128 + 128)], by omega, by go_num, by rw [← HE.out]; simp, by rw [← List.append_assoc]; exact ho1, HG.out.trans hg1⟩
        case measure => simp [intOf]; omega
      all_goals first | omega | exact one_bv _ _ (by omega) (by omega) | (simp only [List.length_append, List.length_cons, List.length_nil]; omega)
end Go.Proofs.Ytmchiebpijnpiaa
