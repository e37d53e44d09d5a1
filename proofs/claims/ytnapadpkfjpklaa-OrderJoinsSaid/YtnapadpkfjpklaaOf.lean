/- Layer 1: a number's bytes, put. -/
import Derived.Test.YtnapadpkfjpklaaOe
import Derived.Test.YtnapadpkfjpklaaOn
namespace Go.Proofs.Ytnapadpkfjpklaa
open Go.RowKit
set_option linter.unusedVariables false

set_option maxHeartbeats 400000 in
theorem put_number (base : Nat) (v : Value) (l : List UInt8) (n : Int) (w : World) (h : OwnB w base v l) (hb : base ≤ w.heap.size) (hl : l.length ≤ 549755813888) (h1 : -9223372036854775808 ≤ n) (h2 : n ≤ 9223372036854775807) :
    Calls Try.prog 26 #[v, .int .i64 n] w fun e w' => ∃ v', e = .returned v' ∧ OwnB w' base v' (l ++ encNum n) ∧ Grew w w' v v' := by
  go_enter Try.func26, Try.ntmps26
  go_wp2
  go_loopw [0, 10] (fun x i wr => ∃ k : Nat, k ≤ 8 ∧ i = .int .i64 k ∧ OwnB wr base x (l ++ ((List.range k).map (numByte n))) ∧ Grew w wr v x) (fun _ i _ => 8 - (intOf i).toNat)
  case atStart => exact ⟨0, Nat.zero_le _, rfl, by simpa using h, Grew.refl _ _⟩
  case round =>
    obtain ⟨k, hk, rfl, ho, hg⟩ := hrel
    have hgs := hg.grown.size
    have HG := Lib.hid hg
    clear hg
    by_cases hlt : k < 8
    · go_wp2_with (first
          | (at_builtin; refine wpl_app rfl (.tmp 13) (.tmp 20) rfl base _ _ [numByte n k] _ _ _ ?_ rfl rfl rfl ho ?_ ?_ ?_; rotate_left 3; intro v1 w1 ho1 hg1 hs1))
      · go_roundw
        case rel =>
          refine ⟨k + 1, by omega, by go_num, ?_, HG.out.trans hg1⟩
          rw [List.range_succ, List.map_append]
          simpa using ho1
        case measure => simp [intOf]; omega
      · simp only [bv, List.map_cons, List.map_nil]
        rw [xor_up n h1 h2, numByte_eq n k hlt]
      · omega
      · simp; omega
    · have hk8 : k = 8 := by omega
      subst hk8
      go_wp2
      go_ret
      exact ⟨_, rfl, ho, HG.out⟩
end Go.Proofs.Ytnapadpkfjpklaa
