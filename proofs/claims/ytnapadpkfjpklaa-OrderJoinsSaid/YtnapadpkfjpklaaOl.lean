/- Layer 1: whether two tuples are the same. -/
import Derived.Test.YtnapadpkfjpklaaOc
namespace Go.Proofs.Ytnapadpkfjpklaa
open Go.RowKit
set_option linter.unusedVariables false

theorem cmpParts_len : ∀ {l m : List PartD}, cmpParts l m = 0 → l.length = m.length
  | [], [], _ => rfl
  | [], _ :: _, h => by simp [cmpParts] at h
  | _ :: _, [], h => by simp [cmpParts] at h
  | p :: l, q :: m, h => by
    unfold cmpParts at h
    by_cases h0 : cmpPart p q = 0
    · rw [if_pos h0] at h; simp [cmpParts_len h]
    · rw [if_neg h0] at h; exact absurd h h0

set_option maxHeartbeats 400000 in
theorem ref_same (va vb : Value) (l m : List PartD) (w : World) (ha : RdParts w w.heap.size va l) (hb : RdParts w w.heap.size vb m) :
    Calls Try.prog 14 #[va, vb] w fun e w' => e = .returned (.bool (decide (cmpParts l m = 0))) ∧ Below w.heap.size w w' := by
  have hA := Lib.hid ha
  have hB := Lib.hid hb
  obtain ⟨A, ca, rfl, hla, hca, -⟩ := ha
  obtain ⟨B, cb, rfl, hlb, hcb, -⟩ := hb
  by_cases hl : l.length = m.length
  · have h1 : ((l.length : Int) == (m.length : Int)) = true := by rw [beq_iff_eq]; omega
    have H1 := Lib.hid hl
    clear hl
    go_enter Try.func14, Try.ntmps14
    go_wp2_with (go_at_call 20; refine (ref_compare _ _ l m _ hA.out hB.out).mono ?_; rintro e w1 ⟨rfl, hb1⟩)
    go_ret
    exact ⟨ret_bool (by rw [Bool.eq_iff_iff]; simp), hb1⟩
  · have h1 : ((l.length : Int) == (m.length : Int)) = false := by rw [beq_eq_false_iff_ne]; omega
    have h2 : decide (cmpParts l m = 0) = false := by simp only [decide_eq_false_iff_not]; exact fun h => hl (cmpParts_len h)
    have H2 := Lib.hid h2
    clear h2
    go_enter Try.func14, Try.ntmps14
    go_wp2
    go_ret
    exact ⟨ret_bool H2.out.symm, Below.refl _ _⟩
end Go.Proofs.Ytnapadpkfjpklaa
