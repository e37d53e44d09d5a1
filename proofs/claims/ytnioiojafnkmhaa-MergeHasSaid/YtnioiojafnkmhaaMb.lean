/- Layer 10, plain: the orders of versions, numbers and texts are such. -/
import Derived.Test.YtnioiojafnkmhaaMa
import Derived.Test.YtnioiojafnkmhaaRV
namespace Go.Proofs.Ytnioiojafnkmhaa
set_option linter.unusedVariables false
theorem Tells.ahead {α : Type} {c : α → α → Int} (h : Tells c) : Ahead fun a b => decide (c a b < 0) := by
  refine ⟨fun a b h1 => ?_, fun a b d h1 h2 => ?_⟩
  · simp only [decide_eq_true_eq, decide_eq_false_iff_not] at h1 ⊢
    have := h.anti a b
    omega
  · simp only [decide_eq_false_iff_not] at h1 h2 ⊢
    have a1 := h.anti a b
    have a2 := h.anti b d
    have a3 := h.anti a d
    have := h.trans d b a (by omega) (by omega)
    omega
theorem ver_ahead : Ahead lessV := by
  have := ver_tells.ahead
  rw [show lessV = fun a b => decide (cmpV a b < 0) from funext fun a => funext fun b => lessV_iff a b]
  exact this
def intLt (a b : Int) : Bool := decide (a < b)
theorem int_ahead : Ahead intLt := by
  refine ⟨fun a b h1 => ?_, fun a b d h1 h2 => ?_⟩
  · simp only [intLt, decide_eq_true_eq, decide_eq_false_iff_not] at h1 ⊢; omega
  · simp only [intLt, decide_eq_false_iff_not] at h1 h2 ⊢; omega
def strLt (a b : ByteArray) : Bool := Op.bytesLess a.toList b.toList
theorem str_ahead : Ahead strLt := by
  have := (str_tells.pull fun b : ByteArray => b.toList).ahead
  rw [show strLt = fun a b : ByteArray => decide (Ord.cmpStr a.toList b.toList < 0) from funext fun a => funext fun b => by
    unfold strLt; rw [Bool.eq_iff_iff, decide_eq_true_iff]; exact (cmpStr_neg _ _).symm]
  exact this
end Go.Proofs.Ytnioiojafnkmhaa
