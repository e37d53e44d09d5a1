/- Program-free laws: a region whose order is open, of which an operation that makes memory may come between calls: the walk forks there; what the region leaves is said once, so that the forks meet again. -/
import Derived.Test.YtecomnklofceaaaBregk
namespace Go.Proofs.Ytecomnklofceaaa
open Go.RowKit
set_option linter.unusedVariables false

section
variable {P : Program} {ops : Array Oper} {Q : Exit → Act → World → Prop}

/-- What is said of a region that ends as it should. -/
def Ends (R : Act → World → Prop) : Exit → Act → World → Prop
  | .normal, a, w => R a w
  | _, _, _ => False
theorem Ends.mk {R : Act → World → Prop} {a : Act} {w : World} (h : R a w) : Ends R .normal a w := h
theorem region_via {id : Nat} {a : Act} {w : World} (R : Act → World → Prop) (h : (Code.region id ops true).wp P (Ends R) a w) (hk : ∀ a w, R a w → Q .normal a w) : (Code.region id ops true).wp P Q a w :=
  Code.wp_mono (fun e a w q => by cases e <;> first | exact hk _ _ q | exact q.elim) h

/-- The same, said of the act ahead. -/
theorem region_via2 {id : Nat} {T : Array Value} {ds : List Deferred} {w : World} (R : Array Value → List Deferred → Act → World → Prop) (h : (Code.region id ops true).wp P (Ends (R T ds)) ⟨T, ds⟩ w) (hk : ∀ a w, R T ds a w → Q .normal a w) :
    (Code.region id ops true).wp P Q ⟨T, ds⟩ w := region_via (R T ds) h hk

/-- One of two that may come. -/
theorem regk_fork {B : List Nat} {I : World → Prop} {w : World} (i j : Nat) {fuel : Nat} {listed : Array Bool} {a : Act} (hr : Region.ready .any ops listed = [i, j])
    (h1 : wpOp P ops Q i (fun a' w' => (noB B (listed.setIfInBounds i true) = true → I w') ∧ anyK P ops Q B I fuel (listed.setIfInBounds i true) a' w') a w)
    (h2 : wpOp P ops Q j (fun a' w' => (noB B (listed.setIfInBounds j true) = true → I w') ∧ anyK P ops Q B I fuel (listed.setIfInBounds j true) a' w') a w) :
    anyK P ops Q B I (fuel + 1) listed a w := by
  refine ⟨(fun h0 => by rw [hr] at h0; cases h0), fun k hk => ?_⟩
  rw [hr] at hk
  simp only [List.mem_cons, List.not_mem_nil, or_false] at hk
  rcases hk with rfl | rfl
  · exact h1
  · exact h2
theorem fork_call {K : Act → World → Prop} {w : World} (i d : Nat) {T : Array Value} {ds : List Deferred} (hi : (ops[i]?).isSome = true)
    (f : FuncId) (args : Array Value) (hstep : ∀ o, ops[i]? = some o → o.dst = some d ∧ Region.wanted o (yielded ops T) = true ∧ ∀ W, (execOp (Act.mk T ds).eval o).run P W = .ok (.enter f args) W)
    (h : Calls P f args w fun e w' => ∃ v T', e = .returned v ∧ T.setIfInBounds d v = T' ∧ K ⟨T', ds⟩ w') : wpOp P ops Q i K ⟨T, ds⟩ w := by
  obtain ⟨o, ho⟩ := Option.isSome_iff_exists.1 hi
  obtain ⟨h1, h2, h3⟩ := hstep o ho
  unfold wpOp
  simp only [ho, h2, if_true]
  refine .inl ?_
  unfold Oper.wp
  rw [h3, Oper.upon_enter]
  refine Calls.mono h fun e w' he => ?_
  obtain ⟨v, T', rfl, rfl, hk⟩ := he
  simp only [h1]
  exact hk
theorem fork_make {K : Act → World → Prop} {w w' : World} (i d : Nat) {v : Value} {T T' : Array Value} {ds : List Deferred} (hi : (ops[i]?).isSome = true)
    (hstep : ∀ o, ops[i]? = some o → o.dst = some d ∧ Region.wanted o (yielded ops T) = true ∧ (execOp (Act.mk T ds).eval o).run P w = .ok (.value v) w')
    (hT : T.setIfInBounds d v = T') (h : K ⟨T', ds⟩ w') : wpOp P ops Q i K ⟨T, ds⟩ w := by
  obtain ⟨o, ho⟩ := Option.isSome_iff_exists.1 hi
  obtain ⟨h1, h2, h3⟩ := hstep o ho
  unfold wpOp
  simp only [ho, h2, if_true]
  refine .inl ?_
  unfold Oper.wp
  rw [h3]
  simp only [Oper.upon, h1]
  subst hT
  exact h
end
end Go.Proofs.Ytecomnklofceaaa
