/- Which blocks a call leaves as they were: those below B, and those that P does not take in. -/
import Derived.Test.YtbdaflhmloodfaaBret
import Derived.Test.YtbdaflhmloodfaaBgen
namespace Go.Proofs.Ytbdaflhmloodfaa
open Go.RowKit
set_option linter.unusedVariables false

structure Keeps (B : Nat) (P : Obj → Bool) (w w' : World) : Prop where
  below : Below B w w'
  other : ∀ (i : Nat) (o : Obj), w.heap[i]? = some o → P o = false → w'.heap[i]? = some o
theorem Keeps.refl (B : Nat) (P : Obj → Bool) (w : World) : Keeps B P w w := ⟨Below.refl _ _, fun _ _ h _ => h⟩
theorem Keeps.trans {B : Nat} {P : Obj → Bool} {a b c : World} (h : Keeps B P a b) (k : Keeps B P b c) : Keeps B P a c :=
  ⟨h.below.trans k.below, fun i o hi hp => k.other i o (h.other i o hi hp) hp⟩
theorem Keeps.of_below {B : Nat} {P : Obj → Bool} {w w' : World} (h : Below w.heap.size w w') (hB : B ≤ w.heap.size) : Keeps B P w w' :=
  ⟨h.mono hB, fun i o hi _ => (h.block i (Array.getElem?_eq_some_iff.1 hi).1).trans hi⟩
theorem Keeps.size {B : Nat} {P : Obj → Bool} {w w' : World} (h : Keeps B P w w') : w.heap.size ≤ w'.heap.size := h.below.size
theorem Keeps.drew {B : Nat} {P : Obj → Bool} {w w' : World} (h : Keeps B P w w') : Keeps B P w w'.drew := ⟨h.below.drew, h.other⟩
/-- A store into a block that P takes in. -/
theorem Keeps.set {B : Nat} {P : Obj → Bool} {w w' : World} (h : Keeps B P w w') {n : Nat} {cs : Array Value} {t : TypeId} (hb : Box w' n cs t) (hn : B ≤ n) (hp : ∀ cs, P (.cells cs t (0, 0)) = true) (j : Nat) (u : Value) :
    Keeps B P w (w'.setCell ⟨n, j, none⟩ u) := by
  refine ⟨h.below.setCell (p := ⟨n, j, none⟩) hn u, fun i o hi ho => ?_⟩
  have h1 := h.other i o hi ho
  by_cases hin : i = n
  · subst hin
    rw [show w'.heap[i]? = _ from hb] at h1
    cases h1
    rw [hp cs] at ho
    cases ho
  · exact (Below.heap_setCell w' ⟨n, j, none⟩ u i hin).trans h1
theorem Keeps.box {B : Nat} {P : Obj → Bool} {w w' : World} (h : Keeps B P w w') {n : Nat} {cs : Array Value} {t : TypeId} (hb : Box w n cs t) (hp : P (.cells cs t (0, 0)) = false) : Box w' n cs t := h.other n _ hb hp
section
variable {α : Type} {L : Lay α} {e : TypeId}
theorem Keeps.own {B : Nat} {P : Obj → Bool} {w w' : World} (h : Keeps B P w w') {base : Nat} {v : Value} {l : List α} (ho : OwnX L e w base v l) (hp : ∀ cs, P (.cells cs e (0, 0)) = false) : OwnX L e w' base v l := by
  refine ⟨ho.1, ?_⟩
  rcases ho.2 with h2 | ⟨g, cap, cur, e1, hg, hc, h3⟩
  · exact .inl h2
  · exact .inr ⟨g, cap, cur, e1, hg, h.other g _ hc (hp cur), h3⟩
/-- An owned row beside a store elsewhere. -/
theorem OwnX.apart {w w' : World} {base : Nat} {v : Value} {l : List α} (h : OwnX L e w base v l) {n : Nat} (hb : ∀ i, i ≠ n → i < w.heap.size → w'.heap[i]? = w.heap[i]?) (hne : v.ownBlock ≠ some n) : OwnX L e w' base v l := by
  refine ⟨h.1, ?_⟩
  rcases h.2 with h2 | ⟨g, cap, cur, e1, hg, hc, h3⟩
  · exact .inl h2
  · refine .inr ⟨g, cap, cur, e1, hg, ?_, h3⟩
    rw [hb g (fun e2 => hne (by rw [e1, e2]; rfl)) (Array.getElem?_eq_some_iff.1 hc).1]
    exact hc
/-- A row and a box of another type lie apart. -/
theorem OwnX.notBox {w : World} {base : Nat} {v : Value} {l : List α} (h : OwnX L e w base v l) {n : Nat} {cs : Array Value} {t : TypeId} (hb : Box w n cs t) (hne : t ≠ e) : v.ownBlock ≠ some n := by
  rcases h.2 with ⟨rfl, _⟩ | ⟨g, cap, cur, rfl, hg, hc, h3⟩
  · simp [Value.ownBlock]
  · intro e2
    simp only [Value.ownBlock, Option.some.injEq] at e2
    subst e2
    rw [show w.heap[g]? = _ from hb] at hc
    injection hc with hc
    injection hc with _ ht
    exact hne ht
end
theorem grown_put {w w' : World} (h : Below w.heap.size w w') (g j : Nat) (u : Value) : w.grownBy (w'.setCell ⟨g, j, none⟩ u) (some g) :=
  ⟨h.os, h.tape, h.output, Nat.le_trans h.size (by simp [World.setCell]), fun i hi hne => (Below.heap_setCell w' ⟨g, j, none⟩ u i (fun e => hne (by rw [e]))).trans (h.block i hi)⟩
theorem Keeps.of_grown {B : Nat} {P : Obj → Bool} {w w' : World} {g : Nat} (h : w.grownBy w' (some g)) {cs : Array Value} {t : TypeId} (hb : Box w g cs t) (hg : B ≤ g) (hp : ∀ cs, P (.cells cs t (0, 0)) = true) : Keeps B P w w' := by
  have hlt := hb.lt
  refine ⟨(Below.refl B w).grown h (by omega) (by intro k hk; injection hk with hk; omega), fun i o hi ho => ?_⟩
  by_cases hig : i = g
  · subst hig
    rw [show w.heap[i]? = _ from hb] at hi
    cases hi
    rw [hp cs] at ho; cases ho
  · exact (h.block i (Array.getElem?_eq_some_iff.1 hi).1 (fun e => hig (by injection e))).trans hi
end Go.Proofs.Ytbdaflhmloodfaa
