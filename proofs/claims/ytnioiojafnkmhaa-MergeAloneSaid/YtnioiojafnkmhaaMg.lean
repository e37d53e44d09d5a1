/- Layer 10, plain: what is left of lists that are merged: their rests in a heap, and what comes off it. -/
import Derived.Test.YtnioiojafnkmhaaMh
namespace Go.Proofs.Ytnioiojafnkmhaa
set_option linter.unusedVariables false
section
variable {α : Type} {lt : α → α → Bool}

/-- What is left of the list at a place: its block, its first thing, and the others. -/
structure Rst (α : Type) where
  at_ : Nat
  place : Nat
  head : α
  tail : List α
/-- Which of two rests is ahead. -/
def ltR (lt : α → α → Bool) (a b : Rst α) : Bool := lt a.head b.head || (!lt a.head b.head && !lt b.head a.head && decide (a.place < b.place))
theorem ltR_true {a b : Rst α} : ltR lt a b = true ↔ lt a.head b.head = true ∨ (lt a.head b.head = false ∧ lt b.head a.head = false ∧ a.place < b.place) := by
  unfold ltR
  cases lt a.head b.head <;> cases lt b.head a.head <;> simp
theorem ltR_ahead (h : Ahead lt) : Ahead (ltR lt) := by
  refine ⟨fun a b h1 => ?_, fun a b c h1 h2 => ?_⟩
  · rw [Bool.eq_false_iff, ne_eq, ltR_true]
    rw [ltR_true] at h1
    rintro (e | ⟨e1, e2, e3⟩)
    · rcases h1 with f | ⟨f1, f2, f3⟩
      · rw [h.asymm _ _ e] at f; cases f
      · rw [f2] at e; cases e
    · rcases h1 with f | ⟨f1, f2, f3⟩
      · rw [e2] at f; cases f
      · omega
  · rw [Bool.eq_false_iff, ne_eq, ltR_true] at h1 h2 ⊢
    have a1 : lt a.head b.head = false := by cases e : lt a.head b.head <;> simp_all
    have b1 : lt b.head c.head = false := by cases e : lt b.head c.head <;> simp_all
    rintro (e | ⟨e1, e2, e3⟩)
    · rw [h.negtrans _ _ _ a1 b1] at e; cases e
    · have a2 : lt b.head a.head = false := h.negtrans _ _ _ b1 e2
      have b2 : lt c.head b.head = false := h.negtrans _ _ _ e2 a1
      have n1 : ¬ a.place < b.place := fun hp => h1 (.inr ⟨a1, a2, hp⟩)
      have n2 : ¬ b.place < c.place := fun hp => h2 (.inr ⟨b1, b2, hp⟩)
      omega

/-- The rests of lists. -/
structure Rests (L : List (List α)) (xs : List (Rst α)) : Prop where
  here : ∀ r ∈ xs, L[r.place]? = some (r.head :: r.tail)
  all : ∀ (p : Nat) (y : α) (ys : List α), L[p]? = some (y :: ys) → ∃ r ∈ xs, r.place = p
  once : xs.Pairwise fun a b => a.place ≠ b.place ∧ a.at_ ≠ b.at_
theorem Rests.perm {L : List (List α)} {xs ys : List (Rst α)} (h : Rests L xs) (hp : ys.Perm xs) : Rests L ys :=
  ⟨fun r hr => h.here r (hp.mem_iff.1 hr), fun p y t hl => let ⟨r, hr, e⟩ := h.all p y t hl; ⟨r, hp.mem_iff.2 hr, e⟩, (hp.pairwise_iff (fun a => ⟨fun e => a.1 e.symm, fun e => a.2 e.symm⟩)).2 h.once⟩
theorem Rests.nil : Rests ([] : List (List α)) [] := ⟨by simp, by simp, List.Pairwise.nil⟩
/-- A further list. -/
theorem Rests.more {L : List (List α)} {xs : List (Rst α)} (h : Rests L xs) (at_ : Nat) (x : α) (t : List α) (ha : ∀ r ∈ xs, r.at_ ≠ at_) : Rests (L ++ [x :: t]) (⟨at_, L.length, x, t⟩ :: xs) := by
  have hlt : ∀ r ∈ xs, r.place < L.length := fun r hr => (List.getElem?_eq_some_iff.1 (h.here r hr)).1
  refine ⟨fun r hr => ?_, fun p y ys hl => ?_, List.pairwise_cons.2 ⟨fun r hr => ⟨by have := hlt r hr; simp only; omega, fun e => ha r hr e.symm⟩, h.once⟩⟩
  · rcases List.mem_cons.1 hr with rfl | hr
    · simp
    · rw [List.getElem?_append_left (hlt r hr)]; exact h.here r hr
  · rw [List.getElem?_append] at hl
    split at hl
    · obtain ⟨r, hr, e⟩ := h.all p y ys hl
      exact ⟨r, List.mem_cons_of_mem _ hr, e⟩
    · refine ⟨_, List.mem_cons_self, ?_⟩
      have := (List.getElem?_eq_some_iff.1 hl).1
      simp at this
      simp only
      omega
/-- A further list of nothing. -/
theorem Rests.none {L : List (List α)} {xs : List (Rst α)} (h : Rests L xs) : Rests (L ++ [[]]) xs := by
  have hlt : ∀ r ∈ xs, r.place < L.length := fun r hr => (List.getElem?_eq_some_iff.1 (h.here r hr)).1
  refine ⟨fun r hr => by rw [List.getElem?_append_left (hlt r hr)]; exact h.here r hr, fun p y ys hl => ?_, h.once⟩
  rw [List.getElem?_append] at hl
  split at hl
  · exact h.all p y ys hl
  · have := (List.getElem?_eq_some_iff.1 hl).1
    simp at this
    rw [show p - L.length = 0 from by omega] at hl
    simp at hl
/-- Nothing left. -/
theorem Rests.empty {L : List (List α)} (h : Rests L []) : L.flatten = [] := by
  rw [List.flatten_eq_nil_iff]
  intro l hl
  obtain ⟨i, hi, rfl⟩ := List.getElem_of_mem hl
  cases e : L[i] with
  | nil => rfl
  | cons y ys =>
    obtain ⟨r, hr, _⟩ := h.all i y ys (by rw [List.getElem?_eq_getElem hi, e])
    cases hr
/-- What stands at the heap's root comes first of all. -/
theorem Rests.root (o : Ahead lt) {L : List (List α)} {r : Rst α} {xs : List (Rst α)} (h : Rests L (r :: xs)) (hs : ∀ l ∈ L, Asc lt l) (hh : HeapTo (ltR lt) (r :: xs) (r :: xs).length) :
    sortR lt L.flatten = r.head :: sortR lt (L.set r.place r.tail).flatten := by
  have hr := h.here r List.mem_cons_self
  obtain ⟨hk, he⟩ := List.getElem?_eq_some_iff.1 hr
  have root : ∀ q ∈ r :: xs, ltR lt q r = false := fun q hq => by
    obtain ⟨i, hi, rfl⟩ := List.getElem_of_mem hq
    exact hh.root (ltR_ahead o) (Nat.le_refl _) rfl i hi _ (List.getElem?_eq_getElem hi)
  refine sortR_heads o hs hk he (fun i hi hik y ys hl => ?_) (fun i hi hik y ys hl => ?_)
  · obtain ⟨q, hq, e⟩ := h.all i y ys (by rw [List.getElem?_eq_getElem hi, hl])
    have h1 := h.here q hq
    rw [e, List.getElem?_eq_getElem hi, hl] at h1
    injection h1 with h1
    injection h1 with h1 h2
    have h3 := root q hq
    rw [Bool.eq_false_iff, ne_eq, ltR_true, ← h1, e] at h3
    cases e1 : lt r.head y
    · exfalso
      apply h3
      cases e2 : lt y r.head
      · exact .inr ⟨rfl, e1, hik⟩
      · exact .inl rfl
    · rfl
  · obtain ⟨q, hq, e⟩ := h.all i y ys (by rw [List.getElem?_eq_getElem hi, hl])
    have h1 := h.here q hq
    rw [e, List.getElem?_eq_getElem hi, hl] at h1
    injection h1 with h1
    injection h1 with h1 h2
    have h3 := root q hq
    rw [Bool.eq_false_iff, ne_eq, ltR_true, ← h1] at h3
    cases e1 : lt y r.head
    · rfl
    · exact absurd (.inl e1) h3
/-- One is taken; the rest of its list is put back. -/
theorem Rests.next {L : List (List α)} {r : Rst α} {xs : List (Rst α)} (h : Rests L (r :: xs)) {x : α} {t : List α} (ht : r.tail = x :: t) : Rests (L.set r.place r.tail) (⟨r.at_, r.place, x, t⟩ :: xs) := by
  have hk := (List.getElem?_eq_some_iff.1 (h.here r List.mem_cons_self)).1
  have ho := List.pairwise_cons.1 h.once
  refine ⟨fun q hq => ?_, fun p y ys hl => ?_, List.pairwise_cons.2 ⟨fun q hq => ho.1 q hq, ho.2⟩⟩
  · rcases List.mem_cons.1 hq with rfl | hq
    · simp only; rw [List.getElem?_set_self hk, ht]
    · rw [List.getElem?_set_ne (ho.1 q hq).1]; exact h.here q (List.mem_cons_of_mem _ hq)
  · by_cases e : r.place = p
    · exact ⟨_, List.mem_cons_self, e⟩
    · rw [List.getElem?_set_ne e] at hl
      obtain ⟨q, hq, e2⟩ := h.all p y ys hl
      rcases List.mem_cons.1 hq with rfl | hq
      · exact absurd e2 e
      · exact ⟨q, List.mem_cons_of_mem _ hq, e2⟩
theorem Rests.last {L : List (List α)} {r : Rst α} {xs : List (Rst α)} (h : Rests L (r :: xs)) (ht : r.tail = []) : Rests (L.set r.place r.tail) xs := by
  have hk := (List.getElem?_eq_some_iff.1 (h.here r List.mem_cons_self)).1
  have ho := List.pairwise_cons.1 h.once
  refine ⟨fun q hq => ?_, fun p y ys hl => ?_, ho.2⟩
  · rw [List.getElem?_set_ne (ho.1 q hq).1]; exact h.here q (List.mem_cons_of_mem _ hq)
  · by_cases e : r.place = p
    · subst e; rw [List.getElem?_set_self hk, ht] at hl; cases hl
    · rw [List.getElem?_set_ne e] at hl
      obtain ⟨q, hq, e2⟩ := h.all p y ys hl
      rcases List.mem_cons.1 hq with rfl | hq
      · exact absurd e2 e
      · exact ⟨q, hq, e2⟩
theorem set_asc {L : List (List α)} (hs : ∀ l ∈ L, Asc lt l) {k : Nat} {x : α} {t : List α} (hk : L[k]? = some (x :: t)) : ∀ l ∈ L.set k t, Asc lt l := fun l hl => by
  rcases List.mem_or_eq_of_mem_set hl with h | rfl
  · exact hs l h
  · have := hs _ (List.mem_of_getElem? hk)
    exact (List.pairwise_cons.1 this).2
end
end Go.Proofs.Ytnioiojafnkmhaa
