/- Layer 10, plain: sorted lists as one: what is put behind all that it is not ahead of; the sorting by it; what stands first of some lists. -/
import Derived.Test.YtlpakooogbaclaaBA
namespace Go.Proofs.Ytlpakooogbaclaa
set_option linter.unusedVariables false
section
variable {α : Type} {lt : α → α → Bool}

/-- An order: of two things one is ahead, or none. -/
structure Ahead (lt : α → α → Bool) : Prop where
  asymm : ∀ a b, lt a b = true → lt b a = false
  negtrans : ∀ a b c, lt a b = false → lt b c = false → lt a c = false
theorem Ahead.irrefl (h : Ahead lt) (a : α) : lt a a = false := by
  cases e : lt a a
  · rfl
  · rw [h.asymm a a e] at e; cases e
/-- Ahead of one that is not behind. -/
theorem Ahead.lt_le (h : Ahead lt) {a b c : α} (h1 : lt a b = true) (h2 : lt c b = false) : lt a c = true := by
  cases e : lt a c
  · rw [h.negtrans a c b e h2] at h1; cases h1
  · rfl
def Asc (lt : α → α → Bool) (l : List α) : Prop := l.Pairwise fun a b => lt b a = false

def insR (lt : α → α → Bool) (p : α) : List α → List α
  | [] => [p]
  | q :: r => if (q :: r).all (lt p) = true then p :: q :: r else q :: insR lt p r
def sortR (lt : α → α → Bool) (l : List α) : List α := l.foldl (fun acc p => insR lt p acc) []

theorem insR_perm (p : α) (l : List α) : (insR lt p l).Perm (p :: l) := by
  induction l with
  | nil => exact List.Perm.refl _
  | cons q r ih =>
    unfold insR
    split
    · exact List.Perm.refl _
    · exact (List.Perm.cons q ih).trans (List.Perm.swap p q r)
theorem insR_len (p : α) (l : List α) : (insR lt p l).length = l.length + 1 := by rw [(insR_perm p l).length_eq]; rfl
theorem insR_all (p : α) {l : List α} (h : ∀ a ∈ l, lt p a = true) : insR lt p l = p :: l := by
  cases l with
  | nil => rfl
  | cons q r => unfold insR; rw [if_pos (by rw [List.all_eq_true]; exact h)]
theorem insR_front (b : α) {x : α} (l : List α) (h : lt b x = false) : insR lt b (x :: l) = x :: insR lt b l := by
  conv => lhs; unfold insR
  rw [if_neg (by rw [List.all_cons, h]; simp)]
/-- Where it is put. -/
theorem insR_at (p : α) : ∀ (l : List α) (j : Nat), j ≤ l.length → (∀ (i : Nat) (h : i < l.length), j ≤ i → lt p l[i] = true) → (∀ (h : j - 1 < l.length), 0 < j → lt p l[j - 1] = false) →
    l.take j ++ p :: l.drop j = insR lt p l
  | [], j, hj, h1, h2 => by simp [insR]
  | q :: r, 0, hj, h1, h2 => by
    rw [insR_all p (fun a ha => by obtain ⟨i, hi, rfl⟩ := List.getElem_of_mem ha; exact h1 i hi (Nat.zero_le _))]
    rfl
  | q :: r, j + 1, hj, h1, h2 => by
    have hj' : j ≤ r.length := by simpa using hj
    have ih := insR_at p r j hj' (fun i h hi => h1 (i + 1) (by simpa using h) (by omega)) (fun h h0 => by
      have := h2 (by simp; omega) (by omega)
      obtain ⟨m, rfl⟩ : ∃ m, j = m + 1 := ⟨j - 1, by omega⟩
      simpa using this)
    have hf := h2 (by simp; omega) (by omega)
    conv => rhs; unfold insR
    rw [if_neg, ← ih]
    · rfl
    · intro ha
      rw [List.all_eq_true] at ha
      have := ha _ (List.getElem_mem (show j + 1 - 1 < (q :: r).length by simp; omega))
      rw [hf] at this
      cases this
theorem insR_asc (h : Ahead lt) (p : α) {l : List α} (hl : Asc lt l) : Asc lt (insR lt p l) := by
  induction l with
  | nil => exact List.pairwise_singleton _ _
  | cons q r ih =>
    have hq := List.pairwise_cons.1 hl
    unfold insR
    split
    · rename_i ha
      rw [List.all_eq_true] at ha
      exact List.pairwise_cons.2 ⟨fun a ha' => h.asymm _ _ (ha a ha'), hl⟩
    · rename_i ha
      refine List.pairwise_cons.2 ⟨fun y hy => ?_, ih hq.2⟩
      rcases List.mem_cons.1 ((insR_perm p r).mem_iff.1 hy) with rfl | hy
      · have hz : ∃ z ∈ q :: r, lt y z = false := by
          by_cases hx : ∃ z ∈ q :: r, lt y z = false
          · exact hx
          · exfalso
            apply ha
            rw [List.all_eq_true]
            intro z hz
            cases e : lt y z
            · exact absurd ⟨z, hz, e⟩ hx
            · rfl
        obtain ⟨z, hz, e⟩ := hz
        refine h.negtrans _ z _ e ?_
        rcases List.mem_cons.1 hz with rfl | hz
        · exact h.irrefl z
        · exact hq.1 z hz
      · exact hq.1 y hy
theorem insR_last (p : α) {l : List α} (h : ∀ a ∈ l, lt p a = false) : insR lt p l = l ++ [p] := by
  induction l with
  | nil => rfl
  | cons q r ih =>
    rw [insR_front p r (h q List.mem_cons_self), ih (fun a ha => h a (List.mem_cons_of_mem _ ha))]
    rfl
theorem sortR_snoc (l : List α) (p : α) : sortR lt (l ++ [p]) = insR lt p (sortR lt l) := by simp [sortR]
theorem sortR_perm (l : List α) : (sortR lt l).Perm l := by
  have key : ∀ (l acc : List α), (l.foldl (fun acc p => insR lt p acc) acc).Perm (acc ++ l) := by
    intro l
    induction l with
    | nil => intro acc; simp
    | cons p r ih =>
      intro acc
      refine (ih _).trans ?_
      refine ((insR_perm p acc).append_right r).trans ?_
      exact List.perm_middle.symm
  simpa [sortR] using key l []
theorem sortR_len (l : List α) : (sortR lt l).length = l.length := (sortR_perm l).length_eq
theorem sortR_mem {l : List α} {x : α} : x ∈ sortR lt l ↔ x ∈ l := (sortR_perm l).mem_iff
theorem foldR_asc (h : Ahead lt) : ∀ (l acc : List α), Asc lt acc → Asc lt (l.foldl (fun acc p => insR lt p acc) acc)
  | [], _, ha => ha
  | p :: r, acc, ha => foldR_asc h r _ (insR_asc h p ha)
theorem sortR_asc (h : Ahead lt) (l : List α) : Asc lt (sortR lt l) := foldR_asc h l [] List.Pairwise.nil
theorem sortR_id {l : List α} (h : Asc lt l) : sortR lt l = l := by
  have key : ∀ (l acc : List α), Asc lt (acc ++ l) → l.foldl (fun acc p => insR lt p acc) acc = acc ++ l := by
    intro l
    induction l with
    | nil => intro acc _; simp
    | cons p r ih =>
      intro acc ha
      have hp : ∀ a ∈ acc, lt p a = false := fun a haa => (List.pairwise_append.1 ha).2.2 a haa p List.mem_cons_self
      rw [List.foldl_cons, insR_last p hp, ih _ (by rw [List.append_assoc]; exact ha), List.append_assoc]
      rfl
  simpa [sortR] using key l [] h
theorem foldR_front {x : α} : ∀ (l acc : List α), (∀ b ∈ l, lt b x = false) → l.foldl (fun acc p => insR lt p acc) (x :: acc) = x :: l.foldl (fun acc p => insR lt p acc) acc
  | [], _, _ => rfl
  | p :: r, acc, h => by
    rw [List.foldl_cons, List.foldl_cons, insR_front p acc (h p List.mem_cons_self)]
    exact foldR_front r _ (fun b hb => h b (List.mem_cons_of_mem _ hb))
/-- What is ahead of all that stood ahead of it, and not behind anything: it comes first. -/
theorem sortR_front {x : α} {A B : List α} (hA : ∀ a ∈ A, lt x a = true) (hB : ∀ b ∈ B, lt b x = false) : sortR lt (A ++ x :: B) = x :: sortR lt (A ++ B) := by
  unfold sortR
  rw [List.foldl_append, List.foldl_cons, List.foldl_append]
  have hx : insR lt x (A.foldl (fun acc p => insR lt p acc) []) = x :: A.foldl (fun acc p => insR lt p acc) [] :=
    insR_all x (fun a ha => hA a (sortR_mem.1 (show a ∈ sortR lt A from ha)))
  rw [hx, foldR_front _ _ hB]

/-- Lists, the k-th of which has x in front: x is ahead of what stands first of those ahead of it, and not behind what stands first of those behind it. -/
theorem sortR_heads (h : Ahead lt) {L : List (List α)} (hs : ∀ l ∈ L, Asc lt l) {k : Nat} (hk : k < L.length) {x : α} {r : List α} (he : L[k] = x :: r)
    (h1 : ∀ (i : Nat) (hi : i < L.length), i < k → ∀ y ys, L[i] = y :: ys → lt x y = true)
    (h2 : ∀ (i : Nat) (hi : i < L.length), k < i → ∀ y ys, L[i] = y :: ys → lt y x = false) :
    sortR lt L.flatten = x :: sortR lt (L.set k r).flatten := by
  have e1 : L = L.take k ++ (x :: r) :: L.drop (k + 1) := by rw [← he, List.getElem_cons_drop hk, List.take_append_drop]
  have e2 : L.set k r = L.take k ++ r :: L.drop (k + 1) := by rw [List.set_eq_take_append_cons_drop, if_pos hk]
  rw [e2]
  conv => lhs; rw [e1]
  rw [List.flatten_append, List.flatten_cons, List.cons_append, List.flatten_append, List.flatten_cons]
  have first : ∀ l ∈ L, ∀ a ∈ l, ∃ y ys, l = y :: ys ∧ lt a y = false := fun l hl a ha => by
    cases l with
    | nil => cases ha
    | cons y ys =>
      refine ⟨y, ys, rfl, ?_⟩
      rcases List.mem_cons.1 ha with rfl | ha
      · exact h.irrefl a
      · exact (List.pairwise_cons.1 (hs _ hl)).1 a ha
  refine sortR_front (fun a ha => ?_) (fun b hb => ?_)
  · obtain ⟨l, hl, ha⟩ := List.mem_flatten.1 ha
    obtain ⟨i, hi, rfl⟩ := List.getElem_of_mem hl
    rw [List.length_take] at hi
    rw [List.getElem_take] at ha
    obtain ⟨y, ys, e, hy⟩ := first _ (List.getElem_mem (by omega)) a ha
    exact h.lt_le (h1 i (by omega) (by omega) y ys e) hy
  · rcases List.mem_append.1 hb with hb | hb
    · have := hs _ (List.getElem_mem hk)
      rw [he] at this
      exact (List.pairwise_cons.1 this).1 b hb
    · obtain ⟨l, hl, hb⟩ := List.mem_flatten.1 hb
      obtain ⟨i, hi, rfl⟩ := List.getElem_of_mem hl
      rw [List.length_drop] at hi
      rw [List.getElem_drop] at hb
      obtain ⟨y, ys, e, hy⟩ := first _ (List.getElem_mem (by omega)) b hb
      exact h.negtrans _ y _ hy (h2 (k + 1 + i) (by omega) (by omega) y ys e)
end
end Go.Proofs.Ytlpakooogbaclaa
