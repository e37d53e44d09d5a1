/- Layer 10, plain: a heap in a list: what goes up, what goes down, what stands at its root. -/
import Derived.Test.YtnioiojafnkmhaaMa
namespace Go.Proofs.Ytnioiojafnkmhaa
set_option linter.unusedVariables false
section
variable {α : Type} {lt : α → α → Bool}
theorem Ahead.trans (h : Ahead lt) {a b c : α} (h1 : lt a b = true) (h2 : lt b c = true) : lt a c = true := h.lt_le h1 (h.asymm _ _ h2)

def swapL (xs : List α) (i j : Nat) : List α :=
  match xs[i]?, xs[j]? with
  | some a, some b => (xs.set i b).set j a
  | _, _ => xs
theorem swap_eq {xs : List α} {i j : Nat} (hi : i < xs.length) (hj : j < xs.length) : swapL xs i j = (xs.set i xs[j]).set j xs[i] := by
  unfold swapL
  rw [List.getElem?_eq_getElem hi, List.getElem?_eq_getElem hj]
theorem swap_len (xs : List α) (i j : Nat) : (swapL xs i j).length = xs.length := by
  unfold swapL; split <;> simp
theorem swap_get {xs : List α} {i j : Nat} (hi : i < xs.length) (hj : j < xs.length) (k : Nat) : (swapL xs i j)[k]? = if k = j then xs[i]? else if k = i then xs[j]? else xs[k]? := by
  rw [swap_eq hi hj, List.getElem?_set]
  simp only [List.length_set]
  split
  · rename_i e; subst e; rw [if_pos rfl, List.getElem?_eq_getElem hi]
  · rename_i e
    rw [if_neg (fun h => e h.symm), List.getElem?_set]
    split
    · rename_i e2; subst e2; rw [if_pos rfl, List.getElem?_eq_getElem hj]
    · rename_i e2; rw [if_neg (fun h => e2 h.symm)]
theorem swap_perm {xs : List α} {i j : Nat} : (swapL xs i j).Perm xs := by
  unfold swapL
  split
  · rename_i a b ha hb
    obtain ⟨hi, rfl⟩ := List.getElem?_eq_some_iff.1 ha
    obtain ⟨hj, rfl⟩ := List.getElem?_eq_some_iff.1 hb
    exact List.set_set_perm hi hj
  · exact List.Perm.refl _

def HeapTo (lt : α → α → Bool) (xs : List α) (n : Nat) : Prop := ∀ (k : Nat) (a b : α), 0 < k → k < n → xs[k]? = some a → xs[(k - 1) / 2]? = some b → lt a b = false
/-- All but what stands at j, which may have to go up. -/
structure UpTo (lt : α → α → Bool) (xs : List α) (n j : Nat) : Prop where
  here : ∀ (k : Nat) (a b : α), 0 < k → k < n → k ≠ j → xs[k]? = some a → xs[(k - 1) / 2]? = some b → lt a b = false
  past : ∀ (c : Nat) (a b : α), 0 < j → 0 < c → c < n → (c - 1) / 2 = j → xs[c]? = some a → xs[(j - 1) / 2]? = some b → lt a b = false
/-- All but what stands at i, which may have to go down. -/
structure DownTo (lt : α → α → Bool) (xs : List α) (n i : Nat) : Prop where
  here : ∀ (k : Nat) (a b : α), 0 < k → k < n → (k - 1) / 2 ≠ i → xs[k]? = some a → xs[(k - 1) / 2]? = some b → lt a b = false
  past : ∀ (c : Nat) (a b : α), 0 < i → 0 < c → c < n → (c - 1) / 2 = i → xs[c]? = some a → xs[(i - 1) / 2]? = some b → lt a b = false

theorem UpTo.stop {xs : List α} {n j : Nat} (h : UpTo lt xs n j) (hs : j = 0 ∨ ∀ a b, xs[j]? = some a → xs[(j - 1) / 2]? = some b → lt a b = false) : HeapTo lt xs n := fun k a b h0 hk ha hb => by
  by_cases e : k = j
  · subst e
    rcases hs with e | hs
    · omega
    · exact hs a b ha hb
  · exact h.here k a b h0 hk e ha hb
theorem UpTo.step (o : Ahead lt) {xs : List α} {n j : Nat} (h : UpTo lt xs n j) (hn : n ≤ xs.length) (hj : j < n) (h0 : 0 < j) {x y : α} (hx : xs[j]? = some x) (hy : xs[(j - 1) / 2]? = some y) (hl : lt x y = true) :
    UpTo lt (swapL xs ((j - 1) / 2) j) n ((j - 1) / 2) := by
  have hp : (j - 1) / 2 < j := by omega
  have G := swap_get (xs := xs) (i := (j - 1) / 2) (j := j) (by omega) (by omega)
  generalize hq : (j - 1) / 2 = p at *
  refine ⟨fun k a b hk0 hk hkp ha hb => ?_, fun c a b hp0 hc0 hc hcp ha hb => ?_⟩
  · rw [G] at ha hb
    by_cases e : k = j
    · subst e
      rw [if_pos rfl, hy] at ha
      rw [hq, if_neg (by omega), if_pos rfl, hx] at hb
      cases ha; cases hb
      exact o.asymm _ _ hl
    · rw [if_neg e, if_neg hkp] at ha
      by_cases e2 : (k - 1) / 2 = p
      · rw [e2, if_neg (by omega), if_pos rfl, hx] at hb
        cases hb
        have h1 := h.here k a y hk0 hk e ha (by rw [e2]; exact hy)
        cases e3 : lt a x
        · rfl
        · rw [o.trans e3 hl] at h1; cases h1
      · by_cases e4 : (k - 1) / 2 = j
        · rw [if_pos e4, hy] at hb
          cases hb
          exact h.past k a _ h0 hk0 hk e4 ha (by rw [hq]; exact hy)
        · rw [if_neg e4, if_neg e2] at hb
          exact h.here k a b hk0 hk e ha hb
  · rw [G] at ha hb
    rw [if_neg (by omega), if_neg (by omega)] at hb
    have hyz : lt y b = false := h.here p y b hp0 (by omega) (by omega) hy hb
    by_cases e : c = j
    · subst e
      rw [if_pos rfl, hy] at ha
      cases ha
      exact hyz
    · rw [if_neg e, if_neg (by omega)] at ha
      exact o.negtrans _ _ _ (h.here c a y hc0 hc e ha (by rw [hcp]; exact hy)) hyz
theorem DownTo.stop (o : Ahead lt) {xs : List α} {n i : Nat} (h : DownTo lt xs n i) (hs : ∀ (c : Nat) (a b : α), 0 < c → c < n → (c - 1) / 2 = i → xs[c]? = some a → xs[i]? = some b → lt a b = false) : HeapTo lt xs n := fun k a b h0 hk ha hb => by
  by_cases e : (k - 1) / 2 = i
  · exact hs k a b h0 hk e ha (by rw [← e]; exact hb)
  · exact h.here k a b h0 hk e ha hb
theorem DownTo.step (o : Ahead lt) {xs : List α} {n i j : Nat} (h : DownTo lt xs n i) (hn : n ≤ xs.length) (hj : j < n) (h0 : 0 < j) (hi : (j - 1) / 2 = i) {x y : α} (hx : xs[i]? = some x) (hy : xs[j]? = some y) (hl : lt y x = true)
    (hm : ∀ (c : Nat) (a : α), 0 < c → c < n → (c - 1) / 2 = i → xs[c]? = some a → lt a y = false) :
    DownTo lt (swapL xs i j) n j := by
  have hij : i < j := by omega
  have G := swap_get (xs := xs) (i := i) (j := j) (by omega) (by omega)
  refine ⟨fun k a b hk0 hk hkp ha hb => ?_, fun c a b hp0 hc0 hc hcp ha hb => ?_⟩
  · rw [G] at ha hb
    rw [if_neg hkp] at hb
    by_cases e : k = j
    · subst e
      rw [if_pos rfl, hx] at ha
      rw [if_pos hi, hy] at hb
      cases ha; cases hb
      exact o.asymm _ _ hl
    · rw [if_neg e] at ha
      by_cases e2 : k = i
      · subst e2
        rw [if_pos rfl, hy] at ha
        rw [if_neg (by omega)] at hb
        cases ha
        exact h.past j _ b hk0 h0 hj hi hy hb
      · rw [if_neg e2] at ha
        by_cases e3 : (k - 1) / 2 = i
        · rw [if_pos e3, hy] at hb
          cases hb
          exact hm k a hk0 hk e3 ha
        · rw [if_neg e3] at hb
          exact h.here k a b hk0 hk e3 ha hb
  · rw [G] at ha hb
    rw [if_neg (by omega), if_neg (by omega)] at ha
    rw [hi, if_neg (by omega), if_pos rfl, hy] at hb
    cases hb
    exact h.here c a _ hc0 hc (by omega) ha (by rw [hcp]; exact hy)
/-- The root is behind nothing. -/
theorem HeapTo.root (o : Ahead lt) {xs : List α} {n : Nat} (h : HeapTo lt xs n) (hn : n ≤ xs.length) {r : α} (hr : xs[0]? = some r) : ∀ (k : Nat), k < n → ∀ a, xs[k]? = some a → lt a r = false := by
  intro k
  induction k using Nat.strongRecOn with
  | ind k ih =>
    intro hk a ha
    by_cases e : k = 0
    · subst e; rw [hr] at ha; cases ha; exact o.irrefl _
    · have hp : (k - 1) / 2 < xs.length := by omega
      exact o.negtrans _ _ _ (h k a _ (by omega) hk ha (List.getElem?_eq_getElem hp)) (ih _ (by omega) (by omega) _ (List.getElem?_eq_getElem hp))
/-- One more behind the heap. -/
theorem HeapTo.up {xs : List α} {n : Nat} (h : HeapTo lt xs n) (x : α) (hn : n = xs.length) : UpTo lt (xs ++ [x]) (n + 1) n := by
  subst hn
  refine ⟨fun k a b h0 hk hne ha hb => ?_, fun c a b h0 hc0 hc hcj ha hb => by omega⟩
  rw [List.getElem?_append_left (by omega)] at ha hb
  exact h k a b h0 (by omega) ha hb
/-- The root put at the end, and the end at the root. -/
theorem HeapTo.down {xs : List α} {m : Nat} (h : HeapTo lt xs (m + 1)) (hm : m + 1 = xs.length) : DownTo lt (swapL xs 0 m) m 0 := by
  refine ⟨fun k a b h0 hk hne ha hb => ?_, fun c a b h0 => absurd h0 (by omega)⟩
  rw [swap_get (by omega) (by omega)] at ha hb
  rw [if_neg (by omega), if_neg (by omega)] at ha hb
  exact h k a b h0 (by omega) ha hb
theorem HeapTo.less {xs : List α} {m n : Nat} (h : HeapTo lt xs n) (hm : m ≤ n) : HeapTo lt xs m := fun k a b h0 hk ha hb => h k a b h0 (by omega) ha hb
theorem HeapTo.cut {xs : List α} {n : Nat} (h : HeapTo lt xs n) : HeapTo lt (xs.take n) n := fun k a b h0 hk ha hb => by
  rw [List.getElem?_take_of_lt hk] at ha
  rw [List.getElem?_take_of_lt (by omega)] at hb
  exact h k a b h0 hk ha hb
end
end Go.Proofs.Ytnioiojafnkmhaa
