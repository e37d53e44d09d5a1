/- Layer 12, plain: lists whose levels are all 1. -/
import Derived.Test.YtlihiojdjcmggaaSp
namespace Go.Proofs.Ytlihiojdjcmggaa
open Go.RowKit
set_option linter.unusedVariables false

def flatI (l : List It) : List It := l.map fun x => ⟨x.key, 1, x.v⟩
theorem flat_len (l : List It) : (flatI l).length = l.length := by rw [flatI, List.length_map]
theorem flat_at (key : ByteArray) : ∀ l : List It, atI key (flatI l) = atI key l
  | [] => rfl
  | x :: r => by
    have := flat_at key r
    simp only [flatI, List.map_cons, atI] at this ⊢
    rw [this]
theorem flat_here (l : List It) (key : ByteArray) : hereI (flatI l) key = hereI l key := by
  unfold hereI
  rw [flat_at, flatI, List.getElem?_map]
  cases l[atI key l]? <;> rfl
theorem flat_take (l : List It) (k : Nat) : flatI (l.take k) = (flatI l).take k := by simp [flatI, List.map_take]
theorem flat_drop (l : List It) (k : Nat) : flatI (l.drop k) = (flatI l).drop k := by simp [flatI, List.map_drop]
theorem flat_app (a b : List It) : flatI (a ++ b) = flatI a ++ flatI b := by simp [flatI]
theorem flat_put (l : List It) (key : ByteArray) (lv v : Int) : (putI (flatI l) key 1 v).1 = flatI (putI l key lv v).1 := by
  unfold putI
  rw [flat_here, flat_at]
  cases hh : hereI l key
  · rw [if_neg (by decide), if_neg (by decide)]
    simp only [flat_app, flat_take, flat_drop]
    rfl
  · rw [if_pos rfl, if_pos rfl]
    obtain ⟨hlt, -⟩ := here_lt hh
    simp only [flat_app, flat_take, flat_drop]
    have : levI (flatI l) (atI key l) = 1 := by
      unfold levI
      rw [flatI, List.getElem?_map, List.getElem?_eq_getElem hlt]
      rfl
    rw [this]
    rfl
theorem flat_dropI (l : List It) (key : ByteArray) : (dropI (flatI l) key).1 = flatI (dropI l key).1 := by
  unfold dropI
  rw [flat_here, flat_at]
  cases hereI l key
  · rw [if_neg (by decide), if_neg (by decide)]
  · rw [if_pos rfl, if_pos rfl]
    simp only [flat_app, flat_take, flat_drop]
theorem flat_do (l : List It) (a b c : Int) (s : ByteArray) : doI (flatI l) ⟨a, 1, c, s⟩ = flatI (doI l ⟨a, b, c, s⟩) := by
  unfold doI
  simp only
  split
  · exact flat_put _ _ _ _
  · split
    · exact flat_dropI _ _
    · rfl
theorem flat_floor (l : List It) (key : ByteArray) : floorI (flatI l) key = floorI l key := by
  unfold floorI
  rw [flat_here, flat_at]
  cases hereI l key
  · rw [if_neg (by decide), if_neg (by decide), ← flat_take, flatI, List.getLast?_map]
    cases (l.take (atI key l)).getLast? <;> rfl
  · rw [if_pos rfl, if_pos rfl]
theorem flat_row {l : List It} (h : ∀ x ∈ l, 1 ≤ x.level) : rowI (flatI l) 1 = rowI l 1 := by
  rw [row_one h, row_one (fun x hx => by
    obtain ⟨y, -, rfl⟩ := List.mem_map.1 hx
    exact Int.le_refl _), flatI, List.map_map]
  rfl
theorem flat_height (l : List It) : heightI (flatI l) ≤ 1 := by
  have h : ∀ (l : List It) (n : Int), n ≤ 1 → heightGo n (flatI l) ≤ 1 := by
    intro l
    induction l with
    | nil => intro n hn; exact hn
    | cons x r ih =>
      intro n hn
      simp only [flatI, List.map_cons, heightGo] at ih ⊢
      exact ih _ (by split <;> omega)
  exact h l 0 (by omega)
end Go.Proofs.Ytlihiojdjcmggaa
