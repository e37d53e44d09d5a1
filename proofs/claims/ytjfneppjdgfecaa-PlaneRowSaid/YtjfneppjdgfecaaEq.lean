/- Layer 5, plain facts for the laws over lists of rectangles. -/
import Derived.Test.YtjfneppjdgfecaaEo
namespace Go.Proofs.Ytjfneppjdgfecaa
open Go.RowKit
set_option linter.unusedVariables false

/-- A slice's beginning. -/
theorem RdX.head {α : Type} {L : Lay α} {w : World} {B n c : Nat} {A : Option Addr} {l : List α} (h : RdX L w B (.slice A n c) l) (k : Nat) (hk : k ≤ l.length) : RdX L w B (.slice A (l.take k).length c) (l.take k) := by
  obtain ⟨A', c', e, h1, h2, h3⟩ := h
  cases e
  have hl : (l.take k).length = k := by rw [List.length_take]; omega
  refine ⟨A, c, rfl, by omega, h2, fun hp => ?_⟩
  obtain ⟨b, o, rfl, hb, hc⟩ := h3 (by omega)
  refine ⟨b, o, rfl, hb, fun i x hi j u hj => hc i x ?_ j u hj⟩
  have hik : i < (l.take k).length := (List.getElem?_eq_some_iff.1 hi).1
  rw [List.getElem?_take_of_lt (by omega)] at hi
  exact hi
theorem all_orZ (l : List Re) (e t : Int) : ((l.map orZ).all fun b => !rHas b e t) = l.all fun b => !rHas b e t := by
  rw [List.all_map]
  congr 1
  funext b
  simp only [Function.comp, orZ_has]
theorem all_snoc {α : Type} (l : List α) (p : α → Bool) (k : Nat) (h : k < l.length) : (l.take (k + 1)).all p = ((l.take k).all p && p l[k]) := by
  rw [List.take_succ_eq_append_getElem h, List.all_append]; simp
theorem many_snoc (l : List Re) (e t : Int) (k : Nat) (h : k < l.length) : rMany (l.take (k + 1)) e t = rMany (l.take k) e t + (if rHas l[k] e t = true then 1 else 0) := by
  rw [List.take_succ_eq_append_getElem h, rMany_append, rMany_cons, rMany_nil]; omega
theorem many_le (l : List Re) (e t : Int) (k : Nat) : rMany (l.take k) e t ≤ k := by
  unfold rMany
  exact Nat.le_trans (List.length_filter_le _ _) (List.length_take_le _ _)
theorem pCover_len (r : Re) {l : List Re} (h : l.length ≤ 6) : (pCover r l).length ≤ 4096 := by
  rw [← pK_all]
  exact Nat.le_trans (pK_len r l l.length (Nat.le_refl _)) (pow4_le h)
theorem map_ok (l : List Re) : ∀ x ∈ l.map orZ, okR x := by
  intro x hx
  obtain ⟨y, _, rfl⟩ := List.mem_map.1 hx
  exact orZ_ok y
end Go.Proofs.Ytjfneppjdgfecaa
