/- Layer 5, plain facts: rectangles, and what the document tells of them. -/
import Derived.Test.YtjfneppjdgfecaaSm
namespace Go.Proofs.Ytjfneppjdgfecaa
open Go.RowKit
set_option linter.unusedVariables false

/-- A rectangle: its epochs, its times. -/
abbrev Re := Sp × Sp
def r0 : Re := ((0, 0), (0, 0))
def rMay (r : Re) : Bool := mayB r.1 && mayB r.2
def rHas (r : Re) (e t : Int) : Bool := hasB r.1 e && hasB r.2 t
def rTurn (r : Re) : Re := (r.2, r.1)
def rMeet (a b : Re) : Re × Bool := if (meetF a.1 b.1).2 = true ∧ (meetF a.2 b.2).2 = true then (((meetF a.1 b.1).1, (meetF a.2 b.2).1), true) else (r0, false)
/-- The four sides of what two have in common. -/
def rFour (a m : Re) : List Re := [((a.1.1, m.1.1), a.2), ((m.1.2, a.1.2), a.2), (m.1, (a.2.1, m.2.1)), (m.1, (m.2.2, a.2.2))]
def rMinus (a b : Re) : List Re := if rMay a = true then (if (rMeet a b).2 = true then (rFour a (rMeet a b).1).filter rMay else [a]) else []
def rStep (left : List Re) (b : Re) : List Re := left.flatMap fun x => rMinus x b
def rCover (r : Re) (l : List Re) : List Re := l.foldl rStep (if rMay r = true then [r] else [])
def rArea (r : Re) : Int := if rMay r = true then (if r.1.2 - r.1.1 > 4611686018427387904 / (r.2.2 - r.2.1) then 4611686018427387904 else (r.1.2 - r.1.1) * (r.2.2 - r.2.1)) else 0

theorem rMay_iff {r : Re} : rMay r = true ↔ mayB r.1 = true ∧ mayB r.2 = true := by simp [rMay]
theorem rHas_iff {r : Re} {e t : Int} : rHas r e t = true ↔ hasB r.1 e = true ∧ hasB r.2 t = true := by simp [rHas]
theorem rMeet_pos {a b : Re} (h1 : (meetF a.1 b.1).2 = true) (h2 : (meetF a.2 b.2).2 = true) : rMeet a b = (((meetF a.1 b.1).1, (meetF a.2 b.2).1), true) := if_pos ⟨h1, h2⟩
theorem rMeet_neg {a b : Re} (h : ¬ ((meetF a.1 b.1).2 = true ∧ (meetF a.2 b.2).2 = true)) : rMeet a b = (r0, false) := if_neg h
theorem rMeet_turn (a b : Re) : rMeet (rTurn a) (rTurn b) = (rTurn (rMeet a b).1, (rMeet a b).2) := by
  by_cases h : (meetF a.1 b.1).2 = true ∧ (meetF a.2 b.2).2 = true
  · rw [rMeet_pos h.1 h.2, rMeet_pos (a := rTurn a) (b := rTurn b) h.2 h.1]; rfl
  · rw [rMeet_neg h, rMeet_neg (a := rTurn a) (b := rTurn b) (fun k => h ⟨k.2, k.1⟩)]; rfl
theorem rMeet_bad {a b : Re} (h : ¬ (rMay a = true ∧ rMay b = true)) : rMeet a b = (r0, false) := by
  refine rMeet_neg fun k => h ?_
  have h1 := meet_in k.1
  have h2 := meet_in k.2
  exact ⟨rMay_iff.2 ⟨h1.2.2.2.2.2.1, h2.2.2.2.2.2.1⟩, rMay_iff.2 ⟨h1.2.2.2.2.2.2, h2.2.2.2.2.2.2⟩⟩
theorem rMeet_has (a b : Re) (e t : Int) : ((rMeet a b).2 && rHas (rMeet a b).1 e t) = (rHas a e t && rHas b e t) := by
  have h1 := meet_has a.1 b.1 e
  have h2 := meet_has a.2 b.2 t
  unfold rHas
  by_cases h : (meetF a.1 b.1).2 = true ∧ (meetF a.2 b.2).2 = true
  · rw [rMeet_pos h.1 h.2]
    rw [h.1] at h1
    rw [h.2] at h2
    simp only [Bool.true_and] at h1 h2 ⊢
    rw [h1, h2]
    cases hasB a.1 e <;> cases hasB b.1 e <;> cases hasB a.2 t <;> cases hasB b.2 t <;> rfl
  · rw [rMeet_neg h]
    simp only [Bool.false_and]
    rcases Decidable.not_and_iff_not_or_not.1 h with k | k
    · rw [show (meetF a.1 b.1).2 = false from by simpa using k, Bool.false_and] at h1
      clear h2
      generalize hasB a.1 e = x1 at *
      generalize hasB b.1 e = x2 at *
      generalize hasB a.2 t = x3 at *
      generalize hasB b.2 t = x4 at *
      cases x1 <;> cases x2 <;> cases x3 <;> cases x4 <;> first | rfl | cases h1
    · rw [show (meetF a.2 b.2).2 = false from by simpa using k, Bool.false_and] at h2
      clear h1
      generalize hasB a.1 e = x1 at *
      generalize hasB b.1 e = x2 at *
      generalize hasB a.2 t = x3 at *
      generalize hasB b.2 t = x4 at *
      cases x1 <;> cases x2 <;> cases x3 <;> cases x4 <;> first | rfl | cases h2

/-- A point lies in at most one side, and in one just if it lies in the one and not in the other. -/
def rMany (l : List Re) (e t : Int) : Nat := (l.filter fun r => rHas r e t).length
theorem rMany_append (l m : List Re) (e t : Int) : rMany (l ++ m) e t = rMany l e t + rMany m e t := by simp [rMany]
theorem rMany_nil (e t : Int) : rMany [] e t = 0 := rfl
theorem rMany_cons (r : Re) (l : List Re) (e t : Int) : rMany (r :: l) e t = (if rHas r e t = true then 1 else 0) + rMany l e t := by
  unfold rMany
  rw [List.filter_cons]
  split <;> simp; omega
theorem rHas_may {r : Re} {e t : Int} (h : rHas r e t = true) : rMay r = true := rMay_iff.2 ⟨(hasB_iff.1 (rHas_iff.1 h).1).1, (hasB_iff.1 (rHas_iff.1 h).2).1⟩
theorem rMany_may (l : List Re) (e t : Int) : rMany (l.filter rMay) e t = rMany l e t := by
  unfold rMany
  rw [List.filter_filter]
  congr 2
  funext r
  cases h : rHas r e t
  · rfl
  · rw [rHas_may h]; rfl
/-- A span is what lies ahead of a part of it, the part, and what lies behind. -/
theorem has_parts {s m : Sp} (h : mayB m = true) (h1 : s.1 ≤ m.1) (h2 : m.2 ≤ s.2) (hs : mayB s = true) (x : Int) :
    (if hasB (s.1, m.1) x = true then 1 else 0) + (if hasB (m.2, s.2) x = true then 1 else 0) + (if hasB m x = true then 1 else 0) = (if hasB s x = true then 1 else 0 : Nat) := by
  have hm' := mayB_iff.1 h
  have hs' := mayB_iff.1 hs
  have k1 : hasB (s.1, m.1) x = decide (s.1 ≤ x ∧ x < m.1) := by
    rw [Bool.eq_iff_iff, hasB_iff, mayB_iff, decide_eq_true_iff]; simp only; omega
  have k2 : hasB (m.2, s.2) x = decide (m.2 ≤ x ∧ x < s.2) := by
    rw [Bool.eq_iff_iff, hasB_iff, mayB_iff, decide_eq_true_iff]; simp only; omega
  have k3 : hasB m x = decide (m.1 ≤ x ∧ x < m.2) := by rw [Bool.eq_iff_iff, hasB_iff, decide_eq_true_iff]; simp [h]
  have k4 : hasB s x = decide (s.1 ≤ x ∧ x < s.2) := by rw [Bool.eq_iff_iff, hasB_iff, decide_eq_true_iff]; simp [hs]
  rw [k1, k2, k3, k4]
  simp only [decide_eq_true_eq]
  by_cases p1 : s.1 ≤ x ∧ x < m.1
  · rw [if_pos p1, if_neg (by omega), if_neg (by omega), if_pos (by omega)]
  · by_cases p2 : m.2 ≤ x ∧ x < s.2
    · rw [if_neg p1, if_pos p2, if_neg (by omega), if_pos (by omega)]
    · by_cases p3 : m.1 ≤ x ∧ x < m.2
      · rw [if_neg p1, if_neg p2, if_pos p3, if_pos (by omega)]
      · rw [if_neg p1, if_neg p2, if_neg p3, if_neg (by omega)]
theorem rHas_num (r : Re) (e t : Int) : (if rHas r e t = true then 1 else 0 : Nat) = (if hasB r.1 e = true then 1 else 0) * (if hasB r.2 t = true then 1 else 0) := by
  unfold rHas
  cases hasB r.1 e <;> cases hasB r.2 t <;> rfl
theorem four_many {a m : Re} (ha : rMay a = true) (hm : rMay m = true) (h1 : a.1.1 ≤ m.1.1) (h2 : m.1.2 ≤ a.1.2) (h3 : a.2.1 ≤ m.2.1) (h4 : m.2.2 ≤ a.2.2) (e t : Int) :
    rMany (rFour a m) e t + (if rHas m e t = true then 1 else 0) = (if rHas a e t = true then 1 else 0) := by
  have p1 := has_parts (rMay_iff.1 hm).1 h1 h2 (rMay_iff.1 ha).1 e
  have p2 := has_parts (rMay_iff.1 hm).2 h3 h4 (rMay_iff.1 ha).2 t
  unfold rFour
  rw [rMany_cons, rMany_cons, rMany_cons, rMany_cons, rMany_nil, rHas_num, rHas_num, rHas_num, rHas_num, rHas_num, rHas_num]
  simp only
  generalize (if hasB (a.1.1, m.1.1) e = true then 1 else 0 : Nat) = x1 at *
  generalize (if hasB (m.1.2, a.1.2) e = true then 1 else 0 : Nat) = x2 at *
  generalize (if hasB m.1 e = true then 1 else 0 : Nat) = x3 at *
  generalize (if hasB (a.2.1, m.2.1) t = true then 1 else 0 : Nat) = y1 at *
  generalize (if hasB (m.2.2, a.2.2) t = true then 1 else 0 : Nat) = y2 at *
  generalize (if hasB m.2 t = true then 1 else 0 : Nat) = y3 at *
  rw [← p1, ← p2]
  simp only [Nat.add_mul, Nat.mul_add, Nat.add_zero]
  omega
theorem minus_many (a b : Re) (e t : Int) : rMany (rMinus a b) e t = if (rHas a e t && !rHas b e t) = true then 1 else 0 := by
  unfold rMinus
  by_cases ha : rMay a = true
  · rw [if_pos ha]
    have hh := rMeet_has a b e t
    by_cases hm : (meetF a.1 b.1).2 = true ∧ (meetF a.2 b.2).2 = true
    · have i1 := meet_in hm.1
      have i2 := meet_in hm.2
      rw [rMeet_pos hm.1 hm.2] at hh ⊢
      simp only [if_true, Bool.true_and] at hh ⊢
      have := four_many (a := a) (m := ((meetF a.1 b.1).1, (meetF a.2 b.2).1)) ha (rMay_iff.2 ⟨i1.1, i2.1⟩) i1.2.1 i1.2.2.1 i2.2.1 i2.2.2.1 e t
      rw [rMany_may]
      rw [hh] at this
      cases h1 : rHas a e t <;> cases h2 : rHas b e t <;> rw [h1, h2] at this <;> simp at this ⊢ <;> omega
    · rw [rMeet_neg hm] at hh ⊢
      simp only [Bool.false_and] at hh
      rw [if_neg (by simp), rMany_cons, rMany_nil]
      cases h1 : rHas a e t <;> cases h2 : rHas b e t <;> rw [h1, h2] at hh <;> simp at hh ⊢
  · rw [if_neg ha, rMany_nil]
    have : rHas a e t = false := by
      rw [← Bool.not_eq_true]; exact fun h => ha (rHas_may h)
    simp [this]
theorem step_many (left : List Re) (b : Re) (e t : Int) : rMany (rStep left b) e t = if rHas b e t = true then 0 else rMany left e t := by
  unfold rStep
  induction left with
  | nil => simp [rMany]
  | cons x left ih =>
    rw [List.flatMap_cons, rMany_append, ih, minus_many, rMany_cons]
    cases rHas b e t <;> cases rHas x e t <;> simp
/-- A point lies in what is left just if it lies in the one, and in none of the others, and in one of what is left. -/
theorem cover_many (r : Re) (l : List Re) (e t : Int) : rMany (rCover r l) e t = if (rHas r e t && l.all fun b => !rHas b e t) = true then 1 else 0 := by
  have key : ∀ (l left : List Re), rMany (l.foldl rStep left) e t = if (l.all fun b => !rHas b e t) = true then rMany left e t else 0 := by
    intro l
    induction l with
    | nil => intro left; simp
    | cons b l ih =>
      intro left
      rw [List.foldl_cons, ih, step_many, List.all_cons]
      generalize (l.all fun b => !rHas b e t) = y
      cases rHas b e t <;> cases y <;> rfl
  unfold rCover
  rw [key]
  by_cases hr : rMay r = true
  · rw [if_pos hr, rMany_cons, rMany_nil]
    cases rHas r e t <;> cases (l.all fun b => !rHas b e t) <;> rfl
  · rw [if_neg hr, rMany_nil]
    have : rHas r e t = false := by
      rw [← Bool.not_eq_true]; exact fun h => hr (rHas_may h)
    simp [this]
end Go.Proofs.Ytjfneppjdgfecaa
