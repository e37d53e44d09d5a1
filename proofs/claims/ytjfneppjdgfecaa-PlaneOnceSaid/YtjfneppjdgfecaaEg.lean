/- Layer 5, plain facts: rectangles of the points of one that are not of another, cut at the other's epochs and then at its times. -/
import Derived.Test.YtjfneppjdgfecaaEn
namespace Go.Proofs.Ytjfneppjdgfecaa
set_option linter.unusedVariables false

def okR (r : Re) : Prop := rMay r = true ∨ r = r0
def pMinus (a b : Re) : List Re := (minusF a.1 b.1).map (fun e => (e, a.2)) ++ (if (meetF a.1 b.1).2 = true then (minusF a.2 b.2).map (fun t => ((meetF a.1 b.1).1, t)) else [])
def pStep (left : List Re) (b : Re) : List Re := left.flatMap fun x => pMinus x b
def pCover (r : Re) (l : List Re) : List Re := l.foldl pStep (pMinus r r0)

theorem many_left (l : List Sp) (s : Sp) (e t : Int) : rMany (l.map fun m => (m, s)) e t = (l.filter fun m => hasB m e).length * (if hasB s t = true then 1 else 0) := by
  induction l with
  | nil => simp [rMany]
  | cons m l ih =>
    rw [List.map_cons, rMany_cons, ih, rHas_num, List.filter_cons]
    simp only
    cases hasB m e <;> simp [Nat.add_mul]
    omega
theorem many_right (l : List Sp) (s : Sp) (e t : Int) : rMany (l.map fun m => (s, m)) e t = (if hasB s e = true then 1 else 0) * (l.filter fun m => hasB m t).length := by
  induction l with
  | nil => simp [rMany]
  | cons m l ih =>
    rw [List.map_cons, rMany_cons, ih, rHas_num, List.filter_cons]
    simp only
    cases hasB m t <;> simp [Nat.mul_add]
    omega
theorem minus_num (a b : Sp) (x : Int) : ((minusF a b).filter fun m => hasB m x).length = if (hasB a x && !hasB b x) = true then 1 else 0 := by
  have h1 := minus_one a b x
  have h2 := minus_has a b x
  rw [← h2]
  generalize minusF a b = l at *
  cases h : l.any fun m => hasB m x
  · rw [if_neg (by simp)]
    rw [List.length_eq_zero_iff, List.filter_eq_nil_iff]
    intro m hm
    rw [List.any_eq_false] at h
    exact h m hm
  · rw [if_pos rfl]
    obtain ⟨m, hm, hx⟩ := List.any_eq_true.1 h
    have : 0 < (l.filter fun m => hasB m x).length := List.length_pos_of_mem (List.mem_filter.2 ⟨hm, hx⟩)
    omega
theorem pMinus_many (a b : Re) (e t : Int) : rMany (pMinus a b) e t = if (rHas a e t && !rHas b e t) = true then 1 else 0 := by
  unfold pMinus
  have hm := meet_has a.1 b.1 e
  rw [rMany_append, many_left, minus_num]
  unfold rHas
  by_cases h : (meetF a.1 b.1).2 = true
  · rw [if_pos h, many_right, minus_num]
    rw [h, Bool.true_and] at hm
    rw [hm]
    cases hasB a.1 e <;> cases hasB b.1 e <;> cases hasB a.2 t <;> cases hasB b.2 t <;> rfl
  · have h' : (meetF a.1 b.1).2 = false := by simpa using h
    rw [if_neg h, rMany_nil]
    rw [h', Bool.false_and] at hm
    generalize hasB a.1 e = x at *
    generalize hasB b.1 e = y at *
    cases x <;> cases y <;> cases hasB a.2 t <;> cases hasB b.2 t <;> first | rfl | cases hm
theorem pStep_many (left : List Re) (b : Re) (e t : Int) : rMany (pStep left b) e t = if rHas b e t = true then 0 else rMany left e t := by
  unfold pStep
  induction left with
  | nil => simp [rMany]
  | cons x left ih =>
    rw [List.flatMap_cons, rMany_append, ih, pMinus_many, rMany_cons]
    cases rHas b e t <;> cases rHas x e t <;> simp
theorem pFold_many (l : List Re) (e t : Int) : ∀ left : List Re, rMany (l.foldl pStep left) e t = if (l.all fun b => !rHas b e t) = true then rMany left e t else 0 := by
  induction l with
  | nil => intro left; simp
  | cons b l ih =>
    intro left
    rw [List.foldl_cons, ih, pStep_many, List.all_cons]
    generalize (l.all fun b => !rHas b e t) = y
    cases rHas b e t <;> cases y <;> rfl
theorem pCover_many (r : Re) (l : List Re) (e t : Int) : rMany (pCover r l) e t = if (rHas r e t && l.all fun b => !rHas b e t) = true then 1 else 0 := by
  unfold pCover
  have h0 : rHas r0 e t = false := by rw [← Bool.not_eq_true]; exact fun k => by have := rHas_may k; cases this
  rw [pFold_many, pMinus_many, h0]
  cases rHas r e t <;> cases (l.all fun b => !rHas b e t) <;> rfl

theorem pMinus_may {a b x : Re} (ha : okR a) (hx : x ∈ pMinus a b) : rMay x = true := by
  unfold pMinus at hx
  rcases List.mem_append.1 hx with h | h
  · obtain ⟨m, hm, rfl⟩ := List.mem_map.1 h
    obtain ⟨h1, _, _, h2, _⟩ := minus_in hm
    rcases ha with ha | rfl
    · exact rMay_iff.2 ⟨h1, (rMay_iff.1 ha).2⟩
    · cases h2
  · split at h
    · rename_i hz
      obtain ⟨m, hm, rfl⟩ := List.mem_map.1 h
      exact rMay_iff.2 ⟨(meet_in hz).1, (minus_in hm).1⟩
    · cases h
theorem pStep_ok {left : List Re} {b : Re} (h : ∀ x ∈ left, okR x) : ∀ x ∈ pStep left b, okR x := by
  intro x hx
  obtain ⟨y, hy, h1⟩ := List.mem_flatMap.1 hx
  exact .inl (pMinus_may (h y hy) h1)
theorem pFold_ok (l : List Re) : ∀ left : List Re, (∀ x ∈ left, okR x) → ∀ x ∈ l.foldl pStep left, okR x := by
  induction l with
  | nil => intro left h; exact h
  | cons b l ih => intro left h; exact ih _ (pStep_ok h)
theorem pCover_ok {r : Re} (hr : okR r) (l : List Re) : ∀ x ∈ pCover r l, okR x :=
  pFold_ok l _ (fun x hx => .inl (pMinus_may hr hx))
/-- Less the zero one, a rectangle is itself, or nothing. -/
theorem pMinus_zero_len (r : Re) : (pMinus r r0).length ≤ 1 := by
  have h1 : (minusF r.1 r0.1).length ≤ 1 := by
    unfold minusF
    rw [if_neg (c := mayB r0.1 = true ∧ r0.1.1 < r.1.2 ∧ r.1.1 < r0.1.2) (fun h => by have := h.1; cases this)]
    cases mayB r.1 <;> simp
  unfold pMinus
  rw [show meetF r.1 r0.1 = ((0, 0), false) from meet_neg (fun h => by have := h.2.1; cases this)]
  simpa using h1
theorem pMinus_len (a b : Re) : (pMinus a b).length ≤ 4 := by
  unfold pMinus
  have h1 := minus_len a.1 b.1
  have h2 := minus_len a.2 b.2
  rw [List.length_append, List.length_map]
  split
  · rw [List.length_map]; omega
  · simp; omega
theorem pStep_len (left : List Re) (b : Re) : (pStep left b).length ≤ 4 * left.length := by
  unfold pStep
  induction left with
  | nil => simp
  | cons x left ih =>
    rw [List.flatMap_cons, List.length_append, List.length_cons]
    have := pMinus_len x b
    omega
theorem pMinus_self {a : Re} (ha : okR a) : pMinus a a = [] := by
  unfold pMinus
  rcases ha with ha | rfl
  · have h := rMay_iff.1 ha
    rw [minus_self h.1 h.1 (Int.le_refl _) (Int.le_refl _), minus_self h.2 h.2 (Int.le_refl _) (Int.le_refl _)]
    simp
  · decide
def pK (r : Re) (l : List Re) (k : Nat) : List Re := (l.take k).foldl pStep (pMinus r r0)
theorem pK_succ (r : Re) (l : List Re) (k : Nat) (h : k < l.length) : pK r l (k + 1) = pStep (pK r l k) l[k] := by
  unfold pK; rw [List.take_succ_eq_append_getElem h, List.foldl_append]; rfl
theorem pK_all (r : Re) (l : List Re) : pK r l l.length = pCover r l := by unfold pK; rw [List.take_length]; rfl
theorem pK_len (r : Re) (l : List Re) (k : Nat) (h : k ≤ l.length) : (pK r l k).length ≤ 4 ^ k := by
  induction k with
  | zero => unfold pK; simpa using pMinus_zero_len r
  | succ k ih =>
    rw [pK_succ r l k (by omega), Nat.pow_succ]
    have := pStep_len (pK r l k) l[k]
    have := ih (by omega)
    omega
theorem pK_ok {r : Re} (hr : okR r) (l : List Re) (k : Nat) : ∀ x ∈ pK r l k, okR x :=
  pFold_ok _ _ (fun x hx => .inl (pMinus_may hr hx))
theorem pStep_snoc (left : List Re) (b : Re) (k : Nat) (h : k < left.length) : pStep (left.take (k + 1)) b = pStep (left.take k) b ++ pMinus left[k] b := by
  unfold pStep; rw [List.take_succ_eq_append_getElem h, List.flatMap_append]; simp
theorem pow4_le {k : Nat} (h : k ≤ 6) : 4 ^ k ≤ 4096 := Nat.le_trans (Nat.pow_le_pow_right (by decide) h) (by decide)

theorem pMinus_inN {a b x : Re} (ha : inN a) (hx : x ∈ pMinus a b) : inN x := by
  obtain ⟨n1, n2⟩ := ha
  unfold pMinus at hx
  rcases List.mem_append.1 hx with h | h
  · obtain ⟨m, hm, rfl⟩ := List.mem_map.1 h
    have := minus_in hm
    exact ⟨by simp only; omega, n2⟩
  · split at h
    · rename_i hz
      obtain ⟨m, hm, rfl⟩ := List.mem_map.1 h
      have := minus_in hm
      have := meet_in hz
      exact ⟨by simp only; omega, by simp only; omega⟩
    · cases h
theorem pCover_inN {r : Re} (hr : inN r) (l : List Re) : ∀ x ∈ pCover r l, inN x := by
  have key : ∀ (l left : List Re), (∀ x ∈ left, inN x) → ∀ x ∈ l.foldl pStep left, inN x := by
    intro l
    induction l with
    | nil => intro left h; exact h
    | cons b l ih =>
      intro left h
      refine ih _ (fun x hx => ?_)
      obtain ⟨y, hy, h1⟩ := List.mem_flatMap.1 hx
      exact pMinus_inN (h y hy) h1
  exact key l _ (fun x hx => pMinus_inN hr hx)
/-- How much is left does not hang on the row. -/
theorem pCover_row {r : Re} (hr : inN r) {l m : List Re} (h : ∀ e t : Int, (l.all fun b => !rHas b e t) = (m.all fun b => !rHas b e t)) : areas (pCover r l) = areas (pCover r m) := by
  rw [areas_pts (pCover_inN hr l), areas_pts (pCover_inN hr m), pts_congr (l := pCover r l) (m := pCover r m) _ (fun e t => by rw [pCover_many, pCover_many, h])]
theorem rMeet_inN {a b : Re} (ha : inN a) : inN (rMeet a b).1 := by
  by_cases hm : (meetF a.1 b.1).2 = true ∧ (meetF a.2 b.2).2 = true
  · have i1 := meet_in hm.1
    have i2 := meet_in hm.2
    rw [rMeet_pos hm.1 hm.2]
    obtain ⟨n1, n2⟩ := ha
    exact ⟨by simp only; omega, by simp only; omega⟩
  · rw [rMeet_neg hm]; exact ⟨by decide, by decide⟩
/-- What two have in common, and what is left of the one. -/
theorem pMinus_areas {a b : Re} (ha : inN a) : rArea (rMeet a b).1 + areas (pMinus a b) = rArea a := by
  have hm := rMeet_inN (b := b) ha
  rw [areas_pts (fun x hx => pMinus_inN ha hx), ← pts_one hm, ← pts_one ha, ← Int.natCast_add, ← pts_append]
  generalize (1048576 : Nat) = N
  refine congrArg _ (pts_congr N fun e t => ?_)
  rw [rMany_append, pMinus_many, rMany_cons, rMany_cons, rMany_nil]
  have h := rMeet_has a b e t
  by_cases hz : (rMeet a b).2 = true
  · rw [hz, Bool.true_and] at h
    rw [h]
    cases rHas a e t <;> cases rHas b e t <;> rfl
  · have hz' : (rMeet a b).2 = false := by simpa using hz
    rw [hz', Bool.false_and] at h
    have h0 : (rMeet a b).1 = r0 := by
      by_cases hm : (meetF a.1 b.1).2 = true ∧ (meetF a.2 b.2).2 = true
      · rw [rMeet_pos hm.1 hm.2] at hz'; cases hz'
      · rw [rMeet_neg hm]
    have h1 : rHas r0 e t = false := by
      rw [← Bool.not_eq_true]; exact fun k => by have := rHas_may k; cases this
    rw [h0, h1]
    generalize rHas a e t = x at *
    generalize rHas b e t = y at *
    cases x <;> cases y <;> first | rfl | cases h
theorem rMeet_ok (a b : Re) : okR (rMeet a b).1 := by
  by_cases hm : (meetF a.1 b.1).2 = true ∧ (meetF a.2 b.2).2 = true
  · rw [rMeet_pos hm.1 hm.2]; exact .inl (rMay_iff.2 ⟨(meet_in hm.1).1, (meet_in hm.2).1⟩)
  · rw [rMeet_neg hm]; exact .inr rfl
theorem okR_turn {r : Re} (h : okR r) : okR (rTurn r) := by
  rcases h with h | rfl
  · exact .inl (rMay_iff.2 ⟨(rMay_iff.1 h).2, (rMay_iff.1 h).1⟩)
  · exact .inr rfl
theorem okR_bounds {r : Re} (h : okR r) : (0 ≤ r.1.1 ∧ r.1.1 ≤ 1099511627776) ∧ (0 ≤ r.1.2 ∧ r.1.2 ≤ 1099511627776) ∧ (0 ≤ r.2.1 ∧ r.2.1 ≤ 1099511627776) ∧ (0 ≤ r.2.2 ∧ r.2.2 ≤ 1099511627776) := by
  rcases h with h | rfl
  · have h1 := mayB_iff.1 (rMay_iff.1 h).1
    have h2 := mayB_iff.1 (rMay_iff.1 h).2
    omega
  · decide
/-- Either one that may be, or the zero one. -/
def orZ (r : Re) : Re := if rMay r = true then r else r0
theorem orZ_ok (r : Re) : okR (orZ r) := by
  unfold orZ; split
  · rename_i h; exact .inl h
  · exact .inr rfl
theorem orZ_has (r : Re) (e t : Int) : rHas (orZ r) e t = rHas r e t := by
  unfold orZ; split
  · rfl
  · rename_i h
    have h1 : rHas r e t = false := by rw [← Bool.not_eq_true]; exact fun k => h (rHas_may k)
    have h2 : rHas r0 e t = false := by rw [← Bool.not_eq_true]; exact fun k => by have := rHas_may k; cases this
    rw [h1, h2]
theorem orZ_inN {r : Re} (h : inN r) : inN (orZ r) := by
  unfold orZ; split
  · exact h
  · exact ⟨by decide, by decide⟩
theorem orZ_area (r : Re) : rArea (orZ r) = rArea r := by
  unfold orZ; split
  · rfl
  · rename_i h
    unfold rArea; rw [if_neg h]; rfl
end Go.Proofs.Ytjfneppjdgfecaa
