/- Layer 4, plain facts: the least pieces. -/
import Derived.Test.YtoikhgldffgelaaSm
namespace Go.Proofs.Ytoikhgldffgelaa
open Go.RowKit
set_option linter.unusedVariables false

/-- Two that touch, and tell the same. -/
def tch (q p : Pc) : Prop := q.1.2 = p.1.1 ∧ q.2 = p.2
instance (q p : Pc) : Decidable (tch q p) := inferInstanceAs (Decidable (_ ∧ _))
/-- One piece more. -/
def lstep (out : List Pc) (p : Pc) : List Pc := match out.getLast? with
  | some q => if tch q p then out.dropLast ++ [((q.1.1, p.1.2), q.2)] else out ++ [p]
  | none => out ++ [p]
def leastF (l : List Pc) : List Pc := l.foldl lstep []
theorem lstep_nil (p : Pc) : lstep [] p = [p] := rfl
theorem lstep_snoc (xs : List Pc) (q p : Pc) : lstep (xs ++ [q]) p = if tch q p then xs ++ [((q.1.1, p.1.2), q.2)] else xs ++ [q] ++ [p] := by
  simp [lstep]
theorem snoc_or {α : Type} (l : List α) : l = [] ∨ ∃ xs q, l = xs ++ [q] := by
  rcases List.eq_nil_or_concat l with h | ⟨xs, q, h⟩
  · exact .inl h
  · exact .inr ⟨xs, q, by simpa using h⟩
theorem lstep_len (out : List Pc) (p : Pc) : (lstep out p).length ≤ out.length + 1 := by
  rcases snoc_or out with rfl | ⟨xs, q, rfl⟩
  · simp [lstep]
  · rw [lstep_snoc]; split <;> simp
theorem least_len (l : List Pc) : (leastF l).length ≤ l.length := by
  have : ∀ (l out : List Pc), (l.foldl lstep out).length ≤ out.length + l.length := by
    intro l
    induction l with
    | nil => intro out; simp
    | cons p l ih =>
      intro out
      have h1 := ih (lstep out p)
      have h2 := lstep_len out p
      rw [List.foldl_cons, List.length_cons]; omega
  simpa [leastF] using this l []

theorem atF_congr (xs : List Pc) {ys zs : List Pc} {t : Int} (h : atF ys t = atF zs t) : atF (xs ++ ys) t = atF (xs ++ zs) t := by
  induction xs with
  | nil => exact h
  | cons p xs ih => rw [List.cons_append, List.cons_append, atF_cons, atF_cons, ih]
/-- Two that touch, made one. -/
theorem one_ok {xs r : List Pc} {q p : Pc} (h : ordB (xs ++ q :: p :: r) = true) (ht : tch q p) :
    ordB (xs ++ ((q.1.1, p.1.2), q.2) :: r) = true ∧ ∀ t, atF (xs ++ ((q.1.1, p.1.2), q.2) :: r) t = atF (xs ++ q :: p :: r) t := by
  obtain ⟨h1, h2⟩ := (ordB_iff _).1 h
  have hq := h1 q (by simp)
  have hp := h1 p (by simp)
  have hq' := mayB_iff.1 hq
  have hp' := mayB_iff.1 hp
  obtain ⟨t1, t2⟩ := ht
  have hm : mayB (q.1.1, p.1.2) = true := mayB_iff.2 ⟨by simp only; omega, by simp only; omega, by simp only; omega⟩
  obtain ⟨a1, a2, a3⟩ := List.pairwise_append.1 h2
  obtain ⟨a4, a5⟩ := List.pairwise_cons.1 a2
  obtain ⟨a6, a7⟩ := List.pairwise_cons.1 a5
  refine ⟨(ordB_iff _).2 ⟨fun x hx => ?_, ?_⟩, fun t => atF_congr xs ?_⟩
  · rcases List.mem_append.1 hx with hx | hx
    · exact h1 x (by simp [hx])
    · rcases List.mem_cons.1 hx with rfl | hx
      · exact hm
      · exact h1 x (by simp [hx])
  · refine List.pairwise_append.2 ⟨a1, List.pairwise_cons.2 ⟨fun y hy => a6 y hy, a7⟩, fun x hx y hy => ?_⟩
    rcases List.mem_cons.1 hy with rfl | hy
    · exact a3 x hx q (by simp)
    · exact a3 x hx y (by simp [hy])
  · rw [atF_cons, atF_cons, atF_cons]
    have key : hasB (q.1.1, p.1.2) t = (hasB q.1 t || hasB p.1 t) := by
      rw [Bool.eq_iff_iff, Bool.or_eq_true]
      simp only [hasB_iff, hq, hp, hm, true_and]
      omega
    rw [key]
    by_cases h3 : hasB q.1 t = true
    · simp [h3]
    · by_cases h4 : hasB p.1 t = true
      · simp [h4, t2]
      · simp [h3, h4]
theorem fold_ok (l : List Pc) : ∀ out, ordB (out ++ l) = true → ordB (l.foldl lstep out) = true ∧ ∀ t, atF (l.foldl lstep out) t = atF (out ++ l) t := by
  induction l with
  | nil => intro out h; simpa using h
  | cons p l ih =>
    intro out h
    rw [List.foldl_cons]
    rcases snoc_or out with rfl | ⟨xs, q, rfl⟩
    · exact ih [p] h
    · rw [lstep_snoc]
      by_cases ht : tch q p
      · rw [if_pos ht]
        have h' : ordB (xs ++ q :: p :: l) = true := by simpa using h
        obtain ⟨h1, h2⟩ := one_ok h' ht
        obtain ⟨h3, h4⟩ := ih (xs ++ [((q.1.1, p.1.2), q.2)]) (by simpa using h1)
        refine ⟨h3, fun t => ?_⟩
        rw [h4 t]
        simpa using h2 t
      · rw [if_neg ht]
        obtain ⟨h3, h4⟩ := ih (xs ++ [q] ++ [p]) (by simpa using h)
        refine ⟨h3, fun t => ?_⟩
        rw [h4 t]
        simp
theorem ord_least {l : List Pc} (h : ordB l = true) : ordB (leastF l) = true := (fold_ok l [] h).1
theorem at_least {l : List Pc} (h : ordB l = true) (t : Int) : atF (leastF l) t = atF l t := (fold_ok l [] h).2 t

/-- No two that touch tell the same. -/
def tight : List Pc → Prop
  | [] => True
  | [_] => True
  | q :: p :: r => ¬ tch q p ∧ tight (p :: r)
theorem tight_snoc (xs : List Pc) (q p : Pc) : tight (xs ++ [q] ++ [p]) ↔ tight (xs ++ [q]) ∧ ¬ tch q p := by
  induction xs with
  | nil => simp [tight]
  | cons x xs ih =>
    cases xs with
    | nil => simp [tight]
    | cons y ys =>
      simp only [List.cons_append, tight] at ih ⊢
      rw [ih, and_assoc]
theorem tight_last (xs : List Pc) {q q' : Pc} (h : tight (xs ++ [q])) (h1 : q'.1.1 = q.1.1) (h2 : q'.2 = q.2) : tight (xs ++ [q']) := by
  induction xs with
  | nil => simp [tight]
  | cons x xs ih =>
    cases xs with
    | nil =>
      simp only [List.cons_append, List.nil_append, tight, and_true] at h ⊢
      intro hh
      exact h ⟨by rw [← h1]; exact hh.1, by rw [← h2]; exact hh.2⟩
    | cons y ys =>
      simp only [List.cons_append, tight] at h ih ⊢
      exact ⟨h.1, ih h.2⟩
theorem tight_step {out : List Pc} (p : Pc) (h : tight out) : tight (lstep out p) := by
  rcases snoc_or out with rfl | ⟨xs, q, rfl⟩
  · simp [lstep, tight]
  · rw [lstep_snoc]
    by_cases ht : tch q p
    · rw [if_pos ht]; exact tight_last xs h rfl rfl
    · rw [if_neg ht]; exact (tight_snoc xs q p).2 ⟨h, ht⟩
theorem tight_fold (l : List Pc) : ∀ out, tight out → tight (l.foldl lstep out) := by
  induction l with
  | nil => intro out h; exact h
  | cons p l ih => intro out h; exact ih _ (tight_step p h)
theorem tight_least (l : List Pc) : tight (leastF l) := tight_fold l [] trivial
theorem tight_mid (xs l : List Pc) (q p : Pc) (h : tight (xs ++ q :: p :: l)) : ¬ tch q p := by
  induction xs with
  | nil => exact h.1
  | cons x xs ih =>
    apply ih
    cases xs with
    | nil => exact h.2
    | cons y ys => exact h.2
theorem fold_tight (l : List Pc) : ∀ out, tight (out ++ l) → l.foldl lstep out = out ++ l := by
  induction l with
  | nil => intro out _; simp
  | cons p l ih =>
    intro out h
    rw [List.foldl_cons]
    rcases snoc_or out with rfl | ⟨xs, q, rfl⟩
    · exact ih [p] h
    · have h' : tight (xs ++ q :: p :: l) := by simpa using h
      rw [lstep_snoc, if_neg (tight_mid xs l q p h'), ih _ (by simpa using h)]
      simp
theorem least_again (l : List Pc) : leastF (leastF l) = leastF l := by
  have := fold_tight (leastF l) [] (by simpa using tight_least l)
  simpa [leastF] using this

/-- The first ten bytes of a Value. -/
def cutP (p : Pc) : Pc := if p.2.size > 10 then (p.1, p.2.extract 0 10) else p
theorem cutP_size (p : Pc) : (cutP p).2.size ≤ 10 := by
  unfold cutP
  split
  · rw [ByteArray.size_extract]; omega
  · omega
theorem cutP_sp (p : Pc) : (cutP p).1 = p.1 := by unfold cutP; split <;> rfl
/-- Pieces that others make, one over the other. -/
def madeF (l : List Pc) : List Pc := (l.take 8).foldl (fun o p => overF o (cutP p)) []
theorem ord_fold (l : List Pc) : ∀ o, ordB o = true → ordB (l.foldl (fun o p => overF o (cutP p)) o) = true := by
  induction l with
  | nil => intro o h; exact h
  | cons p l ih => intro o h; exact ih _ (ord_over _ h)
theorem ord_made (l : List Pc) : ordB (madeF l) = true := ord_fold _ [] rfl
end Go.Proofs.Ytoikhgldffgelaa
