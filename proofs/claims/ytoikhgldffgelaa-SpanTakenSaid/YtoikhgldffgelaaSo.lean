/- Layer 4, plain facts: what is left of a span, as the document's answer goes: between all ends, what touches made one. -/
import Derived.Test.YtoikhgldffgelaaSn
namespace Go.Proofs.Ytoikhgldffgelaa
open Go.RowKit
set_option linter.unusedVariables false

/-- A number where it belongs, if it is not there. -/
def putL : List Int → Int → List Int
  | [], n => [n]
  | x :: r, n => if x ≥ n then (if x > n then n :: x :: r else x :: r) else x :: putL r n
def endsF (l : List Sp) : List Int := l.foldl (fun o s => putL (putL o s.1) s.2) []
def mstep (a b : Sp) (out : List Sp) (x y : Int) : List Sp :=
  if hasB a x = true ∧ hasB b x = false then
    match out.getLast? with
    | some q => if q.2 = x then out.dropLast ++ [(q.1, y)] else out ++ [(x, y)]
    | none => out ++ [(x, y)]
  else out
def msweep (a b : Sp) : List Sp → List Int → List Sp
  | out, x :: y :: r => msweep a b (mstep a b out x y) (y :: r)
  | out, _ => out
theorem has_t {x y t : Int} (h : 0 ≤ x ∧ x < y ∧ y ≤ 1099511627776 ∧ x ≤ t ∧ t < y) : hasB (x, y) t = true := hasB_iff.2 ⟨mayB_iff.2 ⟨h.1, h.2.1, h.2.2.1⟩, h.2.2.2⟩
theorem has_f {x y t : Int} (h : ¬ (0 ≤ x ∧ x < y ∧ y ≤ 1099511627776 ∧ x ≤ t ∧ t < y)) : hasB (x, y) t = false := by
  rw [← Bool.not_eq_true, hasB_iff, mayB_iff]
  exact fun k => h ⟨k.1.1, k.1.2.1, k.1.2.2, k.2⟩
theorem mstep_out {a b : Sp} {out : List Sp} {x y : Int} (h : ¬ (hasB a x = true ∧ hasB b x = false)) : mstep a b out x y = out := if_neg h
theorem mstep_nil {a b : Sp} {x y : Int} (h1 : hasB a x = true) (h2 : hasB b x = false) : mstep a b [] x y = [(x, y)] := by
  unfold mstep; rw [if_pos ⟨h1, h2⟩]; rfl
theorem mstep_join {a b : Sp} {out : List Sp} {u x y : Int} (h1 : hasB a x = true) (h2 : hasB b x = false) : mstep a b (out ++ [(u, x)]) x y = out ++ [(u, y)] := by
  unfold mstep; rw [if_pos ⟨h1, h2⟩]; simp
theorem mstep_more {a b : Sp} {out : List Sp} {u v x y : Int} (h1 : hasB a x = true) (h2 : hasB b x = false) (h : v ≠ x) : mstep a b (out ++ [(u, v)]) x y = out ++ [(u, v)] ++ [(x, y)] := by
  unfold mstep; rw [if_pos ⟨h1, h2⟩]; simp [h]

/-- With the ends of one alone, and numbers beside. -/
theorem sweep_all {a b : Sp} (ha : mayB a = true) (hb : ∀ t, a.1 ≤ t → t < a.2 → hasB b t = false) : ∀ (r : List Int) (x : Int) (out : List Sp),
    (x :: r).Pairwise (· < ·) → a.1 ∈ x :: r → a.2 ∈ x :: r → out = [] → msweep a b out (x :: r) = [a] := by
  have run : ∀ (r : List Int) (x : Int), (x :: r).Pairwise (· < ·) → a.2 ∈ x :: r → a.1 < x → x ≤ a.2 → msweep a b [(a.1, x)] (x :: r) = [a] := by
    intro r
    induction r with
    | nil =>
      intro x _ h2 h3 h4
      simp at h2
      subst h2
      rfl
    | cons y r ih =>
      intro x hp h2 h3 h4
      obtain ⟨h5, h6⟩ := List.pairwise_cons.1 hp
      show msweep a b (mstep a b [(a.1, x)] x y) (y :: r) = [a]
      rcases Int.lt_or_le x a.2 with h7 | h7
      · have hx1 : hasB a x = true := hasB_iff.2 ⟨ha, by omega, h7⟩
        rw [show [(a.1, x)] = [] ++ [(a.1, x)] from rfl, mstep_join hx1 (hb x (by omega) h7)]
        have hm : a.2 ∈ y :: r := by
          rcases List.mem_cons.1 h2 with h | h
          · omega
          · exact h
        refine ih y h6 hm (by have := h5 y (by simp); omega) ?_
        rcases List.mem_cons.1 hm with h | h
        · omega
        · have := (List.pairwise_cons.1 h6).1 _ h; omega
      · have : x = a.2 := by omega
        have hx : hasB a x = false := by
          rw [← Bool.not_eq_true, hasB_iff]; omega
        rw [mstep_out (by simp [hx])]
        have rest : ∀ (r : List Int) (z : Int) (out : List Sp), (z :: r).Pairwise (· < ·) → a.2 ≤ z → msweep a b out (z :: r) = out := by
          intro r
          induction r with
          | nil => intro z out _ _; rfl
          | cons u r ih2 =>
            intro z out hp hz
            have hx : hasB a z = false := by rw [← Bool.not_eq_true, hasB_iff]; omega
            show msweep a b (mstep a b out z u) (u :: r) = out
            rw [mstep_out (by simp [hx])]
            exact ih2 u out (List.pairwise_cons.1 hp).2 (by have := (List.pairwise_cons.1 hp).1 u (by simp); omega)
        rw [rest r y _ h6 (by have := h5 y (by simp); omega), this]
  have ha' := mayB_iff.1 ha
  intro r
  induction r with
  | nil =>
    intro x out _ h1 h2 h3
    simp at h1 h2
    omega
  | cons y r ih =>
    intro x out hp h1 h2 h3
    subst h3
    obtain ⟨h5, h6⟩ := List.pairwise_cons.1 hp
    show msweep a b (mstep a b [] x y) (y :: r) = [a]
    by_cases hx : x = a.1
    · have hx1 : hasB a x = true := hasB_iff.2 ⟨ha, by omega, by omega⟩
      rw [mstep_nil hx1 (hb x (by omega) (by omega)), hx]
      have hm : a.2 ∈ y :: r := by
        rcases List.mem_cons.1 h2 with h | h
        · omega
        · exact h
      refine run r y h6 hm (by have := h5 y (by simp); omega) ?_
      rcases List.mem_cons.1 hm with h | h
      · omega
      · have := (List.pairwise_cons.1 h6).1 _ h; omega
    · have hm : a.1 ∈ y :: r := by
        rcases List.mem_cons.1 h1 with h | h
        · exact absurd h.symm hx
        · exact h
      have hlt : x < a.1 := h5 _ hm
      have hx1 : hasB a x = false := by rw [← Bool.not_eq_true, hasB_iff]; omega
      rw [mstep_out (by simp [hx1])]
      refine ih y [] h6 hm ?_ rfl
      rcases List.mem_cons.1 h2 with h | h
      · omega
      · exact h

theorem put_mem (l : List Int) (n x : Int) : x ∈ putL l n ↔ x = n ∨ x ∈ l := by
  induction l with
  | nil => simp [putL]
  | cons y r ih =>
    unfold putL
    split
    · split
      · simp
      · have : y = n := by omega
        subst this
        simp
    · simp only [List.mem_cons, ih]
      constructor
      · rintro (h | h | h)
        · exact .inr (.inl h)
        · exact .inl h
        · exact .inr (.inr h)
      · rintro (h | h | h)
        · exact .inr (.inl h)
        · exact .inl h
        · exact .inr (.inr h)
theorem put_order (l : List Int) (n : Int) (h : l.Pairwise (· < ·)) : (putL l n).Pairwise (· < ·) := by
  induction l with
  | nil => simp [putL]
  | cons y r ih =>
    obtain ⟨h1, h2⟩ := List.pairwise_cons.1 h
    unfold putL
    split
    · split
      · refine List.pairwise_cons.2 ⟨fun z hz => ?_, h⟩
        rcases List.mem_cons.1 hz with rfl | hz
        · omega
        · have := h1 z hz; omega
      · exact h
    · refine List.pairwise_cons.2 ⟨fun z hz => ?_, ih h2⟩
      rcases (put_mem r n z).1 hz with rfl | hz
      · omega
      · exact h1 z hz
theorem ends_two (a b : Sp) : endsF [a, b] = putL (putL (putL (putL [] a.1) a.2) b.1) b.2 := rfl
theorem put_len (l : List Int) (n : Int) : (putL l n).length ≤ l.length + 1 := by
  induction l with
  | nil => simp [putL]
  | cons x r ih => unfold putL; (repeat' split) <;> simp <;> omega

/-- Between all ends: what is left. -/
theorem sweep_minus (a b : Sp) (ha : mayB a = true) : msweep a b [] (endsF [a, b]) = minusF a b := by
  have ha' := mayB_iff.1 ha
  by_cases hov : mayB b = true ∧ b.1 < a.2 ∧ a.1 < b.2
  · obtain ⟨hb, h1, h2⟩ := hov
    have hb' := mayB_iff.1 hb
    have hmin : minusF a b = (if a.1 < b.1 then [(a.1, b.1)] else []) ++ (if b.2 < a.2 then [(b.2, a.2)] else []) := by
      unfold minusF; rw [if_pos ha, if_pos ⟨hb, h1, h2⟩]
    rw [hmin, ends_two]
    obtain ⟨a1, a2⟩ := a
    obtain ⟨b1, b2⟩ := b
    simp only at ha' hb' h1 h2 ⊢
    have e0 : putL (putL [] a1) a2 = [a1, a2] := by
      show putL [a1] a2 = _
      unfold putL; rw [if_neg (by omega)]; rfl
    rw [e0]
    rcases Int.lt_trichotomy b1 a1 with h3 | h3 | h3
    · have e1 : putL [a1, a2] b1 = [b1, a1, a2] := by simp (disch := omega) only [putL, if_pos]
      rw [e1]
      rcases Int.lt_trichotomy b2 a2 with h4 | h4 | h4
      · have e2 : putL [b1, a1, a2] b2 = [b1, a1, b2, a2] := by simp (disch := omega) only [putL, if_pos, if_neg]
        rw [e2]
        simp only [msweep]
        rw [mstep_out (x := b1) (y := a1) (by rw [has_f (x := a1) (y := a2) (t := b1) (by omega)]; simp), mstep_out (x := a1) (y := b2) (by rw [has_t (x := b1) (y := b2) (t := a1) (by omega)]; simp), mstep_nil (x := b2) (y := a2) (has_t (x := a1) (y := a2) (t := b2) (by omega)) (has_f (x := b1) (y := b2) (t := b2) (by omega))]
        simp (disch := omega) only [if_pos, if_neg, List.nil_append]; try rfl
      · subst h4
        have e2 : putL [b1, a1, b2] b2 = [b1, a1, b2] := by simp (disch := omega) only [putL, if_pos, if_neg]
        rw [e2]
        simp only [msweep]
        rw [mstep_out (x := b1) (y := a1) (by rw [has_f (x := a1) (y := b2) (t := b1) (by omega)]; simp), mstep_out (x := a1) (y := b2) (by rw [has_t (x := b1) (y := b2) (t := a1) (by omega)]; simp)]
        simp (disch := omega) only [if_neg, List.append_nil]; try rfl
      · have e2 : putL [b1, a1, a2] b2 = [b1, a1, a2, b2] := by simp (disch := omega) only [putL, if_pos, if_neg]
        rw [e2]
        simp only [msweep]
        rw [mstep_out (x := b1) (y := a1) (by rw [has_f (x := a1) (y := a2) (t := b1) (by omega)]; simp), mstep_out (x := a1) (y := a2) (by rw [has_t (x := b1) (y := b2) (t := a1) (by omega)]; simp), mstep_out (x := a2) (y := b2) (by rw [has_f (x := a1) (y := a2) (t := a2) (by omega)]; simp)]
        simp (disch := omega) only [if_neg, List.append_nil]; try rfl
    · subst h3
      have e1 : putL [b1, a2] b1 = [b1, a2] := by simp (disch := omega) only [putL, if_pos, if_neg]
      rw [e1]
      rcases Int.lt_trichotomy b2 a2 with h4 | h4 | h4
      · have e2 : putL [b1, a2] b2 = [b1, b2, a2] := by simp (disch := omega) only [putL, if_pos, if_neg]
        rw [e2]
        simp only [msweep]
        rw [mstep_out (x := b1) (y := b2) (by rw [has_t (x := b1) (y := b2) (t := b1) (by omega)]; simp), mstep_nil (x := b2) (y := a2) (has_t (x := b1) (y := a2) (t := b2) (by omega)) (has_f (x := b1) (y := b2) (t := b2) (by omega))]
        simp (disch := omega) only [if_pos, if_neg, List.nil_append]; try rfl
      · subst h4
        have e2 : putL [b1, b2] b2 = [b1, b2] := by simp (disch := omega) only [putL, if_pos, if_neg]
        rw [e2]
        simp only [msweep]
        rw [mstep_out (x := b1) (y := b2) (by rw [has_t (x := b1) (y := b2) (t := b1) (by omega)]; simp)]
        simp (disch := omega) only [if_neg, List.append_nil]; try rfl
      · have e2 : putL [b1, a2] b2 = [b1, a2, b2] := by simp (disch := omega) only [putL, if_pos, if_neg]
        rw [e2]
        simp only [msweep]
        rw [mstep_out (x := b1) (y := a2) (by rw [has_t (x := b1) (y := b2) (t := b1) (by omega)]; simp), mstep_out (x := a2) (y := b2) (by rw [has_f (x := b1) (y := a2) (t := a2) (by omega)]; simp)]
        simp (disch := omega) only [if_neg, List.append_nil]; try rfl
    · have e1 : putL [a1, a2] b1 = [a1, b1, a2] := by simp (disch := omega) only [putL, if_pos, if_neg]
      rw [e1]
      rcases Int.lt_trichotomy b2 a2 with h4 | h4 | h4
      · have e2 : putL [a1, b1, a2] b2 = [a1, b1, b2, a2] := by simp (disch := omega) only [putL, if_pos, if_neg]
        rw [e2]
        simp only [msweep]
        rw [mstep_nil (x := a1) (y := b1) (has_t (x := a1) (y := a2) (t := a1) (by omega)) (has_f (x := b1) (y := b2) (t := a1) (by omega)), mstep_out (x := b1) (y := b2) (by rw [has_t (x := b1) (y := b2) (t := b1) (by omega)]; simp), show [(a1, b1)] = [] ++ [(a1, b1)] from rfl, mstep_more (x := b2) (y := a2) (has_t (x := a1) (y := a2) (t := b2) (by omega)) (has_f (x := b1) (y := b2) (t := b2) (by omega)) (by omega)]
        simp (disch := omega) only [if_pos, List.nil_append]; try rfl
      · subst h4
        have e2 : putL [a1, b1, b2] b2 = [a1, b1, b2] := by simp (disch := omega) only [putL, if_pos, if_neg]
        rw [e2]
        simp only [msweep]
        rw [mstep_nil (x := a1) (y := b1) (has_t (x := a1) (y := b2) (t := a1) (by omega)) (has_f (x := b1) (y := b2) (t := a1) (by omega)), mstep_out (x := b1) (y := b2) (by rw [has_t (x := b1) (y := b2) (t := b1) (by omega)]; simp)]
        simp (disch := omega) only [if_pos, if_neg, List.append_nil]; try rfl
      · have e2 : putL [a1, b1, a2] b2 = [a1, b1, a2, b2] := by simp (disch := omega) only [putL, if_pos, if_neg]
        rw [e2]
        simp only [msweep]
        rw [mstep_nil (x := a1) (y := b1) (has_t (x := a1) (y := a2) (t := a1) (by omega)) (has_f (x := b1) (y := b2) (t := a1) (by omega)), mstep_out (x := b1) (y := a2) (by rw [has_t (x := b1) (y := b2) (t := b1) (by omega)]; simp), mstep_out (x := a2) (y := b2) (by rw [has_f (x := a1) (y := a2) (t := a2) (by omega)]; simp)]
        simp (disch := omega) only [if_pos, if_neg, List.append_nil]; try rfl
  · have hmin : minusF a b = [a] := by unfold minusF; rw [if_pos ha, if_neg hov]
    have hord : (endsF [a, b]).Pairwise (· < ·) := by
      rw [ends_two]
      exact put_order _ _ (put_order _ _ (put_order _ _ (put_order _ _ List.Pairwise.nil)))
    have m1 : a.1 ∈ endsF [a, b] := by rw [ends_two]; simp [put_mem]
    have m2 : a.2 ∈ endsF [a, b] := by rw [ends_two]; simp [put_mem]
    rw [hmin]
    cases he : endsF [a, b] with
    | nil => rw [he] at m1; cases m1
    | cons x r =>
      rw [he] at hord m1 m2
      refine sweep_all ha (fun t ht1 ht2 => ?_) r x [] hord m1 m2 rfl
      rw [← Bool.not_eq_true, hasB_iff]
      rintro ⟨h1, h2, h3⟩
      exact hov ⟨h1, by omega, by omega⟩
end Go.Proofs.Ytoikhgldffgelaa
