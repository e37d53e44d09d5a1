/- Layer 6: plain facts: a version as it is read of bytes, one after the other; the document's way and the project's are the same; what is written is read. -/
import Derived.Test.YtecomnklofceaaaRf
import Derived.Test.YtecomnklofceaaaVh
import Derived.Test.YtecomnklofceaaaVV
import Derived.Test.YtecomnklofceaaaOA
namespace Go.Proofs.Ytecomnklofceaaa
open Go.RowKit
set_option linter.unusedVariables false

theorem step_enc (n : Nat) (r : List UInt8) (h : n < 4611686018427387904) : stepN (encN n ++ r) 0 = (n, r, 0) := by
  unfold stepN
  rw [rdN_enc n r h, if_neg (by simp), if_neg (by simp)]
  simp
theorem text_enc (s : ByteArray) (r : List UInt8) (most : Int) (h : s.size ≤ 1000) (hm : (s.size : Int) ≤ most) : stepT (encT s ++ r) 0 most = (s.data.toList, r, 0) := by
  have hl : s.data.toList.length = s.size := by simp
  unfold stepT encT
  rw [List.append_assoc, step_enc s.size _ (by omega)]
  simp only
  rw [if_neg (by simp), if_neg (by omega), if_neg (by rw [List.length_append]; omega), ← hl]
  simp

/-- Where the project's reader is, and its error, when k numbers have been read. -/
def sN (l : List UInt8) (e : Int) : Nat → List UInt8 × Int
  | 0 => (l, e)
  | k + 1 => (stepN (sN l e k).1 (sN l e k).2).2
def nN (l : List UInt8) (e : Int) (k : Nat) : Int := ((stepN (sN l e k).1 (sN l e k).2).1 : Nat)
def keyL (l : List UInt8) (e : Int) : List UInt8 × List UInt8 × Int := stepT (sN l e 6).1 (sN l e 6).2 100
def valL (l : List UInt8) (e : Int) : List UInt8 × List UInt8 × Int := stepT (keyL l e).2.1 (keyL l e).2.2 200
def rawL (l : List UInt8) (e : Int) : Ver := ⟨⟨(keyL l e).1.toArray⟩, nN l e 0, nN l e 1, nN l e 2, (nN l e 3, nN l e 3 + nN l e 4), ⟨(valL l e).1.toArray⟩, (nN l e 5 == 1)⟩
def takeL (l : List UInt8) (e : Int) : Ver × Int := if (valL l e).2.2 ≠ 0 then (zeroV, (valL l e).2.2) else if mayV (rawL l e) = true ∧ nN l e 5 ≤ 1 then (rawL l e, 0) else (zeroV, 2)
theorem nN_bd (l : List UInt8) (e : Int) (k : Nat) : 0 ≤ nN l e k ∧ nN l e k < 4611686018427387904 := by
  have := stepN_bd (sN l e k).1 (sN l e k).2
  unfold nN; omega

/-- The project's reader (what is left, its error) is where the document's is (an index of m, its error). -/
def Lk (x : List UInt8 × Int) (m : List UInt8) (y : Nat × Int) : Prop := x.2 = y.2 ∧ (y.2 = 0 → x.1 = m.drop y.1)
theorem link_step {x : List UInt8 × Int} {m : List UInt8} {y : Nat × Int} (h : Lk x m y) : (stepN x.1 x.2).1 = (stepQ m y.1 y.2).1 ∧ Lk (stepN x.1 x.2).2 m (stepQ m y.1 y.2).2 := by
  obtain ⟨l, e⟩ := x
  obtain ⟨q, f⟩ := y
  obtain ⟨h1, h2⟩ := h
  simp only at h1 h2 ⊢
  subst h1
  unfold stepN stepQ Lk
  by_cases he : e = 0
  · subst he
    rw [h2 rfl]
    by_cases hr : (rdN (m.drop q)).2.2 = 0
    · simp [hr, List.drop_drop]
    · simp [hr]
  · simp [he]
theorem link_text {x : List UInt8 × Int} {m : List UInt8} {y : Nat × Int} (most : Int) (h : Lk x m y) : (stepT x.1 x.2 most).1 = (textQ m y.1 y.2 most).1 ∧ Lk (stepT x.1 x.2 most).2 m (textQ m y.1 y.2 most).2 := by
  have hs := link_step h
  unfold stepT textQ
  generalize stepN x.1 x.2 = a at *
  generalize stepQ m y.1 y.2 = b at *
  obtain ⟨n, l, e⟩ := a
  obtain ⟨n', q, f⟩ := b
  obtain ⟨h1, h2, h3⟩ := hs
  simp only at h1 h2 h3 ⊢
  subst h1 h2
  unfold Lk
  by_cases he : e = 0
  · subst he
    rw [h3 rfl]
    by_cases h4 : most < (n : Int)
    · simp [h4]
    · by_cases h5 : m.length - q < n
      · simp [h4, h5]
      · simp [h4, h5, List.drop_drop]
  · simp [he]
theorem link_nums {x : List UInt8 × Int} {m : List UInt8} {y : Nat × Int} (h : Lk x m y) (k : Nat) : Lk (sN x.1 x.2 k) m (qSt m y.1 y.2 k) := by
  induction k with
  | zero => exact h
  | succ k ih => exact (link_step ih).2
theorem link_n {x : List UInt8 × Int} {m : List UInt8} {y : Nat × Int} (h : Lk x m y) (k : Nat) : nN x.1 x.2 k = qN m y.1 y.2 k := by
  unfold nN qN
  rw [(link_step (link_nums h k)).1]

/-- What a step leaves stands at the end of what was. -/
theorem step_suf (l : List UInt8) (e : Int) : (stepN l e).2.1 <:+ l := by
  unfold stepN
  split
  · exact List.suffix_refl _
  · split
    · exact List.nil_suffix
    · exact List.drop_suffix _ _
theorem text_suf (l : List UInt8) (e most : Int) : (stepT l e most).2.1 <:+ l := by
  have := step_suf l e
  unfold stepT
  split
  · exact this
  · split
    · exact List.nil_suffix
    · split
      · exact List.nil_suffix
      · exact (List.drop_suffix _ _).trans this
theorem sN_suf (l : List UInt8) (e : Int) (k : Nat) : (sN l e k).1 <:+ l := by
  induction k with
  | zero => exact List.suffix_refl _
  | succ k ih => exact (step_suf _ _).trans ih
theorem rdGo_pos (l : List UInt8) : ∀ (k acc : Nat), (rdGo l k acc).2.2 = 0 → k < (rdGo l k acc).2.1 := by
  induction l with
  | nil => intro k acc h; exfalso; revert h; rw [rdGo]; split <;> simp
  | cons c t ih =>
    intro k acc
    rw [rdGo]
    split
    · simp
    · split
      · intro h; have := ih _ _ h; omega
      · split
        · simp
        · intro _; simp
theorem step_err (l : List UInt8) (e : Int) (h : (stepN l e).2.2 = 0) : e = 0 := by
  unfold stepN at h
  split at h
  · exact absurd h (by assumption)
  · rename_i h1; simpa using h1
theorem step_less (l : List UInt8) (e : Int) (h : (stepN l e).2.2 = 0) : (stepN l e).2.1.length < l.length := by
  have he := step_err l e h
  subst he
  unfold stepN at h ⊢
  rw [if_neg (by simp)] at h ⊢
  split at h
  · rename_i h1; exact absurd h h1
  · rename_i h1
    rw [if_neg h1]
    have h2 : (rdN l).2.2 = 0 := by simpa using h1
    have h3 := rdGo_pos l 0 0 h2
    have h4 := (rdN_size l h2).1
    simp only [List.length_drop]
    show l.length - (rdN l).2.1 < l.length
    have h5 : 0 < (rdN l).2.1 := h3
    omega
theorem text_err (l : List UInt8) (e most : Int) (h : (stepT l e most).2.2 = 0) : (stepN l e).2.2 = 0 := by
  unfold stepT at h
  by_cases h1 : (stepN l e).2.2 = 0
  · exact h1
  · rw [if_pos h1] at h; exact h
theorem sN_err (l : List UInt8) (e : Int) (k : Nat) (h : (sN l e k).2 = 0) : e = 0 := by
  induction k with
  | zero => exact h
  | succ k ih => exact ih (step_err _ _ h)
theorem take_zero (l : List UInt8) (e : Int) (h : (takeL l e).2 ≠ 0) : (takeL l e).1 = zeroV := by
  unfold takeL at h ⊢
  split
  · rfl
  · rename_i h1
    rw [if_neg h1] at h
    split
    · rename_i h2
      rw [if_pos h2] at h
      exact absurd rfl h
    · rfl

/-- How long a key may be. -/
theorem text_long : ∀ (n : Nat) (b : List UInt8), b.length ≤ n → (Ord.rdText b).1 = 0 → b.length ≤ 2 * (Ord.rdText b).2.1.length + 2 + (Ord.rdText b).2.2.length := by
  intro n
  induction n with
  | zero => intro b hb h; have : b = [] := List.length_eq_zero_iff.1 (by omega); subst this; simp [Ord.rdText] at h
  | succ n ih =>
    intro b hb h
    cases b with
    | nil => simp [Ord.rdText] at h
    | cons c r =>
      unfold Ord.rdText at h ⊢
      by_cases hc : c = 0
      · simp only [if_pos hc] at h ⊢
        cases r with
        | nil => simp at h
        | cons d r' =>
          simp only at h ⊢
          by_cases hd : d = 255
          · simp only [if_pos hd] at h ⊢
            by_cases h0 : (Ord.rdText r').1 = 0
            · simp only [if_pos h0] at h ⊢
              have := ih r' (by simp at hb; omega) h0
              simp only [List.length_cons]
              omega
            · simp only [if_neg h0] at h; exact absurd h h0
          · simp only [if_neg hd] at h ⊢
            by_cases hd1 : d = 1
            · simp only [if_pos hd1] at h ⊢
              simp only [List.length_cons, List.length_nil]
              omega
            · simp only [if_neg hd1] at h; cases h
      · simp only [if_neg hc] at h ⊢
        by_cases h0 : (Ord.rdText r).1 = 0
        · simp only [if_pos h0] at h ⊢
          have := ih r (by simp at hb; omega) h0
          simp only [List.length_cons]
          omega
        · simp only [if_neg h0] at h; exact absurd h h0
theorem part_long {b : List UInt8} (h : (Ord.rdPart b).1 = 0) : b.length ≤ 9 + 2 * (Ord.rdPart b).2.1.text.size + 3 + (Ord.rdPart b).2.2.length ∧ ((Ord.rdPart b).2.1.isText = false → b.length = 9 + (Ord.rdPart b).2.2.length) ∧ ((Ord.rdPart b).2.1.isText = true → b.length ≤ 3 + 2 * (Ord.rdPart b).2.1.text.size + (Ord.rdPart b).2.2.length) := by
  cases b with
  | nil => simp [Ord.rdPart] at h
  | cons c r =>
    unfold Ord.rdPart at h ⊢
    by_cases h1 : c = 1
    · simp only [if_pos h1] at h ⊢
      by_cases h8 : r.length < 8
      · simp [h8] at h
      · simp only [if_neg h8, List.length_cons, List.length_drop]
        refine ⟨by omega, fun _ => by omega, (fun h => by cases h)⟩
    · simp only [if_neg h1] at h ⊢
      by_cases h2 : c = 2
      · simp only [if_pos h2] at h ⊢
        have h3 := text_long r.length r (Nat.le_refl _) h
        have h4 : (ByteArray.mk (Ord.rdText r).2.1.toArray).size = (Ord.rdText r).2.1.length := by simp [ByteArray.size]
        rw [h4]
        simp only [List.length_cons]
        refine ⟨by omega, (fun h => by cases h), fun _ => by omega⟩
      · simp [h2] at h
theorem all_two {n : Nat} {b : List UInt8} {p q : Ord.PartD} (h : Ord.rdAllN n b = (0, [p, q])) (hn : b.length ≤ n) : (Ord.rdPart b).1 = 0 ∧ (Ord.rdPart b).2.1 = p ∧ (Ord.rdPart (Ord.rdPart b).2.2).1 = 0 ∧ (Ord.rdPart (Ord.rdPart b).2.2).2.1 = q ∧ (Ord.rdPart (Ord.rdPart b).2.2).2.2 = [] := by
  have key : ∀ (n : Nat) (b : List UInt8) (p : Ord.PartD) (t : List Ord.PartD), Ord.rdAllN n b = (0, p :: t) → (Ord.rdPart b).1 = 0 ∧ (Ord.rdPart b).2.1 = p ∧ ∃ m, n = m + 1 ∧ Ord.rdAllN m (Ord.rdPart b).2.2 = (0, t) := by
    intro n b p t h
    cases n with
    | zero => simp [Ord.rdAllN] at h
    | succ m =>
      unfold Ord.rdAllN at h
      by_cases hb : b = []
      · simp [hb] at h
      · simp only [if_neg hb] at h
        by_cases h1 : (Ord.rdPart b).1 = 0
        · simp only [if_pos h1] at h
          by_cases h2 : (Ord.rdAllN m (Ord.rdPart b).2.2).1 = 0
          · simp only [if_pos h2, Prod.mk.injEq, List.cons.injEq, true_and] at h
            exact ⟨h1, h.1, m, rfl, Prod.ext h2 h.2⟩
          · simp only [if_neg h2, Prod.mk.injEq] at h
            exact absurd h.1 h2
        · simp only [if_neg h1, Prod.mk.injEq] at h
          exact absurd h.1 h1
  obtain ⟨h1, h2, m, rfl, h3⟩ := key n b p [q] h
  obtain ⟨h4, h5, m', rfl, h6⟩ := key m _ q [] h3
  refine ⟨h1, h2, h4, h5, ?_⟩
  obtain ⟨k1, hk1, hk1', hr1⟩ := Ord.rdPart_rest h1
  obtain ⟨k2, hk2, hk2', hr2⟩ := Ord.rdPart_rest h4
  generalize (Ord.rdPart (Ord.rdPart b).2.2).2.2 = z at *
  by_cases hz : z = []
  · exact hz
  · exfalso
    have hlen : z.length ≤ m' := by rw [hr2, hr1]; simp only [List.length_drop]; omega
    cases m' with
    | zero => exact hz (List.length_eq_zero_iff.1 (by omega))
    | succ m' =>
      unfold Ord.rdAllN at h6
      simp only [if_neg hz] at h6
      by_cases h7 : (Ord.rdPart z).1 = 0
      · simp only [if_pos h7] at h6
        by_cases h8 : (Ord.rdAllN m' (Ord.rdPart z).2.2).1 = 0
        · simp [if_pos h8] at h6
        · simp only [if_neg h8, Prod.mk.injEq] at h6; exact h8 h6.1
      · simp only [if_neg h7, Prod.mk.injEq] at h6; exact h7 h6.1
theorem key_long {l : List UInt8} (h : (Ord.splitOf l).2.2 = 0) : l.length ≤ 92 := by
  unfold Ord.splitOf at h
  by_cases h1 : (Ord.rdAll l).1 = 0
  · rw [if_pos h1] at h
    cases hk : Ord.keyOf (Ord.rdAll l).2 with
    | none => rw [hk] at h; cases h
    | some x =>
      obtain ⟨t, s⟩ := x
      obtain ⟨p, q, hl, hp, hq, _, hs, _, _, hs40⟩ := Ord.key_two hk
      obtain ⟨g1, g2, g3, g4, g5⟩ := all_two (n := l.length) (b := l) (p := p) (q := q) (Prod.ext h1 hl) (Nat.le_refl _)
      have f1 := (part_long g1).2.1 (by rw [g2]; exact hp)
      have f2 := (part_long g3).2.2 (by rw [g4]; exact hq)
      rw [g4, g5, hs] at f2
      simp only [List.length_nil] at f2
      omega
  · rw [if_neg h1] at h; exact absurd h h1
theorem may_key {v : Ver} (h : mayV v = true) : v.key.size ≤ 92 := by
  have := key_long (mayV_iff h).1
  simpa using this

end Go.Proofs.Ytecomnklofceaaa
