/- Layer 6: plain facts: a version as it is read of bytes, one after the other; the document's way and the project's are the same; what is written is read. -/
import Derived.Test.YtmchiebpijnpiaaRf
import Derived.Test.YtmchiebpijnpiaaVh
import Derived.Test.YtmchiebpijnpiaaVn
import Derived.Test.YtmchiebpijnpiaaOA
namespace Go.Proofs.Ytmchiebpijnpiaa
open Go.RowKit
set_option linter.unusedVariables false

theorem step_enc (n : Nat) (r : List UInt8) (h : n < 4611686018427387904) : stepN (encN n ++ r) 0 = (n, r, 0) := by
  unfold stepN
  rw [rdN_enc n r h, if_neg (by simp), if_neg (by simp)]
  simp
theorem text_enc (s : ByteArray) (r : List UInt8) (most : Int) (h : s.size ≤ 1000) (hm : (s.size : Int) ≤ most) : stepT (encT s ++ r) 0 most = (s.data.toList, r, 0) := by
  have hl : s.data.toList.length = s.size := by simp
  unfold stepT encT
  rw [List.append_assoc, step_enc s.size _ (by omega)]
  simp only
  rw [if_neg (by simp), if_neg (by omega), if_neg (by rw [List.length_append]; omega), ← hl]
  simp

/-- Where the project's reader is, and its error, when k numbers have been read. -/
def sN (l : List UInt8) (e : Int) : Nat → List UInt8 × Int
  | 0 => (l, e)
  | k + 1 => (stepN (sN l e k).1 (sN l e k).2).2
def nN (l : List UInt8) (e : Int) (k : Nat) : Int := ((stepN (sN l e k).1 (sN l e k).2).1 : Nat)
def keyL (l : List UInt8) (e : Int) : List UInt8 × List UInt8 × Int := stepT (sN l e 6).1 (sN l e 6).2 100
def valL (l : List UInt8) (e : Int) : List UInt8 × List UInt8 × Int := stepT (keyL l e).2.1 (keyL l e).2.2 200
def rawL (l : List UInt8) (e : Int) : Ver := ⟨⟨(keyL l e).1.toArray⟩, nN l e 0, nN l e 1, nN l e 2, (nN l e 3, nN l e 3 + nN l e 4), ⟨(valL l e).1.toArray⟩, (nN l e 5 == 1)⟩
def takeL (l : List UInt8) (e : Int) : Ver × Int := if (valL l e).2.2 ≠ 0 then (zeroV, (valL l e).2.2) else if mayV (rawL l e) = true ∧ nN l e 5 ≤ 1 then (rawL l e, 0) else (zeroV, 2)
theorem nN_bd (l : List UInt8) (e : Int) (k : Nat) : 0 ≤ nN l e k ∧ nN l e k < 4611686018427387904 := by
  have := stepN_bd (sN l e k).1 (sN l e k).2
  unfold nN; omega

/-- The project's reader (what is left, its error) is where the document's is (an index of m, its error). -/
def Lk (x : List UInt8 × Int) (m : List UInt8) (y : Nat × Int) : Prop := x.2 = y.2 ∧ (y.2 = 0 → x.1 = m.drop y.1)
theorem link_step {x : List UInt8 × Int} {m : List UInt8} {y : Nat × Int} (h : Lk x m y) : (stepN x.1 x.2).1 = (stepQ m y.1 y.2).1 ∧ Lk (stepN x.1 x.2).2 m (stepQ m y.1 y.2).2 := by
  obtain ⟨l, e⟩ := x
  obtain ⟨q, f⟩ := y
  obtain ⟨h1, h2⟩ := h
  simp only at h1 h2 ⊢
  subst h1
  unfold stepN stepQ Lk
  by_cases he : e = 0
  · subst he
    rw [h2 rfl]
    by_cases hr : (rdN (m.drop q)).2.2 = 0
    · simp [hr, List.drop_drop]
    · simp [hr]
  · simp [he]
theorem link_text {x : List UInt8 × Int} {m : List UInt8} {y : Nat × Int} (most : Int) (h : Lk x m y) : (stepT x.1 x.2 most).1 = (textQ m y.1 y.2 most).1 ∧ Lk (stepT x.1 x.2 most).2 m (textQ m y.1 y.2 most).2 := by
  have hs := link_step h
  unfold stepT textQ
  generalize stepN x.1 x.2 = a at *
  generalize stepQ m y.1 y.2 = b at *
  obtain ⟨n, l, e⟩ := a
  obtain ⟨n', q, f⟩ := b
  obtain ⟨h1, h2, h3⟩ := hs
  simp only at h1 h2 h3 ⊢
  subst h1 h2
  unfold Lk
  by_cases he : e = 0
  · subst he
    rw [h3 rfl]
    by_cases h4 : most < (n : Int)
    · simp [h4]
    · by_cases h5 : m.length - q < n
      · simp [h4, h5]
      · simp [h4, h5, List.drop_drop]
  · simp [he]
theorem link_nums {x : List UInt8 × Int} {m : List UInt8} {y : Nat × Int} (h : Lk x m y) (k : Nat) : Lk (sN x.1 x.2 k) m (qSt m y.1 y.2 k) := by
  induction k with
  | zero => exact h
  | succ k ih => exact (link_step ih).2
theorem link_n {x : List UInt8 × Int} {m : List UInt8} {y : Nat × Int} (h : Lk x m y) (k : Nat) : nN x.1 x.2 k = qN m y.1 y.2 k := by
  unfold nN qN
  rw [(link_step (link_nums h k)).1]
theorem link_key {x : List UInt8 × Int} {m : List UInt8} {y : Nat × Int} (h : Lk x m y) : (keyL x.1 x.2).1 = (keyQ m y.1 y.2).1 ∧ Lk (keyL x.1 x.2).2 m (keyQ m y.1 y.2).2 := link_text 100 (link_nums h 6)
theorem link_val {x : List UInt8 × Int} {m : List UInt8} {y : Nat × Int} (h : Lk x m y) : (valL x.1 x.2).1 = (valQ m y.1 y.2).1 ∧ Lk (valL x.1 x.2).2 m (valQ m y.1 y.2).2 := link_text 200 (link_key h).2
theorem link_take {x : List UInt8 × Int} {m : List UInt8} {y : Nat × Int} (h : Lk x m y) : takeL x.1 x.2 = takeQ m y.1 y.2 := by
  unfold takeL takeQ rawL rawQ
  rw [(link_val h).2.1, (link_key h).1, (link_val h).1, link_n h 0, link_n h 1, link_n h 2, link_n h 3, link_n h 4, link_n h 5]

/-- What a step leaves stands at the end of what was. -/
theorem step_suf (l : List UInt8) (e : Int) : (stepN l e).2.1 <:+ l := by
  unfold stepN
  split
  · exact List.suffix_refl _
  · split
    · exact List.nil_suffix
    · exact List.drop_suffix _ _
theorem text_suf (l : List UInt8) (e most : Int) : (stepT l e most).2.1 <:+ l := by
  have := step_suf l e
  unfold stepT
  split
  · exact this
  · split
    · exact List.nil_suffix
    · split
      · exact List.nil_suffix
      · exact (List.drop_suffix _ _).trans this
theorem sN_suf (l : List UInt8) (e : Int) (k : Nat) : (sN l e k).1 <:+ l := by
  induction k with
  | zero => exact List.suffix_refl _
  | succ k ih => exact (step_suf _ _).trans ih
theorem key_suf (l : List UInt8) (e : Int) : (keyL l e).2.1 <:+ l := (text_suf _ _ _).trans (sN_suf l e 6)
theorem val_suf (l : List UInt8) (e : Int) : (valL l e).2.1 <:+ l := (text_suf _ _ _).trans (key_suf l e)
theorem suf_drop {a l : List UInt8} (h : a <:+ l) : l.drop (l.length - a.length) = a := by
  obtain ⟨t, rfl⟩ := h
  simp
theorem rdGo_pos (l : List UInt8) : ∀ (k acc : Nat), (rdGo l k acc).2.2 = 0 → k < (rdGo l k acc).2.1 := by
  induction l with
  | nil => intro k acc h; exfalso; revert h; rw [rdGo]; split <;> simp
  | cons c t ih =>
    intro k acc
    rw [rdGo]
    split
    · simp
    · split
      · intro h; have := ih _ _ h; omega
      · split
        · simp
        · intro _; simp
theorem step_err (l : List UInt8) (e : Int) (h : (stepN l e).2.2 = 0) : e = 0 := by
  unfold stepN at h
  split at h
  · exact absurd h (by assumption)
  · rename_i h1; simpa using h1
theorem step_less (l : List UInt8) (e : Int) (h : (stepN l e).2.2 = 0) : (stepN l e).2.1.length < l.length := by
  have he := step_err l e h
  subst he
  unfold stepN at h ⊢
  rw [if_neg (by simp)] at h ⊢
  split at h
  · rename_i h1; exact absurd h h1
  · rename_i h1
    rw [if_neg h1]
    have h2 : (rdN l).2.2 = 0 := by simpa using h1
    have h3 := rdGo_pos l 0 0 h2
    have h4 := (rdN_size l h2).1
    simp only [List.length_drop]
    show l.length - (rdN l).2.1 < l.length
    have h5 : 0 < (rdN l).2.1 := h3
    omega
theorem text_err (l : List UInt8) (e most : Int) (h : (stepT l e most).2.2 = 0) : (stepN l e).2.2 = 0 := by
  unfold stepT at h
  by_cases h1 : (stepN l e).2.2 = 0
  · exact h1
  · rw [if_pos h1] at h; exact h
theorem sN_err (l : List UInt8) (e : Int) (k : Nat) (h : (sN l e k).2 = 0) : e = 0 := by
  induction k with
  | zero => exact h
  | succ k ih => exact ih (step_err _ _ h)
theorem val_less (l : List UInt8) (e : Int) (h : (valL l e).2.2 = 0) : e = 0 ∧ (valL l e).2.1.length < l.length := by
  have h1 : (keyL l e).2.2 = 0 := step_err _ _ (text_err _ _ _ h)
  have h2 : (sN l e 6).2 = 0 := step_err _ _ (text_err _ _ _ h1)
  have h3 := (sN_suf l e 6).length_le
  have h4 := (text_suf (keyL l e).2.1 (keyL l e).2.2 200).length_le
  have h5 := step_less _ _ (text_err _ _ _ h1)
  have h6 : (keyL l e).2.1.length ≤ (stepN (sN l e 6).1 (sN l e 6).2).2.1.length := by
    unfold keyL stepT
    split
    · exact Nat.le_refl _
    · split
      · simp
      · split
        · simp
        · simp
  refine ⟨sN_err l e 6 h2, ?_⟩
  have h7 : (valL l e).2.1.length ≤ (keyL l e).2.1.length := h4
  omega
theorem take_less (l : List UInt8) (e : Int) (h : (takeL l e).2 = 0) : (valL l e).2.2 = 0 ∧ e = 0 ∧ (valL l e).2.1.length < l.length := by
  have h1 : (valL l e).2.2 = 0 := by
    unfold takeL at h
    by_cases h1 : (valL l e).2.2 = 0
    · exact h1
    · rw [if_pos h1] at h; exact h
  exact ⟨h1, val_less l e h1⟩
theorem take_zero (l : List UInt8) (e : Int) (h : (takeL l e).2 ≠ 0) : (takeL l e).1 = zeroV := by
  unfold takeL at h ⊢
  split
  · rfl
  · rename_i h1
    rw [if_neg h1] at h
    split
    · rename_i h2
      rw [if_pos h2] at h
      exact absurd rfl h
    · rfl
theorem take_may (l : List UInt8) (e : Int) (h : (takeL l e).2 = 0) : mayV (takeL l e).1 = true := by
  unfold takeL at h ⊢
  by_cases h1 : (valL l e).2.2 = 0
  · rw [if_neg (by simp [h1])] at h ⊢
    by_cases h2 : mayV (rawL l e) = true ∧ nN l e 5 ≤ 1
    · rw [if_pos h2]; exact h2.1
    · rw [if_neg h2] at h; cases h
  · rw [if_pos h1] at h; exact absurd h h1

/-- How long a key may be. -/
theorem text_long : ∀ (n : Nat) (b : List UInt8), b.length ≤ n → (Ord.rdText b).1 = 0 → b.length ≤ 2 * (Ord.rdText b).2.1.length + 2 + (Ord.rdText b).2.2.length := by
  intro n
  induction n with
  | zero => intro b hb h; have : b = [] := List.length_eq_zero_iff.1 (by omega); subst this; simp [Ord.rdText] at h
  | succ n ih =>
    intro b hb h
    cases b with
    | nil => simp [Ord.rdText] at h
    | cons c r =>
      unfold Ord.rdText at h ⊢
      by_cases hc : c = 0
      · simp only [if_pos hc] at h ⊢
        cases r with
        | nil => simp at h
        | cons d r' =>
          simp only at h ⊢
          by_cases hd : d = 255
          · simp only [if_pos hd] at h ⊢
            by_cases h0 : (Ord.rdText r').1 = 0
            · simp only [if_pos h0] at h ⊢
              have := ih r' (by simp at hb; omega) h0
              simp only [List.length_cons]
              omega
            · simp only [if_neg h0] at h; exact absurd h h0
          · simp only [if_neg hd] at h ⊢
            by_cases hd1 : d = 1
            · simp only [if_pos hd1] at h ⊢
              simp only [List.length_cons, List.length_nil]
              omega
            · simp only [if_neg hd1] at h; cases h
      · simp only [if_neg hc] at h ⊢
        by_cases h0 : (Ord.rdText r).1 = 0
        · simp only [if_pos h0] at h ⊢
          have := ih r (by simp at hb; omega) h0
          simp only [List.length_cons]
          omega
        · simp only [if_neg h0] at h; exact absurd h h0
theorem part_long {b : List UInt8} (h : (Ord.rdPart b).1 = 0) : b.length ≤ 9 + 2 * (Ord.rdPart b).2.1.text.size + 3 + (Ord.rdPart b).2.2.length ∧ ((Ord.rdPart b).2.1.isText = false → b.length = 9 + (Ord.rdPart b).2.2.length) ∧ ((Ord.rdPart b).2.1.isText = true → b.length ≤ 3 + 2 * (Ord.rdPart b).2.1.text.size + (Ord.rdPart b).2.2.length) := by
  cases b with
  | nil => simp [Ord.rdPart] at h
  | cons c r =>
    unfold Ord.rdPart at h ⊢
    by_cases h1 : c = 1
    · simp only [if_pos h1] at h ⊢
      by_cases h8 : r.length < 8
      · simp [h8] at h
      · simp only [if_neg h8, List.length_cons, List.length_drop]
        refine ⟨by omega, fun _ => by omega, (fun h => by cases h)⟩
    · simp only [if_neg h1] at h ⊢
      by_cases h2 : c = 2
      · simp only [if_pos h2] at h ⊢
        have h3 := text_long r.length r (Nat.le_refl _) h
        have h4 : (ByteArray.mk (Ord.rdText r).2.1.toArray).size = (Ord.rdText r).2.1.length := by simp [ByteArray.size]
        rw [h4]
        simp only [List.length_cons]
        refine ⟨by omega, (fun h => by cases h), fun _ => by omega⟩
      · simp [h2] at h
theorem all_two {n : Nat} {b : List UInt8} {p q : Ord.PartD} (h : Ord.rdAllN n b = (0, [p, q])) (hn : b.length ≤ n) : (Ord.rdPart b).1 = 0 ∧ (Ord.rdPart b).2.1 = p ∧ (Ord.rdPart (Ord.rdPart b).2.2).1 = 0 ∧ (Ord.rdPart (Ord.rdPart b).2.2).2.1 = q ∧ (Ord.rdPart (Ord.rdPart b).2.2).2.2 = [] := by
  have key : ∀ (n : Nat) (b : List UInt8) (p : Ord.PartD) (t : List Ord.PartD), Ord.rdAllN n b = (0, p :: t) → (Ord.rdPart b).1 = 0 ∧ (Ord.rdPart b).2.1 = p ∧ ∃ m, n = m + 1 ∧ Ord.rdAllN m (Ord.rdPart b).2.2 = (0, t) := by
    intro n b p t h
    cases n with
    | zero => simp [Ord.rdAllN] at h
    | succ m =>
      unfold Ord.rdAllN at h
      by_cases hb : b = []
      · simp [hb] at h
      · simp only [if_neg hb] at h
        by_cases h1 : (Ord.rdPart b).1 = 0
        · simp only [if_pos h1] at h
          by_cases h2 : (Ord.rdAllN m (Ord.rdPart b).2.2).1 = 0
          · simp only [if_pos h2, Prod.mk.injEq, List.cons.injEq, true_and] at h
            exact ⟨h1, h.1, m, rfl, Prod.ext h2 h.2⟩
          · simp only [if_neg h2, Prod.mk.injEq] at h
            exact absurd h.1 h2
        · simp only [if_neg h1, Prod.mk.injEq] at h
          exact absurd h.1 h1
  obtain ⟨h1, h2, m, rfl, h3⟩ := key n b p [q] h
  obtain ⟨h4, h5, m', rfl, h6⟩ := key m _ q [] h3
  refine ⟨h1, h2, h4, h5, ?_⟩
  obtain ⟨k1, hk1, hk1', hr1⟩ := Ord.rdPart_rest h1
  obtain ⟨k2, hk2, hk2', hr2⟩ := Ord.rdPart_rest h4
  generalize (Ord.rdPart (Ord.rdPart b).2.2).2.2 = z at *
  by_cases hz : z = []
  · exact hz
  · exfalso
    have hlen : z.length ≤ m' := by rw [hr2, hr1]; simp only [List.length_drop]; omega
    cases m' with
    | zero => exact hz (List.length_eq_zero_iff.1 (by omega))
    | succ m' =>
      unfold Ord.rdAllN at h6
      simp only [if_neg hz] at h6
      by_cases h7 : (Ord.rdPart z).1 = 0
      · simp only [if_pos h7] at h6
        by_cases h8 : (Ord.rdAllN m' (Ord.rdPart z).2.2).1 = 0
        · simp [if_pos h8] at h6
        · simp only [if_neg h8, Prod.mk.injEq] at h6; exact h8 h6.1
      · simp only [if_neg h7, Prod.mk.injEq] at h6; exact h7 h6.1
theorem key_long {l : List UInt8} (h : (Ord.splitOf l).2.2 = 0) : l.length ≤ 92 := by
  unfold Ord.splitOf at h
  by_cases h1 : (Ord.rdAll l).1 = 0
  · rw [if_pos h1] at h
    cases hk : Ord.keyOf (Ord.rdAll l).2 with
    | none => rw [hk] at h; cases h
    | some x =>
      obtain ⟨t, s⟩ := x
      obtain ⟨p, q, hl, hp, hq, _, hs, _, _, hs40⟩ := Ord.key_two hk
      obtain ⟨g1, g2, g3, g4, g5⟩ := all_two (n := l.length) (b := l) (p := p) (q := q) (Prod.ext h1 hl) (Nat.le_refl _)
      have f1 := (part_long g1).2.1 (by rw [g2]; exact hp)
      have f2 := (part_long g3).2.2 (by rw [g4]; exact hq)
      rw [g4, g5, hs] at f2
      simp only [List.length_nil] at f2
      omega
  · rw [if_neg h1] at h; exact absurd h h1
theorem may_key {v : Ver} (h : mayV v = true) : v.key.size ≤ 92 := by
  have := key_long (mayV_iff h).1
  simpa using this

/-- What was written is read, with what stands behind. -/
theorem take_enc (v : Ver) (r : List UInt8) (h : mayV v = true) : takeL (encV v ++ r) 0 = (v, 0) ∧ (valL (encV v ++ r) 0).2 = (r, 0) := by
  have hk := may_key h
  have hm := h
  have hv := (mayV_iff h).2.2.1
  have hbd := numsV_bd h
  have hsp := mayB_iff.1 (mayV_iff h).2.1
  obtain ⟨k, b, e, s, ⟨x, y⟩, u, g⟩ := v
  simp only at hk hv hsp
  have hX : encV ⟨k, b, e, s, (x, y), u, g⟩ ++ r = encN b.toNat ++ (encN e.toNat ++ (encN s.toNat ++ (encN x.toNat ++ (encN (y - x).toNat ++ (encN (if g = true then (1 : Int) else 0).toNat ++ (encT k ++ (encT u ++ r))))))) := by
    simp [encV, encNs, numsV]
  have hn : ∀ n ∈ [b, e, s, x, y - x, if g = true then (1 : Int) else 0], n.toNat < 4611686018427387904 ∧ (n.toNat : Int) = n := fun n hn => by
    have := hbd n hn
    omega
  have n0 := hn b (by simp)
  have n1 := hn e (by simp)
  have n2 := hn s (by simp)
  have n3 := hn x (by simp)
  have n4 := hn (y - x) (by simp)
  have n5 := hn (if g = true then (1 : Int) else 0) (by simp)
  clear hn hbd
  rw [hX]
  have t5 := step_enc (if g = true then (1 : Int) else 0).toNat (encT k ++ (encT u ++ r)) n5.1
  have t4 := step_enc (y - x).toNat (encN (if g = true then (1 : Int) else 0).toNat ++ (encT k ++ (encT u ++ r))) n4.1
  have t3 := step_enc x.toNat (encN (y - x).toNat ++ (encN (if g = true then (1 : Int) else 0).toNat ++ (encT k ++ (encT u ++ r)))) n3.1
  have t2 := step_enc s.toNat (encN x.toNat ++ (encN (y - x).toNat ++ (encN (if g = true then (1 : Int) else 0).toNat ++ (encT k ++ (encT u ++ r))))) n2.1
  have t1 := step_enc e.toNat (encN s.toNat ++ (encN x.toNat ++ (encN (y - x).toNat ++ (encN (if g = true then (1 : Int) else 0).toNat ++ (encT k ++ (encT u ++ r)))))) n1.1
  have t0 := step_enc b.toNat (encN e.toNat ++ (encN s.toNat ++ (encN x.toNat ++ (encN (y - x).toNat ++ (encN (if g = true then (1 : Int) else 0).toNat ++ (encT k ++ (encT u ++ r))))))) n0.1
  have tk := text_enc k (encT u ++ r) 100 (by omega) (by omega)
  have tu := text_enc u r 200 (by omega) (by omega)
  generalize encN b.toNat ++ (encN e.toNat ++ (encN s.toNat ++ (encN x.toNat ++ (encN (y - x).toNat ++ (encN (if g = true then (1 : Int) else 0).toNat ++ (encT k ++ (encT u ++ r))))))) = l0 at *
  generalize encN e.toNat ++ (encN s.toNat ++ (encN x.toNat ++ (encN (y - x).toNat ++ (encN (if g = true then (1 : Int) else 0).toNat ++ (encT k ++ (encT u ++ r)))))) = l1 at *
  generalize encN s.toNat ++ (encN x.toNat ++ (encN (y - x).toNat ++ (encN (if g = true then (1 : Int) else 0).toNat ++ (encT k ++ (encT u ++ r))))) = l2 at *
  generalize encN x.toNat ++ (encN (y - x).toNat ++ (encN (if g = true then (1 : Int) else 0).toNat ++ (encT k ++ (encT u ++ r)))) = l3 at *
  generalize encN (y - x).toNat ++ (encN (if g = true then (1 : Int) else 0).toNat ++ (encT k ++ (encT u ++ r))) = l4 at *
  generalize encN (if g = true then (1 : Int) else 0).toNat ++ (encT k ++ (encT u ++ r)) = l5 at *
  generalize encT k ++ (encT u ++ r) = l6 at *
  generalize encT u ++ r = l7 at *
  have s0 : sN l0 0 0 = (l0, 0) := rfl
  have s1 : sN l0 0 1 = (l1, 0) := by rw [sN, s0, t0]
  have s2 : sN l0 0 2 = (l2, 0) := by rw [sN, s1, t1]
  have s3 : sN l0 0 3 = (l3, 0) := by rw [sN, s2, t2]
  have s4 : sN l0 0 4 = (l4, 0) := by rw [sN, s3, t3]
  have s5 : sN l0 0 5 = (l5, 0) := by rw [sN, s4, t4]
  have s6 : sN l0 0 6 = (l6, 0) := by rw [sN, s5, t5]
  have hkey : keyL l0 0 = (k.data.toList, l7, 0) := by unfold keyL; rw [s6, tk]
  have hval : valL l0 0 = (u.data.toList, r, 0) := by unfold valL; rw [hkey, tu]
  have e0 : nN l0 0 0 = b := by unfold nN; rw [s0, t0]; exact n0.2
  have e1 : nN l0 0 1 = e := by unfold nN; rw [s1, t1]; exact n1.2
  have e2 : nN l0 0 2 = s := by unfold nN; rw [s2, t2]; exact n2.2
  have e3 : nN l0 0 3 = x := by unfold nN; rw [s3, t3]; exact n3.2
  have e4 : nN l0 0 4 = y - x := by unfold nN; rw [s4, t4]; exact n4.2
  have e5 : nN l0 0 5 = if g = true then 1 else 0 := by unfold nN; rw [s5, t5]; exact n5.2
  have hraw : rawL l0 0 = ⟨k, b, e, s, (x, y), u, g⟩ := by
    unfold rawL
    rw [hkey, hval, e0, e1, e2, e3, e4, e5]
    have h1 : x + (y - x) = y := by omega
    have h2 : ((if g = true then (1 : Int) else 0) == 1) = g := by cases g <;> rfl
    rw [h1, h2]
  refine ⟨?_, by rw [hval]⟩
  unfold takeL
  rw [hval, hraw, e5, if_neg (by simp), if_pos ⟨hm, by split <;> omega⟩]

theorem encV_inj {a b : Ver} (ha : mayV a = true) (hb : mayV b = true) (h : encV a = encV b) : a = b := by
  have h1 := (take_enc a [] ha).1
  have h2 := (take_enc b [] hb).1
  rw [h, h2] at h1
  exact (Prod.mk.inj h1).1.symm

/-- n versions read of l, with nothing behind. -/
def allGo : Nat → List UInt8 → List Ver × Int
  | 0, l => if 0 < l.length then ([], 2) else ([], 0)
  | n + 1, l => if (takeL l 0).2 ≠ 0 then ([], (takeL l 0).2) else if (allGo n (valL l 0).2.1).2 ≠ 0 then ([], (allGo n (valL l 0).2.1).2) else ((takeL l 0).1 :: (allGo n (valL l 0).2.1).1, 0)
def preV (acc : List Ver) (r : List Ver × Int) : List Ver × Int := if r.2 ≠ 0 then ([], r.2) else (acc ++ r.1, 0)
def allV (b : List UInt8) : List Ver × Int := if (stepN b 0).2.2 ≠ 0 then ([], (stepN b 0).2.2) else allGo (stepN b 0).1 (stepN b 0).2.1
theorem allGo_nil (n : Nat) (l : List UInt8) : preV [] (allGo n l) = allGo n l := by
  unfold preV
  split
  · rename_i h
    cases n with
    | zero => unfold allGo at h ⊢; split at h <;> rename_i h1 <;> simp_all
    | succ n =>
      unfold allGo at h ⊢
      split
      · rfl
      · rename_i h1
        rw [if_neg h1] at h
        split
        · rfl
        · rename_i h2
          rw [if_neg h2] at h
          exact absurd rfl h
  · rename_i h
    have : (allGo n l).2 = 0 := by simpa using h
    rw [← this]
    simp
theorem allGo_step (n : Nat) (l : List UInt8) (acc : List Ver) : preV acc (allGo (n + 1) l) = if (takeL l 0).2 ≠ 0 then ([], (takeL l 0).2) else preV (acc ++ [(takeL l 0).1]) (allGo n (valL l 0).2.1) := by
  rw [allGo]
  unfold preV
  by_cases h1 : (takeL l 0).2 = 0
  · by_cases h2 : (allGo n (valL l 0).2.1).2 = 0
    · simp [h1, h2]
    · simp [h1, h2]
  · simp [h1]
theorem allGo_end (l : List UInt8) (acc : List Ver) : preV acc (allGo 0 l) = if 0 < l.length then ([], 2) else (acc, 0) := by
  unfold allGo preV
  split <;> simp_all
theorem allGo_enc : ∀ (l acc : List Ver), (∀ v ∈ l, mayV v = true) → preV acc (allGo l.length (encVs l)) = (acc ++ l, 0)
  | [], acc, _ => by rw [List.length_nil, allGo_end]; simp [encVs]
  | v :: l, acc, h => by
    have hv := h v (by simp)
    obtain ⟨h1, h2⟩ := take_enc v (encVs l) hv
    have h3 : encVs (v :: l) = encV v ++ encVs l := by simp [encVs]
    rw [List.length_cons, allGo_step, h3, h1, h2, if_neg (by simp), allGo_enc l _ (fun x hx => h x (by simp [hx]))]
    simp
theorem allV_enc (l : List Ver) (h : ∀ v ∈ l, mayV v = true) (hl : l.length ≤ 1000000) : allV (encN l.length ++ encVs l) = (l, 0) := by
  unfold allV
  rw [step_enc _ _ (by omega), if_neg (by simp), ← allGo_nil, allGo_enc l [] h]
  simp
end Go.Proofs.Ytmchiebpijnpiaa
