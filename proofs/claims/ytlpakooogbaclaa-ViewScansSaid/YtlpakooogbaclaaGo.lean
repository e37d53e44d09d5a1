/- Layer 14: the keys of versions, rising, each once, by the document. -/
import Derived.Test.YtlpakooogbaclaaGn
import Derived.BigQuiet
namespace Go.Proofs.Ytlpakooogbaclaa
open Go.RowKit
set_option linter.unusedVariables false

theorem less_irreflG (a : List UInt8) : Op.bytesLess a a = false := by
  induction a with
  | nil => rfl
  | cons x r ih => simp [Op.bytesLess, ih]
theorem less_transG (a b c : List UInt8) (h : Op.bytesLess a b = true) (k : Op.bytesLess b c = true) : Op.bytesLess a c = true := by
  induction a generalizing b c with
  | nil =>
    cases b with
    | nil => cases h
    | cons y s =>
      cases c with
      | nil => cases k
      | cons z t => rfl
  | cons x r ih =>
    cases b with
    | nil => cases h
    | cons y s =>
      cases c with
      | nil => cases k
      | cons z t =>
        simp only [Op.bytesLess] at h k ⊢
        by_cases h1 : x < y
        · by_cases k1 : y < z
          · simp [show x < z from UInt8.lt_trans h1 k1]
          · simp only [k1] at k
            by_cases k2 : y = z
            · subst k2; simp [h1]
            · simp [k2] at k
        · simp only [h1] at h
          by_cases h2 : x = y
          · subst h2
            simp at h
            by_cases k1 : x < z
            · simp [k1]
            · simp only [k1] at k
              by_cases k2 : x = z
              · subst k2
                simp at k
                simp [ih _ _ h k]
              · simp [k2] at k
          · simp [h2] at h
theorem less_totalG (a b : List UInt8) (h : Op.bytesLess a b = false) (hne : a ≠ b) : Op.bytesLess b a = true := by
  induction a generalizing b with
  | nil =>
    cases b with
    | nil => exact absurd rfl hne
    | cons y s => cases h
  | cons x r ih =>
    cases b with
    | nil => rfl
    | cons y s =>
      simp only [Op.bytesLess] at h ⊢
      by_cases h1 : x < y
      · simp [h1] at h
      · by_cases h2 : x = y
        · subst h2
          simp at h ⊢
          exact ih _ h (fun e => hne (by rw [e]))
        · have h3 : y < x := by
            rcases UInt8.lt_or_eq_of_le (UInt8.not_lt.1 h1) with h4 | h4
            · exact h4
            · exact absurd h4.symm h2
          simp [h3]
/-- Keys in order, each once. -/
def AscS (l : List ByteArray) : Prop := l.Pairwise fun a b => Op.bytesLess a.toList b.toList = true
theorem ascS_eq : ∀ {a b : List ByteArray}, AscS a → AscS b → (∀ x, x ∈ a ↔ x ∈ b) → a = b
  | [], [], _, _, _ => rfl
  | [], y :: b, _, _, h => by have := (h y).2 List.mem_cons_self; cases this
  | x :: a, [], _, _, h => by have := (h x).1 List.mem_cons_self; cases this
  | x :: a, y :: b, ha, hb, h => by
    have ha' := List.pairwise_cons.1 ha
    have hb' := List.pairwise_cons.1 hb
    have e : x = y := by
      rcases List.mem_cons.1 ((h x).1 List.mem_cons_self) with e | hx
      · exact e
      · rcases List.mem_cons.1 ((h y).2 List.mem_cons_self) with e | hy
        · exact e.symm
        · have h1 := hb'.1 x hx
          have h2 := ha'.1 y hy
          have := less_transG _ _ _ h1 h2
          rw [less_irreflG] at this
          cases this
    subst e
    congr 1
    refine ascS_eq ha'.2 hb'.2 fun z => ?_
    constructor
    · intro hz
      rcases List.mem_cons.1 ((h z).1 (List.mem_cons_of_mem _ hz)) with e | h1
      · subst e
        have := ha'.1 z hz
        rw [less_irreflG] at this
        cases this
      · exact h1
    · intro hz
      rcases List.mem_cons.1 ((h z).2 (List.mem_cons_of_mem _ hz)) with e | h1
      · subst e
        have := hb'.1 z hz
        rw [less_irreflG] at this
        cases this
      · exact h1
/-- These are the keys of l. -/
structure KeysV (l : List Ver) (ks : List ByteArray) : Prop where
  asc : AscS ks
  mem : ∀ k, k ∈ ks ↔ ∃ v ∈ l, v.key = k
theorem KeysV.unique {l : List Ver} {a b : List ByteArray} (h : KeysV l a) (k : KeysV l b) : a = b := ascS_eq h.asc k.asc fun x => (h.mem x).trans (k.mem x).symm
/-- A key put where it belongs: those from j on are behind it, the one ahead of j is ahead of it. -/
theorem keys_put {l : List Ver} {acc : List ByteArray} {n j : Nat} (h : KeysV (l.take n) acc) (hn : n < l.length) (hj : j ≤ acc.length)
    (hb : ∀ (i : Nat) (h : i < acc.length), j ≤ i → Op.bytesLess l[n].key.toList acc[i].toList = true)
    (ha : ∀ (h : j - 1 < acc.length), 0 < j → Op.bytesLess acc[j - 1].toList l[n].key.toList = true) : KeysV (l.take (n + 1)) (acc.take j ++ [l[n].key] ++ acc.drop j) := by
  have e : acc.take j ++ acc.drop j = acc := List.take_append_drop j acc
  have hasc := h.asc
  rw [← e] at hasc
  obtain ⟨p1, p2, p3⟩ := List.pairwise_append.1 hasc
  have ua : ∀ x ∈ acc.take j, Op.bytesLess x.toList l[n].key.toList = true := fun x hx => by
    rcases Nat.eq_zero_or_pos j with h0 | h0
    · rw [h0] at hx; cases hx
    · have h1 := ha (by omega) h0
      obtain ⟨i, hi, rfl⟩ := List.getElem_of_mem hx
      rw [List.length_take] at hi
      rw [List.getElem_take]
      rcases Nat.eq_or_lt_of_le (show i ≤ j - 1 by omega) with e1 | e1
      · simp only [e1]; exact h1
      · have := List.pairwise_iff_getElem.1 h.asc i (j - 1) (by omega) (by omega) e1
        exact less_transG _ _ _ this h1
  have ub : ∀ x ∈ acc.drop j, Op.bytesLess l[n].key.toList x.toList = true := fun x hx => by
    obtain ⟨i, hi, rfl⟩ := List.getElem_of_mem hx
    rw [List.length_drop] at hi
    rw [List.getElem_drop]
    exact hb (j + i) (by omega) (by omega)
  refine ⟨?_, fun k => ?_⟩
  · unfold AscS
    rw [List.append_assoc]
    refine List.pairwise_append.2 ⟨p1, List.pairwise_cons.2 ⟨ub, p2⟩, fun x hx y hy => ?_⟩
    rcases List.mem_cons.1 hy with rfl | hy
    · exact ua x hx
    · exact p3 x hx y hy
  · rw [List.take_succ_eq_append_getElem hn]
    have hm := h.mem k
    rw [← e] at hm
    simp only [List.mem_append, List.mem_singleton] at hm ⊢
    constructor
    · rintro ((h1 | h1) | h1)
      · obtain ⟨v, hv, hk⟩ := hm.1 (.inl h1); exact ⟨v, .inl hv, hk⟩
      · exact ⟨l[n], .inr rfl, h1.symm⟩
      · obtain ⟨v, hv, hk⟩ := hm.1 (.inr h1); exact ⟨v, .inl hv, hk⟩
    · rintro ⟨v, hv | hv, hk⟩
      · rcases hm.2 ⟨v, hv, hk⟩ with h1 | h1
        · exact .inl (.inl h1)
        · exact .inr h1
      · subst hv; exact .inl (.inr hk.symm)
theorem keys_same {l : List Ver} {acc : List ByteArray} {n : Nat} (h : KeysV (l.take n) acc) (hn : n < l.length) (hk : l[n].key ∈ acc) : KeysV (l.take (n + 1)) acc := by
  refine ⟨h.asc, fun k => ?_⟩
  rw [List.take_succ_eq_append_getElem hn, h.mem]
  constructor
  · rintro ⟨v, hv, e⟩; exact ⟨v, List.mem_append_left _ hv, e⟩
  · rintro ⟨v, hv, e⟩
    rcases List.mem_append.1 hv with h1 | h1
    · exact ⟨v, h1, e⟩
    · rw [List.mem_singleton] at h1
      subst h1
      obtain ⟨u, hu, e2⟩ := (h.mem _).1 hk
      exact ⟨u, hu, e2.trans e⟩
/-- There are no more keys than versions. -/
theorem nodup_len {α β : Type} (f : α → β) : ∀ (ks : List β) (l : List α), ks.Nodup → (∀ k ∈ ks, ∃ v ∈ l, f v = k) → ks.length ≤ l.length
  | [], l, _, _ => Nat.zero_le _
  | k :: r, l, hn, h => by
    obtain ⟨v, hv, e⟩ := h k List.mem_cons_self
    obtain ⟨a, b, rfl⟩ := List.append_of_mem hv
    have hn' := List.nodup_cons.1 hn
    have := nodup_len f r (a ++ b) hn'.2 fun x hx => by
      obtain ⟨u, hu, e2⟩ := h x (List.mem_cons_of_mem _ hx)
      rcases List.mem_append.1 hu with h1 | h1
      · exact ⟨u, List.mem_append_left _ h1, e2⟩
      · rcases List.mem_cons.1 h1 with rfl | h2
        · exact absurd hx (by rw [← e2, e]; exact hn'.1)
        · exact ⟨u, List.mem_append_right _ h2, e2⟩
    simp only [List.length_append, List.length_cons] at this ⊢
    omega
theorem keys_len {l : List Ver} {ks : List ByteArray} (h : KeysV l ks) (hl : l.length ≤ 20) : ks.length ≤ 100000 := by
  have hn : ks.Nodup := List.Pairwise.imp (fun {a b} hab e => by rw [e, less_irreflG] at hab; cases hab) h.asc
  have := nodup_len Ver.key ks l hn fun k hk => (h.mem k).1 hk
  omega
theorem keys_nil (l : List Ver) : KeysV (l.take 0) [] := ⟨List.Pairwise.nil, fun k => by simp⟩
end Go.Proofs.Ytlpakooogbaclaa
