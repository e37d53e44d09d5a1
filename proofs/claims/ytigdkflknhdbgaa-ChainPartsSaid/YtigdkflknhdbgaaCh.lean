/- Layer 13, plain: keys, one by one, and a list's two parts. -/
import Derived.Test.YtigdkflknhdbgaaCg
namespace Go.Proofs.Ytigdkflknhdbgaa
open Go.RowKit
set_option linter.unusedVariables false

theorem bytesLess_ff {l : List UInt8} (h : (Ord.rdAll l).1 = 0) : Op.bytesLess l [255] = true := by
  cases l with
  | nil => simp [Op.bytesLess]
  | cons c r =>
    have h1 : (Ord.rdPart (c :: r)).1 = 0 := by
      unfold Ord.rdAll at h
      rw [List.length_cons] at h
      unfold Ord.rdAllN at h
      rw [if_neg (by simp)] at h
      by_cases hp : (Ord.rdPart (c :: r)).1 = 0
      · exact hp
      · rw [if_neg hp] at h; exact absurd h hp
    have hc : c = 1 ∨ c = 2 := by
      by_cases h2 : c = 1
      · exact .inl h2
      · by_cases h3 : c = 2
        · exact .inr h3
        · unfold Ord.rdPart at h1
          simp only [if_neg h2, if_neg h3] at h1
          exact absurd h1 (by decide)
    rcases hc with rfl | rfl <;> simp [Op.bytesLess]
theorem key_ff {v : Ver} (h : mayV v = true) : Op.bytesLess v.key.toList (⟨#[255]⟩ : ByteArray).toList = true := by
  have h1 : (Ord.splitOf v.key.data.toList).2.2 = 0 := by
    unfold mayV at h
    simp only [Bool.and_eq_true, decide_eq_true_iff] at h
    exact h.1.1.1.1
  rw [ByteArray.toList_eq, ByteArray.toList_eq]
  refine bytesLess_ff ?_
  unfold Ord.splitOf at h1
  by_cases h2 : (Ord.rdAll v.key.data.toList).1 = 0
  · exact h2
  · rw [if_neg h2] at h1; exact absurd h1 h2
theorem less_empty (l : List UInt8) : Op.bytesLess l (⟨#[]⟩ : ByteArray).toList = false := by
  rw [ByteArray.toList_eq]
  cases l <;> simp [Op.bytesLess]
theorem lessV_key {a b : Ver} (h : lessV a b = true) : a.key = b.key ∨ Op.bytesLess a.key.toList b.key.toList = true := by
  by_cases hk : a.key = b.key
  · exact .inl hk
  · unfold lessV at h
    rw [if_pos hk] at h
    exact .inr h
theorem key_lessV {a b : Ver} (h : Op.bytesLess a.key.toList b.key.toList = true) : lessV a b = true := by
  have hk : a.key ≠ b.key := fun e => by rw [e, Ord.less_irrefl] at h; cases h
  unfold lessV
  rw [if_pos hk]
  exact h
theorem filter_two {p : Ver → Bool} : ∀ {r : List Ver}, r.Pairwise (fun a b => p b = true → p a = true) → r.filter p ++ r.filter (fun v => !p v) = r
  | [], _ => rfl
  | x :: r, h => by
    rw [List.pairwise_cons] at h
    have ih := filter_two h.2
    cases hp : p x
    · have hn : ∀ y ∈ r, p y = false := fun y hy => by
        cases hq : p y
        · rfl
        · have := h.1 y hy hq; rw [hp] at this; cases this
      rw [List.filter_cons_of_neg (by simp [hp]), List.filter_cons_of_pos (by simp [hp]), List.filter_eq_nil_iff.2 (fun y hy => by simp [hn y hy]), List.filter_eq_self.2 (fun y hy => by simp [hn y hy])]
      rfl
    · rw [List.filter_cons_of_pos hp, List.filter_cons_of_neg (by simp [hp]), List.cons_append, ih]
/-- Two ranges that touch are all. -/
theorem range_halves {r : List Ver} (hg : GoodV r) (mid : ByteArray) :
    (r.filter fun v => !Op.bytesLess v.key.toList (⟨#[]⟩ : ByteArray).toList && Op.bytesLess v.key.toList mid.toList) ++ (r.filter fun v => !Op.bytesLess v.key.toList mid.toList && Op.bytesLess v.key.toList (⟨#[255]⟩ : ByteArray).toList) = r := by
  have e1 : (r.filter fun v => !Op.bytesLess v.key.toList (⟨#[]⟩ : ByteArray).toList && Op.bytesLess v.key.toList mid.toList) = r.filter fun v => Op.bytesLess v.key.toList mid.toList :=
    List.filter_congr fun v _ => by rw [less_empty]; rfl
  have e2 : (r.filter fun v => !Op.bytesLess v.key.toList mid.toList && Op.bytesLess v.key.toList (⟨#[255]⟩ : ByteArray).toList) = r.filter fun v => !Op.bytesLess v.key.toList mid.toList :=
    List.filter_congr fun v hv => by rw [key_ff (hg.may v hv), Bool.and_true]
  rw [e1, e2]
  refine filter_two (List.Pairwise.imp (fun {a b} h hb => ?_) hg.asc)
  rcases lessV_key h with e | e
  · rw [e]; exact hb
  · exact less_trans _ _ _ e hb
structure KeysOf (l : List Ver) (ks : List ByteArray) : Prop where
  asc : ks.Pairwise fun a b => Op.bytesLess a.toList b.toList = true
  mem : ∀ k, k ∈ ks ↔ ∃ x ∈ l, x.key = k
  last : ks.getLast? = l.getLast?.map (·.key)
theorem keys_of {l : List Ver} (h : AscV l) : ∀ k, k ≤ l.length → KeysOf (l.take k) (keysV (l.take k)) := by
  intro k
  induction k with
  | zero => intro _; rw [List.take_zero]; exact ⟨List.Pairwise.nil, fun k => by simp [keysV], rfl⟩
  | succ k ih =>
    intro hk
    have hk : k < l.length := hk
    have I := ih (Nat.le_of_lt hk)
    rw [keys_succ hk]
    have hl : (l.take (k + 1)).getLast? = some l[k] := by rw [List.take_succ_eq_append_getElem hk]; exact List.getLast?_concat
    have hmem : ∀ x, x ∈ l.take (k + 1) ↔ x ∈ l.take k ∨ x = l[k] := fun x => by rw [List.take_succ_eq_append_getElem hk, List.mem_append, List.mem_singleton]
    have hle : ∀ x ∈ l.take k, lessV x l[k] = true := fun x hx => by
      obtain ⟨i, hi, rfl⟩ := List.mem_iff_getElem.1 hx
      rw [List.length_take] at hi
      rw [List.getElem_take]
      exact List.pairwise_iff_getElem.1 h i k (by omega) hk (by omega)
    by_cases hq : (keysV (l.take k)).getLast? = some l[k].key
    · rw [keyStep, if_pos hq]
      refine ⟨I.asc, fun q => ?_, by rw [hq, hl]; rfl⟩
      rw [I.mem]
      constructor
      · rintro ⟨x, hx, e⟩; exact ⟨x, (hmem x).2 (.inl hx), e⟩
      · rintro ⟨x, hx, e⟩
        rcases (hmem x).1 hx with h1 | rfl
        · exact ⟨x, h1, e⟩
        · exact (I.mem q).1 (e ▸ List.mem_of_getLast? hq)
    · rw [keyStep, if_neg hq]
      refine ⟨?_, fun q => ?_, by rw [hl]; simp⟩
      · rw [List.pairwise_append]
        refine ⟨I.asc, by simp, fun a ha b hb => ?_⟩
        rw [List.mem_singleton.1 hb]
        obtain ⟨x, hx, rfl⟩ := (I.mem a).1 ha
        rcases lessV_key (hle x hx) with e | e
        · exfalso
          have hne : l.take k ≠ [] := fun e => by rw [e] at hx; cases hx
          obtain ⟨y, hy⟩ : ∃ y, (l.take k).getLast? = some y := ⟨_, List.getLast?_eq_some_getLast hne⟩
          have hlast := I.last
          rw [hy] at hlast
          have hym := List.mem_of_getLast? hy
          have hxy : x = y ∨ lessV x y = true := by
            obtain ⟨t, ht⟩ := List.getLast?_eq_some_iff.1 hy
            have hp := asc_sub h (List.take_sublist k l)
            unfold AscV at hp
            rw [ht, List.pairwise_append] at hp
            rw [ht, List.mem_append, List.mem_singleton] at hx
            rcases hx with hx | hx
            · exact .inr (hp.2.2 x hx y (by simp))
            · exact .inl hx
          have hyk : y.key = l[k].key := by
            rcases hxy with rfl | hxy
            · exact e
            · rcases lessV_key hxy with e1 | e1
              · rw [← e1]; exact e
              · rcases lessV_key (hle y hym) with e2 | e2
                · exact e2
                · have := less_trans _ _ _ e1 e2
                  rw [e, Ord.less_irrefl] at this
                  cases this
          exact hq (by rw [hlast, ← hyk]; rfl)
        · exact e
      · rw [List.mem_append, List.mem_singleton, I.mem]
        constructor
        · rintro (⟨x, hx, e⟩ | rfl)
          · exact ⟨x, (hmem x).2 (.inl hx), e⟩
          · exact ⟨l[k], (hmem _).2 (.inr rfl), rfl⟩
        · rintro ⟨x, hx, e⟩
          rcases (hmem x).1 hx with h1 | rfl
          · exact .inl ⟨x, h1, e⟩
          · exact .inr e.symm
/-- All keys' versions, one key after the other, are all. -/
theorem keys_all {r : List Ver} (hg : GoodV r) : (keysV r).flatMap (fun k => r.filter fun v => decide (v.key = k)) = r := by
  have I := keys_of hg.asc r.length (Nat.le_refl _)
  rw [List.take_length] at I
  refine asc_eq ?_ hg.asc fun x => ?_
  · unfold AscV
    rw [List.pairwise_flatMap]
    refine ⟨fun k _ => asc_sub hg.asc List.filter_sublist, I.asc.imp fun {a b} h x hx y hy => ?_⟩
    have e1 := (List.mem_filter.1 hx).2
    have e2 := (List.mem_filter.1 hy).2
    simp only [decide_eq_true_eq] at e1 e2
    exact key_lessV (by rw [e1, e2]; exact h)
  · rw [List.mem_flatMap]
    constructor
    · rintro ⟨k, -, hx⟩; exact (List.mem_filter.1 hx).1
    · intro hx
      exact ⟨x.key, (I.mem _).2 ⟨x, hx, rfl⟩, List.mem_filter.2 ⟨hx, by simp⟩⟩
end Go.Proofs.Ytigdkflknhdbgaa
