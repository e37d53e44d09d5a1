/- Layer 4, plain facts: spans, pieces, and what the document tells of them. -/
import Derived.Test.YtlpakooogbaclaaRows
import Derived.WalkKit
namespace Go.Proofs.Ytlpakooogbaclaa
open Go.RowKit
set_option linter.unusedVariables false

abbrev Sp := Int × Int
abbrev Pc := Sp × ByteArray
def mayB (s : Sp) : Bool := decide (0 ≤ s.1 ∧ s.1 < s.2 ∧ s.2 ≤ 1099511627776)
def hasB (s : Sp) (t : Int) : Bool := mayB s && decide (s.1 ≤ t ∧ t < s.2)
theorem mayB_iff {s : Sp} : mayB s = true ↔ 0 ≤ s.1 ∧ s.1 < s.2 ∧ s.2 ≤ 1099511627776 := by simp [mayB]
theorem hasB_iff {s : Sp} {t : Int} : hasB s t = true ↔ mayB s = true ∧ s.1 ≤ t ∧ t < s.2 := by simp [hasB]
theorem hasB_false {s : Sp} {t : Int} : hasB s t = false ↔ (mayB s = true → s.1 ≤ t → s.2 ≤ t) := by
  rw [← Bool.not_eq_true, hasB_iff]
  constructor
  · intro h h1 h2; exact Int.not_lt.1 fun h3 => h ⟨h1, h2, h3⟩
  · rintro h ⟨h1, h2, h3⟩; have := h h1 h2; omega
theorem has_out {s : Sp} (t : Int) (h : mayB s = false) : hasB s t = false := by simp [hasB, h]

/-- What two have in common. -/
def meetF (a b : Sp) : Sp × Bool :=
  if mayB a = true ∧ mayB b = true ∧ b.1 < a.2 ∧ a.1 < b.2 then ((if b.1 > a.1 then b.1 else a.1, if b.2 < a.2 then b.2 else a.2), true) else ((0, 0), false)
theorem meet_has (a b : Sp) (t : Int) : ((meetF a b).2 && hasB (meetF a b).1 t) = (hasB a t && hasB b t) := by
  unfold meetF
  by_cases h : mayB a = true ∧ mayB b = true ∧ b.1 < a.2 ∧ a.1 < b.2
  · obtain ⟨ha, hb, h1, h2⟩ := h
    have ha' := mayB_iff.1 ha
    have hb' := mayB_iff.1 hb
    rw [if_pos ⟨ha, hb, h1, h2⟩, Bool.eq_iff_iff]
    simp only [Bool.true_and, Bool.and_eq_true, hasB_iff, mayB_iff]
    split <;> split <;> omega
  · rw [if_neg h, Bool.eq_iff_iff]
    simp only [Bool.false_and, Bool.and_eq_true, hasB_iff]
    constructor
    · intro h; cases h
    · rintro ⟨⟨ha, h1, h2⟩, hb, h3, h4⟩
      exact absurd ⟨ha, hb, by omega, by omega⟩ h
theorem meet_pos {a b : Sp} (h : mayB a = true ∧ mayB b = true ∧ b.1 < a.2 ∧ a.1 < b.2) : meetF a b = ((if b.1 > a.1 then b.1 else a.1, if b.2 < a.2 then b.2 else a.2), true) := if_pos h
theorem meet_neg {a b : Sp} (h : ¬ (mayB a = true ∧ mayB b = true ∧ b.1 < a.2 ∧ a.1 < b.2)) : meetF a b = ((0, 0), false) := if_neg h
theorem meet_side (a b : Sp) : meetF a b = meetF b a := by
  by_cases h : mayB a = true ∧ mayB b = true ∧ b.1 < a.2 ∧ a.1 < b.2
  · rw [meet_pos h, meet_pos ⟨h.2.1, h.1, h.2.2.2, h.2.2.1⟩]
    have e1 : (if b.1 > a.1 then b.1 else a.1) = (if a.1 > b.1 then a.1 else b.1) := by split <;> split <;> omega
    have e2 : (if b.2 < a.2 then b.2 else a.2) = (if a.2 < b.2 then a.2 else b.2) := by split <;> split <;> omega
    rw [e1, e2]
  · rw [meet_neg h, meet_neg (fun k => h ⟨k.2.1, k.1, k.2.2.2, k.2.2.1⟩)]
theorem meet_in {a b : Sp} (h : (meetF a b).2 = true) : mayB (meetF a b).1 = true ∧ a.1 ≤ (meetF a b).1.1 ∧ (meetF a b).1.2 ≤ a.2 ∧ b.1 ≤ (meetF a b).1.1 ∧ (meetF a b).1.2 ≤ b.2 ∧ mayB a = true ∧ mayB b = true := by
  unfold meetF at *
  by_cases hc : mayB a = true ∧ mayB b = true ∧ b.1 < a.2 ∧ a.1 < b.2
  · obtain ⟨ha, hb, h1, h2⟩ := hc
    have ha' := mayB_iff.1 ha
    have hb' := mayB_iff.1 hb
    rw [if_pos ⟨ha, hb, h1, h2⟩]
    simp only [mayB_iff]
    refine ⟨?_, ?_, ?_, ?_, ?_, ha', hb'⟩ <;> (repeat' split) <;> omega
  · rw [if_neg hc] at h; cases h

/-- What of one is left without the other. -/
def minusF (a b : Sp) : List Sp :=
  if mayB a = true then
    if mayB b = true ∧ b.1 < a.2 ∧ a.1 < b.2 then (if a.1 < b.1 then [(a.1, b.1)] else []) ++ (if b.2 < a.2 then [(b.2, a.2)] else []) else [a]
  else []
theorem minus_has (a b : Sp) (t : Int) : ((minusF a b).any fun m => hasB m t) = (hasB a t && !hasB b t) := by
  unfold minusF
  by_cases ha : mayB a = true
  · have ha' := mayB_iff.1 ha
    rw [if_pos ha]
    by_cases hb : mayB b = true ∧ b.1 < a.2 ∧ a.1 < b.2
    · have hb' := mayB_iff.1 hb.1
      rw [if_pos hb, Bool.eq_iff_iff]
      simp only [List.any_append, Bool.or_eq_true, Bool.and_eq_true, Bool.not_eq_true', hasB_iff, hasB_false, mayB_iff]
      split <;> split <;> simp [hasB_iff, mayB_iff] <;> omega
    · rw [if_neg hb, Bool.eq_iff_iff]
      simp only [List.any_cons, List.any_nil, Bool.or_false, Bool.and_eq_true, Bool.not_eq_true', hasB_iff, hasB_false]
      constructor
      · rintro ⟨_, h1, h2⟩
        exact ⟨⟨ha, h1, h2⟩, fun h3 h4 => Int.not_lt.1 fun h5 => hb ⟨h3, by omega, by omega⟩⟩
      · exact fun h => h.1
  · rw [if_neg ha]
    have : hasB a t = false := has_out t (by simpa using ha)
    simp [this]
theorem minus_one (a b : Sp) (t : Int) : ((minusF a b).filter fun m => hasB m t).length ≤ 1 := by
  unfold minusF
  by_cases ha : mayB a = true
  · rw [if_pos ha]
    by_cases hb : mayB b = true ∧ b.1 < a.2 ∧ a.1 < b.2
    · have hb' := mayB_iff.1 hb.1
      rw [if_pos hb, List.filter_append, List.length_append]
      have h1 : ((if a.1 < b.1 then [(a.1, b.1)] else []).filter fun m => hasB m t).length ≤ 1 := by
        refine Nat.le_trans (List.length_filter_le _ _) ?_
        split <;> simp
      have h2 : ((if b.2 < a.2 then [(b.2, a.2)] else []).filter fun m => hasB m t).length ≤ 1 := by
        refine Nat.le_trans (List.length_filter_le _ _) ?_
        split <;> simp
      by_cases ht : t < b.2
      · have : (if b.2 < a.2 then [(b.2, a.2)] else []).filter (fun m => hasB m t) = [] := by
          split
          · have : hasB (b.2, a.2) t = false := hasB_false.2 fun _ h => by simp at h; omega
            simp [this]
          · rfl
        rw [this]; simpa using h1
      · have : (if a.1 < b.1 then [(a.1, b.1)] else []).filter (fun m => hasB m t) = [] := by
          split
          · have : hasB (a.1, b.1) t = false := hasB_false.2 fun _ h => by simp; omega
            simp [this]
          · rfl
        rw [this]; simpa using h2
    · rw [if_neg hb]
      exact Nat.le_trans (List.length_filter_le _ _) (by simp)
  · rw [if_neg ha]; simp
/-- Where a piece of it lies. -/
theorem minus_in {a b m : Sp} (h : m ∈ minusF a b) : mayB m = true ∧ a.1 ≤ m.1 ∧ m.2 ≤ a.2 ∧ mayB a = true ∧ (mayB b = true → m.2 ≤ b.1 ∨ b.2 ≤ m.1) := by
  unfold minusF at h
  by_cases ha : mayB a = true
  · have ha' := mayB_iff.1 ha
    rw [if_pos ha] at h
    by_cases hb : mayB b = true ∧ b.1 < a.2 ∧ a.1 < b.2
    · have hb' := mayB_iff.1 hb.1
      rw [if_pos hb, List.mem_append] at h
      rcases h with h | h
      · split at h
        · simp at h; subst h; rw [mayB_iff]; simp only; refine ⟨?_, ?_, ?_, ha, fun _ => ?_⟩ <;> omega
        · simp at h
      · split at h
        · simp at h; subst h; rw [mayB_iff]; simp only; refine ⟨?_, ?_, ?_, ha, fun _ => ?_⟩ <;> omega
        · simp at h
    · rw [if_neg hb] at h
      simp at h
      subst h
      refine ⟨ha, Int.le_refl _, Int.le_refl _, ha, fun hb1 => ?_⟩
      rcases Int.lt_or_le b.1 m.2 with h1 | h1
      · rcases Int.lt_or_le m.1 b.2 with h2 | h2
        · exact absurd ⟨hb1, h1, h2⟩ hb
        · exact .inr h2
      · exact .inl h1
  · rw [if_neg ha] at h; simp at h
theorem minus_order (a b : Sp) : (minusF a b).Pairwise fun m n => m.2 ≤ n.1 := by
  unfold minusF
  split
  · rename_i ha
    split
    · rename_i hb
      have hb' := mayB_iff.1 hb.1
      split <;> split <;> simp <;> omega
    · simp
  · simp
theorem minus_self {a m : Sp} (hm : mayB m = true) (ha : mayB a = true) (h1 : a.1 ≤ m.1) (h2 : m.2 ≤ a.2) : minusF m a = [] := by
  have hm' := mayB_iff.1 hm
  have ha' := mayB_iff.1 ha
  unfold minusF
  rw [if_pos hm, if_pos ⟨ha, by omega, by omega⟩, if_neg (by omega), if_neg (by omega)]
  rfl
theorem minus_len (a b : Sp) : (minusF a b).length ≤ 2 := by
  unfold minusF
  (repeat' split) <;> simp

/-- Pieces without a span. -/
def withoutF (l : List Pc) (s : Sp) : List Pc := if mayB s = true then l.flatMap fun p => (minusF p.1 s).map fun m => (m, p.2) else l
def insF : List Pc → Pc → List Pc
  | [], p => [p]
  | q :: r, p => if q.1.1 ≥ p.1.2 then p :: q :: r else q :: insF r p
/-- Pieces with one over them. -/
def overF (l : List Pc) (p : Pc) : List Pc := if mayB p.1 = true then insF (withoutF l p.1) p else l
def ordB : List Pc → Bool
  | [] => true
  | [p] => mayB p.1
  | p :: q :: r => mayB p.1 && decide (p.1.2 ≤ q.1.1) && ordB (q :: r)
/-- What stands at a time. -/
def atF (l : List Pc) (t : Int) : ByteArray × Bool := match l.find? fun p => hasB p.1 t with | some p => (p.2, true) | none => (⟨#[]⟩, false)
theorem atF_nil (t : Int) : atF [] t = (⟨#[]⟩, false) := rfl
theorem atF_cons (p : Pc) (l : List Pc) (t : Int) : atF (p :: l) t = if hasB p.1 t = true then (p.2, true) else atF l t := by
  unfold atF
  rw [List.find?_cons]
  cases h : hasB p.1 t <;> simp
theorem atF_none {l : List Pc} {t : Int} (h : ∀ p ∈ l, hasB p.1 t = false) : atF l t = (⟨#[]⟩, false) := by
  unfold atF
  rw [List.find?_eq_none.2 (fun p hp => by simp [h p hp])]
theorem atF_append_none {l m : List Pc} {t : Int} (h : ∀ p ∈ l, hasB p.1 t = false) : atF (l ++ m) t = atF m t := by
  unfold atF
  rw [List.find?_append, List.find?_eq_none.2 (fun p hp => by simp [h p hp])]
  simp
theorem atF_append_some {l m : List Pc} {t : Int} {v : ByteArray} (h : ∀ p ∈ l, p.2 = v) (hs : ∃ p ∈ l, hasB p.1 t = true) : atF (l ++ m) t = (v, true) := by
  unfold atF
  rw [List.find?_append]
  cases hf : l.find? (fun p => hasB p.1 t) with
  | none =>
    obtain ⟨p, hp, h1⟩ := hs
    have := List.find?_eq_none.1 hf p hp
    simp [h1] at this
  | some q =>
    have := List.mem_of_find?_eq_some hf
    simp [h q this]
theorem at_without (l : List Pc) (s : Sp) (t : Int) : atF (withoutF l s) t = if hasB s t = true then (⟨#[]⟩, false) else atF l t := by
  unfold withoutF
  by_cases hs : mayB s = true
  · rw [if_pos hs]
    induction l with
    | nil => simp [atF_nil]
    | cons p l ih =>
      rw [List.flatMap_cons, atF_cons]
      have key := minus_has p.1 s t
      by_cases ht : hasB s t = true
      · rw [if_pos ht] at ih ⊢
        rw [atF_append_none, ih]
        intro q hq
        obtain ⟨m, hm, rfl⟩ := List.mem_map.1 hq
        rw [ht] at key
        simp only [Bool.not_true, Bool.and_false, List.any_eq_false] at key
        simpa using key m hm
      · have ht' : hasB s t = false := by simpa using ht
        rw [if_neg ht] at ih ⊢
        rw [ht', Bool.not_false, Bool.and_true] at key
        by_cases hp : hasB p.1 t = true
        · rw [if_pos hp]
          rw [hp] at key
          obtain ⟨m, hm, h1⟩ := List.any_eq_true.1 key
          exact atF_append_some (fun q hq => by obtain ⟨m, _, rfl⟩ := List.mem_map.1 hq; rfl) ⟨_, List.mem_map.2 ⟨m, hm, rfl⟩, h1⟩
        · have hp' : hasB p.1 t = false := by simpa using hp
          rw [if_neg hp, atF_append_none, ih]
          intro q hq
          obtain ⟨m, hm, rfl⟩ := List.mem_map.1 hq
          rw [hp'] at key
          simp only [List.any_eq_false] at key
          simpa using key m hm
  · rw [if_neg hs, has_out t (by simpa using hs)]
    simp
theorem without_none {l : List Pc} {s : Sp} {t : Int} (ht : hasB s t = true) : ∀ p ∈ withoutF l s, hasB p.1 t = false := by
  intro p hp
  have hs := (hasB_iff.1 ht).1
  unfold withoutF at hp
  rw [if_pos hs] at hp
  obtain ⟨q, hq, h1⟩ := List.mem_flatMap.1 hp
  obtain ⟨m, hm, rfl⟩ := List.mem_map.1 h1
  have key := minus_has q.1 s t
  rw [ht] at key
  simp only [Bool.not_true, Bool.and_false, List.any_eq_false] at key
  simpa using key m hm
theorem at_ins (r : List Pc) (p : Pc) (t : Int) (h : hasB p.1 t = true → ∀ q ∈ r, hasB q.1 t = false) : atF (insF r p) t = if hasB p.1 t = true then (p.2, true) else atF r t := by
  induction r with
  | nil => simp [insF, atF_cons, atF_nil]
  | cons q r ih =>
    unfold insF
    split
    · rw [atF_cons]
    · rw [atF_cons, ih (fun hp x hx => h hp x (by simp [hx])), atF_cons]
      by_cases hp : hasB p.1 t = true
      · rw [if_pos hp, if_neg (by rw [h hp q (by simp)]; simp)]
        simp [hp]
      · rw [if_neg hp, if_neg hp]
/-- What is told of a time is what was put over it last. -/
theorem at_over (l : List Pc) (p : Pc) (t : Int) : atF (overF l p) t = if hasB p.1 t = true then (p.2, true) else atF l t := by
  unfold overF
  by_cases hp : mayB p.1 = true
  · rw [if_pos hp, at_ins _ _ _ (fun h => without_none h), at_without]
    by_cases ht : hasB p.1 t = true
    · rw [if_pos ht, if_pos ht]
    · rw [if_neg ht, if_neg ht]; simp [ht]
  · rw [if_neg hp, has_out t (by simpa using hp)]
    simp

/-- In order. -/
theorem ordB_iff (l : List Pc) : ordB l = true ↔ (∀ p ∈ l, mayB p.1 = true) ∧ l.Pairwise fun p q => p.1.2 ≤ q.1.1 := by
  induction l with
  | nil => simp [ordB]
  | cons p l ih =>
    cases l with
    | nil => simp [ordB]
    | cons q r =>
      unfold ordB
      rw [Bool.and_eq_true, Bool.and_eq_true, ih, decide_eq_true_iff, List.pairwise_cons (l := q :: r)]
      constructor
      · rintro ⟨⟨h1, h2⟩, h3, h4⟩
        refine ⟨fun x hx => ?_, fun x hx => ?_, h4⟩
        · rcases List.mem_cons.1 hx with rfl | hx
          · exact h1
          · exact h3 x hx
        · rcases List.mem_cons.1 hx with rfl | hx
          · exact h2
          · have h5 := (List.pairwise_cons.1 h4).1 x hx
            have h6 := mayB_iff.1 (h3 q (by simp))
            omega
      · rintro ⟨h1, h2, h3⟩
        exact ⟨⟨h1 p (by simp), h2 q (by simp)⟩, fun x hx => h1 x (List.mem_cons_of_mem _ hx), h3⟩
theorem ord_without {l : List Pc} (s : Sp) (h : ordB l = true) : ordB (withoutF l s) = true := by
  unfold withoutF
  by_cases hs : mayB s = true
  · rw [if_pos hs]
    rw [ordB_iff] at h ⊢
    obtain ⟨h1, h2⟩ := h
    refine ⟨fun p hp => ?_, ?_⟩
    · obtain ⟨q, hq, h3⟩ := List.mem_flatMap.1 hp
      obtain ⟨m, hm, rfl⟩ := List.mem_map.1 h3
      exact (minus_in hm).1
    · induction l with
      | nil => simp
      | cons p l ih =>
        rw [List.flatMap_cons, List.pairwise_append]
        obtain ⟨h3, h4⟩ := List.pairwise_cons.1 h2
        refine ⟨?_, ih (fun x hx => h1 x (by simp [hx])) h4, fun x hx y hy => ?_⟩
        · rw [List.pairwise_map]; exact minus_order _ _
        · obtain ⟨m, hm, rfl⟩ := List.mem_map.1 hx
          obtain ⟨q, hq, h5⟩ := List.mem_flatMap.1 hy
          obtain ⟨n, hn, rfl⟩ := List.mem_map.1 h5
          have h6 := minus_in hm
          have h7 := minus_in hn
          have h8 := h3 q hq
          simp only
          omega
  · rw [if_neg hs]; exact h
theorem ord_ins {r : List Pc} {p : Pc} (h : ordB r = true) (hp : mayB p.1 = true) (ha : ∀ q ∈ r, q.1.2 ≤ p.1.1 ∨ p.1.2 ≤ q.1.1) : ordB (insF r p) = true := by
  rw [ordB_iff] at h ⊢
  have hp' := mayB_iff.1 hp
  have mem : ∀ (r : List Pc) x, x ∈ insF r p → x = p ∨ x ∈ r := by
    intro r
    induction r with
    | nil => intro x hx; simp [insF] at hx; exact .inl hx
    | cons q r ih =>
      intro x hx
      unfold insF at hx
      split at hx
      · rcases List.mem_cons.1 hx with h | h
        · exact .inl h
        · exact .inr h
      · rcases List.mem_cons.1 hx with h | h
        · exact .inr (by simp [h])
        · exact (ih x h).imp id (fun h => by simp [h])
  refine ⟨fun x hx => ?_, ?_⟩
  · rcases mem r x hx with rfl | hx
    · exact hp
    · exact h.1 x hx
  · induction r with
    | nil => simp [insF]
    | cons q r ih =>
      obtain ⟨h1, h2⟩ := h
      obtain ⟨h3, h4⟩ := List.pairwise_cons.1 h2
      have hq := mayB_iff.1 (h1 q (by simp))
      unfold insF
      split
      · rename_i hge
        rw [List.pairwise_cons]
        refine ⟨fun x hx => ?_, h2⟩
        rcases List.mem_cons.1 hx with rfl | hx
        · omega
        · have := h3 x hx; omega
      · rename_i hlt
        rw [List.pairwise_cons]
        refine ⟨fun x hx => ?_, ih ⟨fun x hx => h1 x (by simp [hx]), h4⟩ (fun x hx => ha x (by simp [hx]))⟩
        rcases mem r x hx with rfl | hx
        · have := ha q (by simp); omega
        · exact h3 x hx
theorem ord_over {l : List Pc} (p : Pc) (h : ordB l = true) : ordB (overF l p) = true := by
  unfold overF
  by_cases hp : mayB p.1 = true
  · rw [if_pos hp]
    refine ord_ins (ord_without _ h) hp fun q hq => ?_
    unfold withoutF at hq
    rw [if_pos hp] at hq
    obtain ⟨x, _, h1⟩ := List.mem_flatMap.1 hq
    obtain ⟨m, hm, rfl⟩ := List.mem_map.1 h1
    exact (minus_in hm).2.2.2.2 hp
  · rw [if_neg hp]; exact h
theorem without_len (l : List Pc) (s : Sp) : (withoutF l s).length ≤ 2 * l.length := by
  unfold withoutF
  split
  · induction l with
    | nil => simp
    | cons p l ih =>
      rw [List.flatMap_cons, List.length_append, List.length_map, List.length_cons]
      have := minus_len p.1 s
      omega
  · omega
theorem ins_len (r : List Pc) (p : Pc) : (insF r p).length = r.length + 1 := by
  induction r with
  | nil => rfl
  | cons q r ih => unfold insF; split <;> simp [ih]
theorem over_len (l : List Pc) (p : Pc) : (overF l p).length ≤ 2 * l.length + 1 := by
  unfold overF
  split
  · rw [ins_len]; have := without_len l p.1; omega
  · omega
end Go.Proofs.Ytlpakooogbaclaa
/- Layer 4, plain facts: the least pieces. -/
namespace Go.Proofs.Ytlpakooogbaclaa
open Go.RowKit
set_option linter.unusedVariables false

/-- Two that touch, and tell the same. -/
def tch (q p : Pc) : Prop := q.1.2 = p.1.1 ∧ q.2 = p.2
instance (q p : Pc) : Decidable (tch q p) := inferInstanceAs (Decidable (_ ∧ _))
/-- One piece more. -/
def lstep (out : List Pc) (p : Pc) : List Pc := match out.getLast? with
  | some q => if tch q p then out.dropLast ++ [((q.1.1, p.1.2), q.2)] else out ++ [p]
  | none => out ++ [p]
def leastF (l : List Pc) : List Pc := l.foldl lstep []
theorem lstep_nil (p : Pc) : lstep [] p = [p] := rfl
theorem lstep_snoc (xs : List Pc) (q p : Pc) : lstep (xs ++ [q]) p = if tch q p then xs ++ [((q.1.1, p.1.2), q.2)] else xs ++ [q] ++ [p] := by
  simp [lstep]
theorem snoc_or {α : Type} (l : List α) : l = [] ∨ ∃ xs q, l = xs ++ [q] := by
  rcases List.eq_nil_or_concat l with h | ⟨xs, q, h⟩
  · exact .inl h
  · exact .inr ⟨xs, q, by simpa using h⟩
theorem lstep_len (out : List Pc) (p : Pc) : (lstep out p).length ≤ out.length + 1 := by
  rcases snoc_or out with rfl | ⟨xs, q, rfl⟩
  · simp [lstep]
  · rw [lstep_snoc]; split <;> simp
theorem least_len (l : List Pc) : (leastF l).length ≤ l.length := by
  have : ∀ (l out : List Pc), (l.foldl lstep out).length ≤ out.length + l.length := by
    intro l
    induction l with
    | nil => intro out; simp
    | cons p l ih =>
      intro out
      have h1 := ih (lstep out p)
      have h2 := lstep_len out p
      rw [List.foldl_cons, List.length_cons]; omega
  simpa [leastF] using this l []

theorem atF_congr (xs : List Pc) {ys zs : List Pc} {t : Int} (h : atF ys t = atF zs t) : atF (xs ++ ys) t = atF (xs ++ zs) t := by
  induction xs with
  | nil => exact h
  | cons p xs ih => rw [List.cons_append, List.cons_append, atF_cons, atF_cons, ih]
/-- Two that touch, made one. -/
theorem one_ok {xs r : List Pc} {q p : Pc} (h : ordB (xs ++ q :: p :: r) = true) (ht : tch q p) :
    ordB (xs ++ ((q.1.1, p.1.2), q.2) :: r) = true ∧ ∀ t, atF (xs ++ ((q.1.1, p.1.2), q.2) :: r) t = atF (xs ++ q :: p :: r) t := by
  obtain ⟨h1, h2⟩ := (ordB_iff _).1 h
  have hq := h1 q (by simp)
  have hp := h1 p (by simp)
  have hq' := mayB_iff.1 hq
  have hp' := mayB_iff.1 hp
  obtain ⟨t1, t2⟩ := ht
  have hm : mayB (q.1.1, p.1.2) = true := mayB_iff.2 ⟨by simp only; omega, by simp only; omega, by simp only; omega⟩
  obtain ⟨a1, a2, a3⟩ := List.pairwise_append.1 h2
  obtain ⟨a4, a5⟩ := List.pairwise_cons.1 a2
  obtain ⟨a6, a7⟩ := List.pairwise_cons.1 a5
  refine ⟨(ordB_iff _).2 ⟨fun x hx => ?_, ?_⟩, fun t => atF_congr xs ?_⟩
  · rcases List.mem_append.1 hx with hx | hx
    · exact h1 x (by simp [hx])
    · rcases List.mem_cons.1 hx with rfl | hx
      · exact hm
      · exact h1 x (by simp [hx])
  · refine List.pairwise_append.2 ⟨a1, List.pairwise_cons.2 ⟨fun y hy => a6 y hy, a7⟩, fun x hx y hy => ?_⟩
    rcases List.mem_cons.1 hy with rfl | hy
    · exact a3 x hx q (by simp)
    · exact a3 x hx y (by simp [hy])
  · rw [atF_cons, atF_cons, atF_cons]
    have key : hasB (q.1.1, p.1.2) t = (hasB q.1 t || hasB p.1 t) := by
      rw [Bool.eq_iff_iff, Bool.or_eq_true]
      simp only [hasB_iff, hq, hp, hm, true_and]
      omega
    rw [key]
    by_cases h3 : hasB q.1 t = true
    · simp [h3]
    · by_cases h4 : hasB p.1 t = true
      · simp [h4, t2]
      · simp [h3, h4]
theorem fold_ok (l : List Pc) : ∀ out, ordB (out ++ l) = true → ordB (l.foldl lstep out) = true ∧ ∀ t, atF (l.foldl lstep out) t = atF (out ++ l) t := by
  induction l with
  | nil => intro out h; simpa using h
  | cons p l ih =>
    intro out h
    rw [List.foldl_cons]
    rcases snoc_or out with rfl | ⟨xs, q, rfl⟩
    · exact ih [p] h
    · rw [lstep_snoc]
      by_cases ht : tch q p
      · rw [if_pos ht]
        have h' : ordB (xs ++ q :: p :: l) = true := by simpa using h
        obtain ⟨h1, h2⟩ := one_ok h' ht
        obtain ⟨h3, h4⟩ := ih (xs ++ [((q.1.1, p.1.2), q.2)]) (by simpa using h1)
        refine ⟨h3, fun t => ?_⟩
        rw [h4 t]
        simpa using h2 t
      · rw [if_neg ht]
        obtain ⟨h3, h4⟩ := ih (xs ++ [q] ++ [p]) (by simpa using h)
        refine ⟨h3, fun t => ?_⟩
        rw [h4 t]
        simp
theorem ord_least {l : List Pc} (h : ordB l = true) : ordB (leastF l) = true := (fold_ok l [] h).1
theorem at_least {l : List Pc} (h : ordB l = true) (t : Int) : atF (leastF l) t = atF l t := (fold_ok l [] h).2 t

/-- No two that touch tell the same. -/
def tight : List Pc → Prop
  | [] => True
  | [_] => True
  | q :: p :: r => ¬ tch q p ∧ tight (p :: r)
theorem tight_snoc (xs : List Pc) (q p : Pc) : tight (xs ++ [q] ++ [p]) ↔ tight (xs ++ [q]) ∧ ¬ tch q p := by
  induction xs with
  | nil => simp [tight]
  | cons x xs ih =>
    cases xs with
    | nil => simp [tight]
    | cons y ys =>
      simp only [List.cons_append, tight] at ih ⊢
      rw [ih, and_assoc]
theorem tight_last (xs : List Pc) {q q' : Pc} (h : tight (xs ++ [q])) (h1 : q'.1.1 = q.1.1) (h2 : q'.2 = q.2) : tight (xs ++ [q']) := by
  induction xs with
  | nil => simp [tight]
  | cons x xs ih =>
    cases xs with
    | nil =>
      simp only [List.cons_append, List.nil_append, tight, and_true] at h ⊢
      intro hh
      exact h ⟨by rw [← h1]; exact hh.1, by rw [← h2]; exact hh.2⟩
    | cons y ys =>
      simp only [List.cons_append, tight] at h ih ⊢
      exact ⟨h.1, ih h.2⟩
theorem tight_step {out : List Pc} (p : Pc) (h : tight out) : tight (lstep out p) := by
  rcases snoc_or out with rfl | ⟨xs, q, rfl⟩
  · simp [lstep, tight]
  · rw [lstep_snoc]
    by_cases ht : tch q p
    · rw [if_pos ht]; exact tight_last xs h rfl rfl
    · rw [if_neg ht]; exact (tight_snoc xs q p).2 ⟨h, ht⟩
theorem tight_fold (l : List Pc) : ∀ out, tight out → tight (l.foldl lstep out) := by
  induction l with
  | nil => intro out h; exact h
  | cons p l ih => intro out h; exact ih _ (tight_step p h)
theorem tight_least (l : List Pc) : tight (leastF l) := tight_fold l [] trivial
theorem tight_mid (xs l : List Pc) (q p : Pc) (h : tight (xs ++ q :: p :: l)) : ¬ tch q p := by
  induction xs with
  | nil => exact h.1
  | cons x xs ih =>
    apply ih
    cases xs with
    | nil => exact h.2
    | cons y ys => exact h.2
theorem fold_tight (l : List Pc) : ∀ out, tight (out ++ l) → l.foldl lstep out = out ++ l := by
  induction l with
  | nil => intro out _; simp
  | cons p l ih =>
    intro out h
    rw [List.foldl_cons]
    rcases snoc_or out with rfl | ⟨xs, q, rfl⟩
    · exact ih [p] h
    · have h' : tight (xs ++ q :: p :: l) := by simpa using h
      rw [lstep_snoc, if_neg (tight_mid xs l q p h'), ih _ (by simpa using h)]
      simp
theorem least_again (l : List Pc) : leastF (leastF l) = leastF l := by
  have := fold_tight (leastF l) [] (by simpa using tight_least l)
  simpa [leastF] using this

/-- The first ten bytes of a Value. -/
def cutP (p : Pc) : Pc := if p.2.size > 10 then (p.1, p.2.extract 0 10) else p
theorem cutP_size (p : Pc) : (cutP p).2.size ≤ 10 := by
  unfold cutP
  split
  · rw [ByteArray.size_extract]; omega
  · omega
theorem cutP_sp (p : Pc) : (cutP p).1 = p.1 := by unfold cutP; split <;> rfl
/-- Pieces that others make, one over the other. -/
def madeF (l : List Pc) : List Pc := (l.take 8).foldl (fun o p => overF o (cutP p)) []
theorem ord_fold (l : List Pc) : ∀ o, ordB o = true → ordB (l.foldl (fun o p => overF o (cutP p)) o) = true := by
  induction l with
  | nil => intro o h; exact h
  | cons p l ih => intro o h; exact ih _ (ord_over _ h)
theorem ord_made (l : List Pc) : ordB (madeF l) = true := ord_fold _ [] rfl
end Go.Proofs.Ytlpakooogbaclaa
/- Layer 4, plain facts: what is left of a span, as the document's answer goes: between all ends, what touches made one. -/
namespace Go.Proofs.Ytlpakooogbaclaa
open Go.RowKit
set_option linter.unusedVariables false

/-- A number where it belongs, if it is not there. -/
def putL : List Int → Int → List Int
  | [], n => [n]
  | x :: r, n => if x ≥ n then (if x > n then n :: x :: r else x :: r) else x :: putL r n
def endsF (l : List Sp) : List Int := l.foldl (fun o s => putL (putL o s.1) s.2) []
def mstep (a b : Sp) (out : List Sp) (x y : Int) : List Sp :=
  if hasB a x = true ∧ hasB b x = false then
    match out.getLast? with
    | some q => if q.2 = x then out.dropLast ++ [(q.1, y)] else out ++ [(x, y)]
    | none => out ++ [(x, y)]
  else out
def msweep (a b : Sp) : List Sp → List Int → List Sp
  | out, x :: y :: r => msweep a b (mstep a b out x y) (y :: r)
  | out, _ => out
theorem has_t {x y t : Int} (h : 0 ≤ x ∧ x < y ∧ y ≤ 1099511627776 ∧ x ≤ t ∧ t < y) : hasB (x, y) t = true := hasB_iff.2 ⟨mayB_iff.2 ⟨h.1, h.2.1, h.2.2.1⟩, h.2.2.2⟩
theorem has_f {x y t : Int} (h : ¬ (0 ≤ x ∧ x < y ∧ y ≤ 1099511627776 ∧ x ≤ t ∧ t < y)) : hasB (x, y) t = false := by
  rw [← Bool.not_eq_true, hasB_iff, mayB_iff]
  exact fun k => h ⟨k.1.1, k.1.2.1, k.1.2.2, k.2⟩
theorem mstep_out {a b : Sp} {out : List Sp} {x y : Int} (h : ¬ (hasB a x = true ∧ hasB b x = false)) : mstep a b out x y = out := if_neg h
theorem mstep_nil {a b : Sp} {x y : Int} (h1 : hasB a x = true) (h2 : hasB b x = false) : mstep a b [] x y = [(x, y)] := by
  unfold mstep; rw [if_pos ⟨h1, h2⟩]; rfl
theorem mstep_join {a b : Sp} {out : List Sp} {u x y : Int} (h1 : hasB a x = true) (h2 : hasB b x = false) : mstep a b (out ++ [(u, x)]) x y = out ++ [(u, y)] := by
  unfold mstep; rw [if_pos ⟨h1, h2⟩]; simp
theorem mstep_more {a b : Sp} {out : List Sp} {u v x y : Int} (h1 : hasB a x = true) (h2 : hasB b x = false) (h : v ≠ x) : mstep a b (out ++ [(u, v)]) x y = out ++ [(u, v)] ++ [(x, y)] := by
  unfold mstep; rw [if_pos ⟨h1, h2⟩]; simp [h]

/-- With the ends of one alone, and numbers beside. -/
theorem sweep_all {a b : Sp} (ha : mayB a = true) (hb : ∀ t, a.1 ≤ t → t < a.2 → hasB b t = false) : ∀ (r : List Int) (x : Int) (out : List Sp),
    (x :: r).Pairwise (· < ·) → a.1 ∈ x :: r → a.2 ∈ x :: r → out = [] → msweep a b out (x :: r) = [a] := by
  have run : ∀ (r : List Int) (x : Int), (x :: r).Pairwise (· < ·) → a.2 ∈ x :: r → a.1 < x → x ≤ a.2 → msweep a b [(a.1, x)] (x :: r) = [a] := by
    intro r
    induction r with
    | nil =>
      intro x _ h2 h3 h4
      simp at h2
      subst h2
      rfl
    | cons y r ih =>
      intro x hp h2 h3 h4
      obtain ⟨h5, h6⟩ := List.pairwise_cons.1 hp
      show msweep a b (mstep a b [(a.1, x)] x y) (y :: r) = [a]
      rcases Int.lt_or_le x a.2 with h7 | h7
      · have hx1 : hasB a x = true := hasB_iff.2 ⟨ha, by omega, h7⟩
        rw [show [(a.1, x)] = [] ++ [(a.1, x)] from rfl, mstep_join hx1 (hb x (by omega) h7)]
        have hm : a.2 ∈ y :: r := by
          rcases List.mem_cons.1 h2 with h | h
          · omega
          · exact h
        refine ih y h6 hm (by have := h5 y (by simp); omega) ?_
        rcases List.mem_cons.1 hm with h | h
        · omega
        · have := (List.pairwise_cons.1 h6).1 _ h; omega
      · have : x = a.2 := by omega
        have hx : hasB a x = false := by
          rw [← Bool.not_eq_true, hasB_iff]; omega
        rw [mstep_out (by simp [hx])]
        have rest : ∀ (r : List Int) (z : Int) (out : List Sp), (z :: r).Pairwise (· < ·) → a.2 ≤ z → msweep a b out (z :: r) = out := by
          intro r
          induction r with
          | nil => intro z out _ _; rfl
          | cons u r ih2 =>
            intro z out hp hz
            have hx : hasB a z = false := by rw [← Bool.not_eq_true, hasB_iff]; omega
            show msweep a b (mstep a b out z u) (u :: r) = out
            rw [mstep_out (by simp [hx])]
            exact ih2 u out (List.pairwise_cons.1 hp).2 (by have := (List.pairwise_cons.1 hp).1 u (by simp); omega)
        rw [rest r y _ h6 (by have := h5 y (by simp); omega), this]
  have ha' := mayB_iff.1 ha
  intro r
  induction r with
  | nil =>
    intro x out _ h1 h2 h3
    simp at h1 h2
    omega
  | cons y r ih =>
    intro x out hp h1 h2 h3
    subst h3
    obtain ⟨h5, h6⟩ := List.pairwise_cons.1 hp
    show msweep a b (mstep a b [] x y) (y :: r) = [a]
    by_cases hx : x = a.1
    · have hx1 : hasB a x = true := hasB_iff.2 ⟨ha, by omega, by omega⟩
      rw [mstep_nil hx1 (hb x (by omega) (by omega)), hx]
      have hm : a.2 ∈ y :: r := by
        rcases List.mem_cons.1 h2 with h | h
        · omega
        · exact h
      refine run r y h6 hm (by have := h5 y (by simp); omega) ?_
      rcases List.mem_cons.1 hm with h | h
      · omega
      · have := (List.pairwise_cons.1 h6).1 _ h; omega
    · have hm : a.1 ∈ y :: r := by
        rcases List.mem_cons.1 h1 with h | h
        · exact absurd h.symm hx
        · exact h
      have hlt : x < a.1 := h5 _ hm
      have hx1 : hasB a x = false := by rw [← Bool.not_eq_true, hasB_iff]; omega
      rw [mstep_out (by simp [hx1])]
      refine ih y [] h6 hm ?_ rfl
      rcases List.mem_cons.1 h2 with h | h
      · omega
      · exact h

theorem put_mem (l : List Int) (n x : Int) : x ∈ putL l n ↔ x = n ∨ x ∈ l := by
  induction l with
  | nil => simp [putL]
  | cons y r ih =>
    unfold putL
    split
    · split
      · simp
      · have : y = n := by omega
        subst this
        simp
    · simp only [List.mem_cons, ih]
      constructor
      · rintro (h | h | h)
        · exact .inr (.inl h)
        · exact .inl h
        · exact .inr (.inr h)
      · rintro (h | h | h)
        · exact .inr (.inl h)
        · exact .inl h
        · exact .inr (.inr h)
theorem put_order (l : List Int) (n : Int) (h : l.Pairwise (· < ·)) : (putL l n).Pairwise (· < ·) := by
  induction l with
  | nil => simp [putL]
  | cons y r ih =>
    obtain ⟨h1, h2⟩ := List.pairwise_cons.1 h
    unfold putL
    split
    · split
      · refine List.pairwise_cons.2 ⟨fun z hz => ?_, h⟩
        rcases List.mem_cons.1 hz with rfl | hz
        · omega
        · have := h1 z hz; omega
      · exact h
    · refine List.pairwise_cons.2 ⟨fun z hz => ?_, ih h2⟩
      rcases (put_mem r n z).1 hz with rfl | hz
      · omega
      · exact h1 z hz
theorem ends_two (a b : Sp) : endsF [a, b] = putL (putL (putL (putL [] a.1) a.2) b.1) b.2 := rfl
theorem put_len (l : List Int) (n : Int) : (putL l n).length ≤ l.length + 1 := by
  induction l with
  | nil => simp [putL]
  | cons x r ih => unfold putL; (repeat' split) <;> simp <;> omega

/-- Between all ends: what is left. -/
theorem sweep_minus (a b : Sp) (ha : mayB a = true) : msweep a b [] (endsF [a, b]) = minusF a b := by
  have ha' := mayB_iff.1 ha
  by_cases hov : mayB b = true ∧ b.1 < a.2 ∧ a.1 < b.2
  · obtain ⟨hb, h1, h2⟩ := hov
    have hb' := mayB_iff.1 hb
    have hmin : minusF a b = (if a.1 < b.1 then [(a.1, b.1)] else []) ++ (if b.2 < a.2 then [(b.2, a.2)] else []) := by
      unfold minusF; rw [if_pos ha, if_pos ⟨hb, h1, h2⟩]
    rw [hmin, ends_two]
    obtain ⟨a1, a2⟩ := a
    obtain ⟨b1, b2⟩ := b
    simp only at ha' hb' h1 h2 ⊢
    have e0 : putL (putL [] a1) a2 = [a1, a2] := by
      show putL [a1] a2 = _
      unfold putL; rw [if_neg (by omega)]; rfl
    rw [e0]
    rcases Int.lt_trichotomy b1 a1 with h3 | h3 | h3
    · have e1 : putL [a1, a2] b1 = [b1, a1, a2] := by simp (disch := omega) only [putL, if_pos]
      rw [e1]
      rcases Int.lt_trichotomy b2 a2 with h4 | h4 | h4
      · have e2 : putL [b1, a1, a2] b2 = [b1, a1, b2, a2] := by simp (disch := omega) only [putL, if_pos, if_neg]
        rw [e2]
        simp only [msweep]
        rw [mstep_out (x := b1) (y := a1) (by rw [has_f (x := a1) (y := a2) (t := b1) (by omega)]; simp), mstep_out (x := a1) (y := b2) (by rw [has_t (x := b1) (y := b2) (t := a1) (by omega)]; simp), mstep_nil (x := b2) (y := a2) (has_t (x := a1) (y := a2) (t := b2) (by omega)) (has_f (x := b1) (y := b2) (t := b2) (by omega))]
        simp (disch := omega) only [if_pos, if_neg, List.nil_append]; try rfl
      · subst h4
        have e2 : putL [b1, a1, b2] b2 = [b1, a1, b2] := by simp (disch := omega) only [putL, if_pos, if_neg]
        rw [e2]
        simp only [msweep]
        rw [mstep_out (x := b1) (y := a1) (by rw [has_f (x := a1) (y := b2) (t := b1) (by omega)]; simp), mstep_out (x := a1) (y := b2) (by rw [has_t (x := b1) (y := b2) (t := a1) (by omega)]; simp)]
        simp (disch := omega) only [if_neg, List.append_nil]; try rfl
      · have e2 : putL [b1, a1, a2] b2 = [b1, a1, a2, b2] := by simp (disch := omega) only [putL, if_pos, if_neg]
        rw [e2]
        simp only [msweep]
        rw [mstep_out (x := b1) (y := a1) (by rw [has_f (x := a1) (y := a2) (t := b1) (by omega)]; simp), mstep_out (x := a1) (y := a2) (by rw [has_t (x := b1) (y := b2) (t := a1) (by omega)]; simp), mstep_out (x := a2) (y := b2) (by rw [has_f (x := a1) (y := a2) (t := a2) (by omega)]; simp)]
        simp (disch := omega) only [if_neg, List.append_nil]; try rfl
    · subst h3
      have e1 : putL [b1, a2] b1 = [b1, a2] := by simp (disch := omega) only [putL, if_pos, if_neg]
      rw [e1]
      rcases Int.lt_trichotomy b2 a2 with h4 | h4 | h4
      · have e2 : putL [b1, a2] b2 = [b1, b2, a2] := by simp (disch := omega) only [putL, if_pos, if_neg]
        rw [e2]
        simp only [msweep]
        rw [mstep_out (x := b1) (y := b2) (by rw [has_t (x := b1) (y := b2) (t := b1) (by omega)]; simp), mstep_nil (x := b2) (y := a2) (has_t (x := b1) (y := a2) (t := b2) (by omega)) (has_f (x := b1) (y := b2) (t := b2) (by omega))]
        simp (disch := omega) only [if_pos, if_neg, List.nil_append]; try rfl
      · subst h4
        have e2 : putL [b1, b2] b2 = [b1, b2] := by simp (disch := omega) only [putL, if_pos, if_neg]
        rw [e2]
        simp only [msweep]
        rw [mstep_out (x := b1) (y := b2) (by rw [has_t (x := b1) (y := b2) (t := b1) (by omega)]; simp)]
        simp (disch := omega) only [if_neg, List.append_nil]; try rfl
      · have e2 : putL [b1, a2] b2 = [b1, a2, b2] := by simp (disch := omega) only [putL, if_pos, if_neg]
        rw [e2]
        simp only [msweep]
        rw [mstep_out (x := b1) (y := a2) (by rw [has_t (x := b1) (y := b2) (t := b1) (by omega)]; simp), mstep_out (x := a2) (y := b2) (by rw [has_f (x := b1) (y := a2) (t := a2) (by omega)]; simp)]
        simp (disch := omega) only [if_neg, List.append_nil]; try rfl
    · have e1 : putL [a1, a2] b1 = [a1, b1, a2] := by simp (disch := omega) only [putL, if_pos, if_neg]
      rw [e1]
      rcases Int.lt_trichotomy b2 a2 with h4 | h4 | h4
      · have e2 : putL [a1, b1, a2] b2 = [a1, b1, b2, a2] := by simp (disch := omega) only [putL, if_pos, if_neg]
        rw [e2]
        simp only [msweep]
        rw [mstep_nil (x := a1) (y := b1) (has_t (x := a1) (y := a2) (t := a1) (by omega)) (has_f (x := b1) (y := b2) (t := a1) (by omega)), mstep_out (x := b1) (y := b2) (by rw [has_t (x := b1) (y := b2) (t := b1) (by omega)]; simp), show [(a1, b1)] = [] ++ [(a1, b1)] from rfl, mstep_more (x := b2) (y := a2) (has_t (x := a1) (y := a2) (t := b2) (by omega)) (has_f (x := b1) (y := b2) (t := b2) (by omega)) (by omega)]
        simp (disch := omega) only [if_pos, List.nil_append]; try rfl
      · subst h4
        have e2 : putL [a1, b1, b2] b2 = [a1, b1, b2] := by simp (disch := omega) only [putL, if_pos, if_neg]
        rw [e2]
        simp only [msweep]
        rw [mstep_nil (x := a1) (y := b1) (has_t (x := a1) (y := b2) (t := a1) (by omega)) (has_f (x := b1) (y := b2) (t := a1) (by omega)), mstep_out (x := b1) (y := b2) (by rw [has_t (x := b1) (y := b2) (t := b1) (by omega)]; simp)]
        simp (disch := omega) only [if_pos, if_neg, List.append_nil]; try rfl
      · have e2 : putL [a1, b1, a2] b2 = [a1, b1, a2, b2] := by simp (disch := omega) only [putL, if_pos, if_neg]
        rw [e2]
        simp only [msweep]
        rw [mstep_nil (x := a1) (y := b1) (has_t (x := a1) (y := a2) (t := a1) (by omega)) (has_f (x := b1) (y := b2) (t := a1) (by omega)), mstep_out (x := b1) (y := a2) (by rw [has_t (x := b1) (y := b2) (t := b1) (by omega)]; simp), mstep_out (x := a2) (y := b2) (by rw [has_f (x := a1) (y := a2) (t := a2) (by omega)]; simp)]
        simp (disch := omega) only [if_pos, if_neg, List.append_nil]; try rfl
  · have hmin : minusF a b = [a] := by unfold minusF; rw [if_pos ha, if_neg hov]
    have hord : (endsF [a, b]).Pairwise (· < ·) := by
      rw [ends_two]
      exact put_order _ _ (put_order _ _ (put_order _ _ (put_order _ _ List.Pairwise.nil)))
    have m1 : a.1 ∈ endsF [a, b] := by rw [ends_two]; simp [put_mem]
    have m2 : a.2 ∈ endsF [a, b] := by rw [ends_two]; simp [put_mem]
    rw [hmin]
    cases he : endsF [a, b] with
    | nil => rw [he] at m1; cases m1
    | cons x r =>
      rw [he] at hord m1 m2
      refine sweep_all ha (fun t ht1 ht2 => ?_) r x [] hord m1 m2 rfl
      rw [← Bool.not_eq_true, hasB_iff]
      rintro ⟨h1, h2, h3⟩
      exact hov ⟨h1, by omega, by omega⟩
end Go.Proofs.Ytlpakooogbaclaa
