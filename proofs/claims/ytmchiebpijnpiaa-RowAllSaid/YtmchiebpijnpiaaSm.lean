/- Layer 4, plain facts: spans, pieces, and what the document tells of them. -/
import Derived.Test.YtmchiebpijnpiaaRows
import Derived.WalkKit
namespace Go.Proofs.Ytmchiebpijnpiaa
open Go.RowKit
set_option linter.unusedVariables false

abbrev Sp := Int × Int
abbrev Pc := Sp × ByteArray
def mayB (s : Sp) : Bool := decide (0 ≤ s.1 ∧ s.1 < s.2 ∧ s.2 ≤ 1099511627776)
def hasB (s : Sp) (t : Int) : Bool := mayB s && decide (s.1 ≤ t ∧ t < s.2)
theorem mayB_iff {s : Sp} : mayB s = true ↔ 0 ≤ s.1 ∧ s.1 < s.2 ∧ s.2 ≤ 1099511627776 := by simp [mayB]
theorem hasB_iff {s : Sp} {t : Int} : hasB s t = true ↔ mayB s = true ∧ s.1 ≤ t ∧ t < s.2 := by simp [hasB]
theorem hasB_false {s : Sp} {t : Int} : hasB s t = false ↔ (mayB s = true → s.1 ≤ t → s.2 ≤ t) := by
  rw [← Bool.not_eq_true, hasB_iff]
  constructor
  · intro h h1 h2; exact Int.not_lt.1 fun h3 => h ⟨h1, h2, h3⟩
  · rintro h ⟨h1, h2, h3⟩; have := h h1 h2; omega
theorem has_out {s : Sp} (t : Int) (h : mayB s = false) : hasB s t = false := by simp [hasB, h]

/-- What two have in common. -/
def meetF (a b : Sp) : Sp × Bool :=
  if mayB a = true ∧ mayB b = true ∧ b.1 < a.2 ∧ a.1 < b.2 then ((if b.1 > a.1 then b.1 else a.1, if b.2 < a.2 then b.2 else a.2), true) else ((0, 0), false)
theorem meet_has (a b : Sp) (t : Int) : ((meetF a b).2 && hasB (meetF a b).1 t) = (hasB a t && hasB b t) := by
  unfold meetF
  by_cases h : mayB a = true ∧ mayB b = true ∧ b.1 < a.2 ∧ a.1 < b.2
  · obtain ⟨ha, hb, h1, h2⟩ := h
    have ha' := mayB_iff.1 ha
    have hb' := mayB_iff.1 hb
    rw [if_pos ⟨ha, hb, h1, h2⟩, Bool.eq_iff_iff]
    simp only [Bool.true_and, Bool.and_eq_true, hasB_iff, mayB_iff]
    split <;> split <;> omega
  · rw [if_neg h, Bool.eq_iff_iff]
    simp only [Bool.false_and, Bool.and_eq_true, hasB_iff]
    constructor
    · intro h; cases h
    · rintro ⟨⟨ha, h1, h2⟩, hb, h3, h4⟩
      exact absurd ⟨ha, hb, by omega, by omega⟩ h
theorem meet_pos {a b : Sp} (h : mayB a = true ∧ mayB b = true ∧ b.1 < a.2 ∧ a.1 < b.2) : meetF a b = ((if b.1 > a.1 then b.1 else a.1, if b.2 < a.2 then b.2 else a.2), true) := if_pos h
theorem meet_neg {a b : Sp} (h : ¬ (mayB a = true ∧ mayB b = true ∧ b.1 < a.2 ∧ a.1 < b.2)) : meetF a b = ((0, 0), false) := if_neg h
theorem meet_side (a b : Sp) : meetF a b = meetF b a := by
  by_cases h : mayB a = true ∧ mayB b = true ∧ b.1 < a.2 ∧ a.1 < b.2
  · rw [meet_pos h, meet_pos ⟨h.2.1, h.1, h.2.2.2, h.2.2.1⟩]
    have e1 : (if b.1 > a.1 then b.1 else a.1) = (if a.1 > b.1 then a.1 else b.1) := by split <;> split <;> omega
    have e2 : (if b.2 < a.2 then b.2 else a.2) = (if a.2 < b.2 then a.2 else b.2) := by split <;> split <;> omega
    rw [e1, e2]
  · rw [meet_neg h, meet_neg (fun k => h ⟨k.2.1, k.1, k.2.2.2, k.2.2.1⟩)]
theorem meet_in {a b : Sp} (h : (meetF a b).2 = true) : mayB (meetF a b).1 = true ∧ a.1 ≤ (meetF a b).1.1 ∧ (meetF a b).1.2 ≤ a.2 ∧ b.1 ≤ (meetF a b).1.1 ∧ (meetF a b).1.2 ≤ b.2 ∧ mayB a = true ∧ mayB b = true := by
  unfold meetF at *
  by_cases hc : mayB a = true ∧ mayB b = true ∧ b.1 < a.2 ∧ a.1 < b.2
  · obtain ⟨ha, hb, h1, h2⟩ := hc
    have ha' := mayB_iff.1 ha
    have hb' := mayB_iff.1 hb
    rw [if_pos ⟨ha, hb, h1, h2⟩]
    simp only [mayB_iff]
    refine ⟨?_, ?_, ?_, ?_, ?_, ha', hb'⟩ <;> (repeat' split) <;> omega
  · rw [if_neg hc] at h; cases h

/-- What of one is left without the other. -/
def minusF (a b : Sp) : List Sp :=
  if mayB a = true then
    if mayB b = true ∧ b.1 < a.2 ∧ a.1 < b.2 then (if a.1 < b.1 then [(a.1, b.1)] else []) ++ (if b.2 < a.2 then [(b.2, a.2)] else []) else [a]
  else []
theorem minus_has (a b : Sp) (t : Int) : ((minusF a b).any fun m => hasB m t) = (hasB a t && !hasB b t) := by
  unfold minusF
  by_cases ha : mayB a = true
  · have ha' := mayB_iff.1 ha
    rw [if_pos ha]
    by_cases hb : mayB b = true ∧ b.1 < a.2 ∧ a.1 < b.2
    · have hb' := mayB_iff.1 hb.1
      rw [if_pos hb, Bool.eq_iff_iff]
      simp only [List.any_append, Bool.or_eq_true, Bool.and_eq_true, Bool.not_eq_true', hasB_iff, hasB_false, mayB_iff]
      split <;> split <;> simp [hasB_iff, mayB_iff] <;> omega
    · rw [if_neg hb, Bool.eq_iff_iff]
      simp only [List.any_cons, List.any_nil, Bool.or_false, Bool.and_eq_true, Bool.not_eq_true', hasB_iff, hasB_false]
      constructor
      · rintro ⟨_, h1, h2⟩
        exact ⟨⟨ha, h1, h2⟩, fun h3 h4 => Int.not_lt.1 fun h5 => hb ⟨h3, by omega, by omega⟩⟩
      · exact fun h => h.1
  · rw [if_neg ha]
    have : hasB a t = false := has_out t (by simpa using ha)
    simp [this]
theorem minus_one (a b : Sp) (t : Int) : ((minusF a b).filter fun m => hasB m t).length ≤ 1 := by
  unfold minusF
  by_cases ha : mayB a = true
  · rw [if_pos ha]
    by_cases hb : mayB b = true ∧ b.1 < a.2 ∧ a.1 < b.2
    · have hb' := mayB_iff.1 hb.1
      rw [if_pos hb, List.filter_append, List.length_append]
      have h1 : ((if a.1 < b.1 then [(a.1, b.1)] else []).filter fun m => hasB m t).length ≤ 1 := by
        refine Nat.le_trans (List.length_filter_le _ _) ?_
        split <;> simp
      have h2 : ((if b.2 < a.2 then [(b.2, a.2)] else []).filter fun m => hasB m t).length ≤ 1 := by
        refine Nat.le_trans (List.length_filter_le _ _) ?_
        split <;> simp
      by_cases ht : t < b.2
      · have : (if b.2 < a.2 then [(b.2, a.2)] else []).filter (fun m => hasB m t) = [] := by
          split
          · have : hasB (b.2, a.2) t = false := hasB_false.2 fun _ h => by simp at h; omega
            simp [this]
          · rfl
        rw [this]; simpa using h1
      · have : (if a.1 < b.1 then [(a.1, b.1)] else []).filter (fun m => hasB m t) = [] := by
          split
          · have : hasB (a.1, b.1) t = false := hasB_false.2 fun _ h => by simp; omega
            simp [this]
          · rfl
        rw [this]; simpa using h2
    · rw [if_neg hb]
      exact Nat.le_trans (List.length_filter_le _ _) (by simp)
  · rw [if_neg ha]; simp
/-- Where a piece of it lies. -/
theorem minus_in {a b m : Sp} (h : m ∈ minusF a b) : mayB m = true ∧ a.1 ≤ m.1 ∧ m.2 ≤ a.2 ∧ mayB a = true ∧ (mayB b = true → m.2 ≤ b.1 ∨ b.2 ≤ m.1) := by
  unfold minusF at h
  by_cases ha : mayB a = true
  · have ha' := mayB_iff.1 ha
    rw [if_pos ha] at h
    by_cases hb : mayB b = true ∧ b.1 < a.2 ∧ a.1 < b.2
    · have hb' := mayB_iff.1 hb.1
      rw [if_pos hb, List.mem_append] at h
      rcases h with h | h
      · split at h
        · simp at h; subst h; rw [mayB_iff]; simp only; refine ⟨?_, ?_, ?_, ha, fun _ => ?_⟩ <;> omega
        · simp at h
      · split at h
        · simp at h; subst h; rw [mayB_iff]; simp only; refine ⟨?_, ?_, ?_, ha, fun _ => ?_⟩ <;> omega
        · simp at h
    · rw [if_neg hb] at h
      simp at h
      subst h
      refine ⟨ha, Int.le_refl _, Int.le_refl _, ha, fun hb1 => ?_⟩
      rcases Int.lt_or_le b.1 m.2 with h1 | h1
      · rcases Int.lt_or_le m.1 b.2 with h2 | h2
        · exact absurd ⟨hb1, h1, h2⟩ hb
        · exact .inr h2
      · exact .inl h1
  · rw [if_neg ha] at h; simp at h
theorem minus_order (a b : Sp) : (minusF a b).Pairwise fun m n => m.2 ≤ n.1 := by
  unfold minusF
  split
  · rename_i ha
    split
    · rename_i hb
      have hb' := mayB_iff.1 hb.1
      split <;> split <;> simp <;> omega
    · simp
  · simp
theorem minus_self {a m : Sp} (hm : mayB m = true) (ha : mayB a = true) (h1 : a.1 ≤ m.1) (h2 : m.2 ≤ a.2) : minusF m a = [] := by
  have hm' := mayB_iff.1 hm
  have ha' := mayB_iff.1 ha
  unfold minusF
  rw [if_pos hm, if_pos ⟨ha, by omega, by omega⟩, if_neg (by omega), if_neg (by omega)]
  rfl
theorem minus_len (a b : Sp) : (minusF a b).length ≤ 2 := by
  unfold minusF
  (repeat' split) <;> simp

/-- Pieces without a span. -/
def withoutF (l : List Pc) (s : Sp) : List Pc := if mayB s = true then l.flatMap fun p => (minusF p.1 s).map fun m => (m, p.2) else l
def insF : List Pc → Pc → List Pc
  | [], p => [p]
  | q :: r, p => if q.1.1 ≥ p.1.2 then p :: q :: r else q :: insF r p
/-- Pieces with one over them. -/
def overF (l : List Pc) (p : Pc) : List Pc := if mayB p.1 = true then insF (withoutF l p.1) p else l
def ordB : List Pc → Bool
  | [] => true
  | [p] => mayB p.1
  | p :: q :: r => mayB p.1 && decide (p.1.2 ≤ q.1.1) && ordB (q :: r)
/-- What stands at a time. -/
def atF (l : List Pc) (t : Int) : ByteArray × Bool := match l.find? fun p => hasB p.1 t with | some p => (p.2, true) | none => (⟨#[]⟩, false)
theorem atF_nil (t : Int) : atF [] t = (⟨#[]⟩, false) := rfl
theorem atF_cons (p : Pc) (l : List Pc) (t : Int) : atF (p :: l) t = if hasB p.1 t = true then (p.2, true) else atF l t := by
  unfold atF
  rw [List.find?_cons]
  cases h : hasB p.1 t <;> simp
theorem atF_none {l : List Pc} {t : Int} (h : ∀ p ∈ l, hasB p.1 t = false) : atF l t = (⟨#[]⟩, false) := by
  unfold atF
  rw [List.find?_eq_none.2 (fun p hp => by simp [h p hp])]
theorem atF_append_none {l m : List Pc} {t : Int} (h : ∀ p ∈ l, hasB p.1 t = false) : atF (l ++ m) t = atF m t := by
  unfold atF
  rw [List.find?_append, List.find?_eq_none.2 (fun p hp => by simp [h p hp])]
  simp
theorem atF_append_some {l m : List Pc} {t : Int} {v : ByteArray} (h : ∀ p ∈ l, p.2 = v) (hs : ∃ p ∈ l, hasB p.1 t = true) : atF (l ++ m) t = (v, true) := by
  unfold atF
  rw [List.find?_append]
  cases hf : l.find? (fun p => hasB p.1 t) with
  | none =>
    obtain ⟨p, hp, h1⟩ := hs
    have := List.find?_eq_none.1 hf p hp
    simp [h1] at this
  | some q =>
    have := List.mem_of_find?_eq_some hf
    simp [h q this]
theorem at_without (l : List Pc) (s : Sp) (t : Int) : atF (withoutF l s) t = if hasB s t = true then (⟨#[]⟩, false) else atF l t := by
  unfold withoutF
  by_cases hs : mayB s = true
  · rw [if_pos hs]
    induction l with
    | nil => simp [atF_nil]
    | cons p l ih =>
      rw [List.flatMap_cons, atF_cons]
      have key := minus_has p.1 s t
      by_cases ht : hasB s t = true
      · rw [if_pos ht] at ih ⊢
        rw [atF_append_none, ih]
        intro q hq
        obtain ⟨m, hm, rfl⟩ := List.mem_map.1 hq
        rw [ht] at key
        simp only [Bool.not_true, Bool.and_false, List.any_eq_false] at key
        simpa using key m hm
      · have ht' : hasB s t = false := by simpa using ht
        rw [if_neg ht] at ih ⊢
        rw [ht', Bool.not_false, Bool.and_true] at key
        by_cases hp : hasB p.1 t = true
        · rw [if_pos hp]
          rw [hp] at key
          obtain ⟨m, hm, h1⟩ := List.any_eq_true.1 key
          exact atF_append_some (fun q hq => by obtain ⟨m, _, rfl⟩ := List.mem_map.1 hq; rfl) ⟨_, List.mem_map.2 ⟨m, hm, rfl⟩, h1⟩
        · have hp' : hasB p.1 t = false := by simpa using hp
          rw [if_neg hp, atF_append_none, ih]
          intro q hq
          obtain ⟨m, hm, rfl⟩ := List.mem_map.1 hq
          rw [hp'] at key
          simp only [List.any_eq_false] at key
          simpa using key m hm
  · rw [if_neg hs, has_out t (by simpa using hs)]
    simp
theorem without_none {l : List Pc} {s : Sp} {t : Int} (ht : hasB s t = true) : ∀ p ∈ withoutF l s, hasB p.1 t = false := by
  intro p hp
  have hs := (hasB_iff.1 ht).1
  unfold withoutF at hp
  rw [if_pos hs] at hp
  obtain ⟨q, hq, h1⟩ := List.mem_flatMap.1 hp
  obtain ⟨m, hm, rfl⟩ := List.mem_map.1 h1
  have key := minus_has q.1 s t
  rw [ht] at key
  simp only [Bool.not_true, Bool.and_false, List.any_eq_false] at key
  simpa using key m hm
theorem at_ins (r : List Pc) (p : Pc) (t : Int) (h : hasB p.1 t = true → ∀ q ∈ r, hasB q.1 t = false) : atF (insF r p) t = if hasB p.1 t = true then (p.2, true) else atF r t := by
  induction r with
  | nil => simp [insF, atF_cons, atF_nil]
  | cons q r ih =>
    unfold insF
    split
    · rw [atF_cons]
    · rw [atF_cons, ih (fun hp x hx => h hp x (by simp [hx])), atF_cons]
      by_cases hp : hasB p.1 t = true
      · rw [if_pos hp, if_neg (by rw [h hp q (by simp)]; simp)]
        simp [hp]
      · rw [if_neg hp, if_neg hp]
/-- What is told of a time is what was put over it last. -/
theorem at_over (l : List Pc) (p : Pc) (t : Int) : atF (overF l p) t = if hasB p.1 t = true then (p.2, true) else atF l t := by
  unfold overF
  by_cases hp : mayB p.1 = true
  · rw [if_pos hp, at_ins _ _ _ (fun h => without_none h), at_without]
    by_cases ht : hasB p.1 t = true
    · rw [if_pos ht, if_pos ht]
    · rw [if_neg ht, if_neg ht]; simp [ht]
  · rw [if_neg hp, has_out t (by simpa using hp)]
    simp

/-- In order. -/
theorem ordB_iff (l : List Pc) : ordB l = true ↔ (∀ p ∈ l, mayB p.1 = true) ∧ l.Pairwise fun p q => p.1.2 ≤ q.1.1 := by
  induction l with
  | nil => simp [ordB]
  | cons p l ih =>
    cases l with
    | nil => simp [ordB]
    | cons q r =>
      unfold ordB
      rw [Bool.and_eq_true, Bool.and_eq_true, ih, decide_eq_true_iff, List.pairwise_cons (l := q :: r)]
      constructor
      · rintro ⟨⟨h1, h2⟩, h3, h4⟩
        refine ⟨fun x hx => ?_, fun x hx => ?_, h4⟩
        · rcases List.mem_cons.1 hx with rfl | hx
          · exact h1
          · exact h3 x hx
        · rcases List.mem_cons.1 hx with rfl | hx
          · exact h2
          · have h5 := (List.pairwise_cons.1 h4).1 x hx
            have h6 := mayB_iff.1 (h3 q (by simp))
            omega
      · rintro ⟨h1, h2, h3⟩
        exact ⟨⟨h1 p (by simp), h2 q (by simp)⟩, fun x hx => h1 x (List.mem_cons_of_mem _ hx), h3⟩
theorem ord_without {l : List Pc} (s : Sp) (h : ordB l = true) : ordB (withoutF l s) = true := by
  unfold withoutF
  by_cases hs : mayB s = true
  · rw [if_pos hs]
    rw [ordB_iff] at h ⊢
    obtain ⟨h1, h2⟩ := h
    refine ⟨fun p hp => ?_, ?_⟩
    · obtain ⟨q, hq, h3⟩ := List.mem_flatMap.1 hp
      obtain ⟨m, hm, rfl⟩ := List.mem_map.1 h3
      exact (minus_in hm).1
    · induction l with
      | nil => simp
      | cons p l ih =>
        rw [List.flatMap_cons, List.pairwise_append]
        obtain ⟨h3, h4⟩ := List.pairwise_cons.1 h2
        refine ⟨?_, ih (fun x hx => h1 x (by simp [hx])) h4, fun x hx y hy => ?_⟩
        · rw [List.pairwise_map]; exact minus_order _ _
        · obtain ⟨m, hm, rfl⟩ := List.mem_map.1 hx
          obtain ⟨q, hq, h5⟩ := List.mem_flatMap.1 hy
          obtain ⟨n, hn, rfl⟩ := List.mem_map.1 h5
          have h6 := minus_in hm
          have h7 := minus_in hn
          have h8 := h3 q hq
          simp only
          omega
  · rw [if_neg hs]; exact h
theorem ord_ins {r : List Pc} {p : Pc} (h : ordB r = true) (hp : mayB p.1 = true) (ha : ∀ q ∈ r, q.1.2 ≤ p.1.1 ∨ p.1.2 ≤ q.1.1) : ordB (insF r p) = true := by
  rw [ordB_iff] at h ⊢
  have hp' := mayB_iff.1 hp
  have mem : ∀ (r : List Pc) x, x ∈ insF r p → x = p ∨ x ∈ r := by
    intro r
    induction r with
    | nil => intro x hx; simp [insF] at hx; exact .inl hx
    | cons q r ih =>
      intro x hx
      unfold insF at hx
      split at hx
      · rcases List.mem_cons.1 hx with h | h
        · exact .inl h
        · exact .inr h
      · rcases List.mem_cons.1 hx with h | h
        · exact .inr (by simp [h])
        · exact (ih x h).imp id (fun h => by simp [h])
  refine ⟨fun x hx => ?_, ?_⟩
  · rcases mem r x hx with rfl | hx
    · exact hp
    · exact h.1 x hx
  · induction r with
    | nil => simp [insF]
    | cons q r ih =>
      obtain ⟨h1, h2⟩ := h
      obtain ⟨h3, h4⟩ := List.pairwise_cons.1 h2
      have hq := mayB_iff.1 (h1 q (by simp))
      unfold insF
      split
      · rename_i hge
        rw [List.pairwise_cons]
        refine ⟨fun x hx => ?_, h2⟩
        rcases List.mem_cons.1 hx with rfl | hx
        · omega
        · have := h3 x hx; omega
      · rename_i hlt
        rw [List.pairwise_cons]
        refine ⟨fun x hx => ?_, ih ⟨fun x hx => h1 x (by simp [hx]), h4⟩ (fun x hx => ha x (by simp [hx]))⟩
        rcases mem r x hx with rfl | hx
        · have := ha q (by simp); omega
        · exact h3 x hx
theorem ord_over {l : List Pc} (p : Pc) (h : ordB l = true) : ordB (overF l p) = true := by
  unfold overF
  by_cases hp : mayB p.1 = true
  · rw [if_pos hp]
    refine ord_ins (ord_without _ h) hp fun q hq => ?_
    unfold withoutF at hq
    rw [if_pos hp] at hq
    obtain ⟨x, _, h1⟩ := List.mem_flatMap.1 hq
    obtain ⟨m, hm, rfl⟩ := List.mem_map.1 h1
    exact (minus_in hm).2.2.2.2 hp
  · rw [if_neg hp]; exact h
theorem without_len (l : List Pc) (s : Sp) : (withoutF l s).length ≤ 2 * l.length := by
  unfold withoutF
  split
  · induction l with
    | nil => simp
    | cons p l ih =>
      rw [List.flatMap_cons, List.length_append, List.length_map, List.length_cons]
      have := minus_len p.1 s
      omega
  · omega
theorem ins_len (r : List Pc) (p : Pc) : (insF r p).length = r.length + 1 := by
  induction r with
  | nil => rfl
  | cons q r ih => unfold insF; split <;> simp [ih]
theorem over_len (l : List Pc) (p : Pc) : (overF l p).length ≤ 2 * l.length + 1 := by
  unfold overF
  split
  · rw [ins_len]; have := without_len l p.1; omega
  · omega
end Go.Proofs.Ytmchiebpijnpiaa
