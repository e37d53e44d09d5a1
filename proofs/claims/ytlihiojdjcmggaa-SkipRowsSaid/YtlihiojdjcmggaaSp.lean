/- Layer 12, plain: keys rise, whatever is done; the last key up to one. -/
import Derived.Test.YtlihiojdjcmggaaSk
namespace Go.Proofs.Ytlihiojdjcmggaa
open Go.RowKit
set_option linter.unusedVariables false

theorem less_totalK (a b : List UInt8) (h : Op.bytesLess a b = false) (hne : a ≠ b) : Op.bytesLess b a = true := by
  induction a generalizing b with
  | nil => cases b <;> simp [Op.bytesLess] at h hne ⊢
  | cons x l ih =>
    cases b with
    | nil => simp [Op.bytesLess]
    | cons y m =>
      simp only [Op.bytesLess, Bool.or_eq_false_iff, decide_eq_false_iff_not, Bool.and_eq_false_imp, beq_iff_eq] at h
      obtain ⟨h1, h2⟩ := h
      by_cases hxy : x = y
      · subst hxy
        simp [Op.bytesLess, ih m (h2 rfl) (fun e => hne (by rw [e]))]
      · have : y < x := by
          rw [UInt8.lt_iff_toNat_lt] at h1 ⊢
          have : x.toNat ≠ y.toNat := fun e => hxy (UInt8.toNat_inj.1 e)
          omega
        simp [Op.bytesLess, this]
theorem less_transK (a b c : List UInt8) (h : Op.bytesLess a b = true) (k : Op.bytesLess b c = true) : Op.bytesLess a c = true := by
  induction a generalizing b c with
  | nil =>
    cases c with
    | nil => cases b <;> simp [Op.bytesLess] at k
    | cons z n => simp [Op.bytesLess]
  | cons x l ih =>
    cases b with
    | nil => simp [Op.bytesLess] at h
    | cons y m =>
      cases c with
      | nil => simp [Op.bytesLess] at k
      | cons z n =>
        simp only [Op.bytesLess, Bool.or_eq_true, decide_eq_true_eq, Bool.and_eq_true, beq_iff_eq] at h k ⊢
        rcases h with h | ⟨rfl, h⟩ <;> rcases k with k | ⟨rfl, k⟩
        · left; rw [UInt8.lt_iff_toNat_lt] at *; omega
        · left; exact h
        · left; exact k
        · right; exact ⟨rfl, ih _ _ h k⟩
theorem less_asymmK (a b : List UInt8) (h : Op.bytesLess a b = true) : Op.bytesLess b a = false := by
  rw [Bool.eq_false_iff]
  intro h2
  have := less_transK _ _ _ h h2
  rw [less_irreflK] at this; cases this
def AscK (l : List It) : Prop := (l.map (·.key)).Pairwise fun a b => Op.bytesLess a.toList b.toList = true
theorem at_at {key : ByteArray} : ∀ {l : List It} (h : atI key l < l.length), geK (l[atI key l]).key key = true
  | [], h => absurd h (by simp)
  | x :: r, h => by
    by_cases hx : geK x.key key = true
    · have : atI key (x :: r) = 0 := by rw [atI, if_pos hx]
      simp only [this, List.getElem_cons_zero]; exact hx
    · have e : atI key (x :: r) = atI key r + 1 := by rw [atI, if_neg hx]
      have h2 : atI key r < r.length := by rw [e, List.length_cons] at h; omega
      simp only [e, List.getElem_cons_succ]
      exact at_at h2
theorem before_less {l : List It} {key : ByteArray} {x : It} (hx : x ∈ l.take (atI key l)) : Op.bytesLess x.key.toList key.toList = true := by
  obtain ⟨i, hi, rfl⟩ := List.mem_iff_getElem.1 hx
  rw [List.length_take] at hi
  have := at_before (key := key) (l := l) (k := i) (by omega) (by omega)
  rw [List.getElem_take]
  unfold geK at this
  simpa using this
theorem behind_less {l : List It} {key : ByteArray} (ha : AscK l) (hh : hereI l key = false) {x : It} (hx : x ∈ l.drop (atI key l)) : Op.bytesLess key.toList x.key.toList = true := by
  have hlt : atI key l < l.length := by
    rcases Nat.lt_or_ge (atI key l) l.length with h | h
    · exact h
    · rw [List.drop_eq_nil_of_le h] at hx; cases hx
  have h1 := at_at hlt
  have h0 : Op.bytesLess key.toList (l[atI key l]).key.toList = true := by
    refine less_totalK _ _ (by unfold geK at h1; simpa using h1) fun e => ?_
    rw [here_at rfl hlt, beq_eq_false_iff_ne] at hh
    exact hh e
  rw [List.drop_eq_getElem_cons hlt, List.mem_cons] at hx
  rcases hx with rfl | hx
  · exact h0
  · refine less_transK _ _ _ h0 ?_
    have := ha
    unfold AscK at this
    rw [← List.take_append_drop (atI key l) l, List.map_append, List.pairwise_append] at this
    have h2 := this.2.1
    rw [List.drop_eq_getElem_cons hlt, List.map_cons, List.pairwise_cons] at h2
    exact h2.1 _ (List.mem_map_of_mem hx)
theorem asc_put {l : List It} (ha : AscK l) (key : ByteArray) (lv v : Int) : AscK (putI l key lv v).1 := by
  unfold putI
  cases hh : hereI l key
  · rw [if_neg (by decide)]
    have := ha
    unfold AscK at this ⊢
    rw [← List.take_append_drop (atI key l) l, List.map_append, List.pairwise_append] at this
    obtain ⟨h1, h2, h3⟩ := this
    simp only [List.map_append, List.map_cons, List.append_assoc, List.cons_append, List.nil_append]
    rw [List.pairwise_append, List.pairwise_cons]
    refine ⟨h1, ⟨fun b hb => ?_, h2⟩, fun a ha2 b hb => ?_⟩
    · obtain ⟨x, hx, rfl⟩ := List.mem_map.1 hb
      exact behind_less ha hh hx
    · rcases List.mem_cons.1 hb with rfl | hb
      · obtain ⟨x, hx, rfl⟩ := List.mem_map.1 ha2
        exact before_less hx
      · exact h3 a ha2 b hb
  · rw [if_pos rfl]
    obtain ⟨hlt, hk⟩ := here_lt hh
    unfold AscK at ha ⊢
    have : (l.take (atI key l) ++ [(⟨key, levI l (atI key l), v⟩ : It)] ++ l.drop (atI key l + 1)).map (fun x : It => x.key) = l.map (fun x : It => x.key) := by
      have e := congrArg (List.map fun x : It => x.key) (List.take_append_drop (atI key l) l)
      rw [List.drop_eq_getElem_cons hlt, List.map_append, List.map_cons] at e
      simp only [hk] at e
      rw [← e]
      simp only [List.map_append, List.map_cons, List.append_assoc, List.cons_append, List.nil_append]
    rw [this]
    exact ha
theorem asc_drop {l : List It} (ha : AscK l) (key : ByteArray) : AscK (dropI l key).1 := by
  unfold dropI
  split
  · unfold AscK at ha ⊢
    refine ha.sublist (List.Sublist.map _ ?_)
    conv => rhs; rw [← List.take_append_drop (atI key l) l]
    exact List.Sublist.append (List.Sublist.refl _) (by rw [show atI key l + 1 = atI key l + 1 from rfl, ← List.drop_drop]; exact List.drop_sublist _ _)
  · exact ha
theorem asc_do {l : List It} (ha : AscK l) (d : DeedK) : AscK (doI l d) := by
  unfold doI
  split
  · exact asc_put ha _ _ _
  · split
    · exact asc_drop ha _
    · exact ha
/-- None that is up to a key is behind the last one that is. -/
theorem floor_last {l : List It} (ha : AscK l) (key : ByteArray) {x : It} (hx : x ∈ l) (hle : Op.bytesLess key.toList x.key.toList = false) :
    (floorI l key).2 = true ∧ Op.bytesLess (floorI l key).1.toList x.key.toList = false := by
  unfold floorI
  cases hh : hereI l key
  · rw [if_neg (by decide)]
    have hm : x ∈ l.take (atI key l) := by
      rw [← List.take_append_drop (atI key l) l, List.mem_append] at hx
      rcases hx with h | h
      · exact h
      · rw [behind_less ha hh h] at hle; cases hle
    rcases hg : (l.take (atI key l)).getLast? with _ | y
    · rw [List.getLast?_eq_none_iff] at hg; rw [hg] at hm; cases hm
    · refine ⟨rfl, ?_⟩
      simp only
      obtain ⟨t, ht⟩ := List.getLast?_eq_some_iff.1 hg
      rw [ht, List.mem_append, List.mem_singleton] at hm
      rcases hm with hm | rfl
      · have := ha
        unfold AscK at this
        rw [← List.take_append_drop (atI key l) l, List.map_append, List.pairwise_append, ht, List.map_append, List.pairwise_append] at this
        have h2 := this.1.2.2 _ (List.mem_map_of_mem (f := (·.key)) hm) y.key (by simp)
        rw [Bool.eq_false_iff]
        intro h3
        have := less_transK _ _ _ h2 h3
        rw [less_irreflK] at this; cases this
      · exact less_irreflK _
  · rw [if_pos rfl]
    exact ⟨rfl, hle⟩
/-- What is told is there, and up to the key. -/
theorem floor_there {l : List It} {key : ByteArray} (h : (floorI l key).2 = true) : ∃ x ∈ l, x.key = (floorI l key).1 ∧ Op.bytesLess key.toList x.key.toList = false := by
  unfold floorI at h ⊢
  cases hh : hereI l key
  · rw [hh, if_neg (by decide)] at h
    rw [if_neg (by decide)]
    rcases hg : (l.take (atI key l)).getLast? with _ | y
    · rw [hg] at h; cases h
    · have hm : y ∈ l.take (atI key l) := List.mem_of_getLast? hg
      refine ⟨y, List.mem_of_mem_take hm, rfl, ?_⟩
      have h1 := before_less hm
      rw [Bool.eq_false_iff]
      intro h3
      have := less_transK _ _ _ h1 h3
      rw [less_irreflK] at this; cases this
  · rw [if_pos rfl]
    obtain ⟨hlt, hk⟩ := here_lt hh
    exact ⟨l[atI key l], List.getElem_mem hlt, hk, by rw [hk]; exact less_irreflK _⟩
theorem here_mem {l : List It} (ha : AscK l) {x : It} (hx : x ∈ l) : hereI l x.key = true := by
  cases hh : hereI l x.key
  · exfalso
    rw [← List.take_append_drop (atI x.key l) l, List.mem_append] at hx
    rcases hx with h | h
    · have := before_less h; rw [less_irreflK] at this; cases this
    · have := behind_less ha hh h; rw [less_irreflK] at this; cases this
  · rfl
def KeysK (l : List It) : Prop := ∀ x ∈ l, x.key.size ≤ 8
theorem keys_do {l : List It} (h : KeysK l) (d : DeedK) : KeysK (doI l d) := by
  have hf := fewK_size d.key
  intro x hx
  unfold doI at hx
  split at hx
  · unfold putI at hx
    split at hx
    all_goals
      simp only [List.mem_append, List.mem_singleton] at hx
      rcases hx with (hx | rfl) | hx
      · exact h x (List.mem_of_mem_take hx)
      · exact hf
      · exact h x (List.mem_of_mem_drop hx)
  · split at hx
    · unfold dropI at hx
      split at hx
      · rcases List.mem_append.1 hx with hx | hx
        · exact h x (List.mem_of_mem_take hx)
        · exact h x (List.mem_of_mem_drop hx)
      · exact h x hx
    · exact h x hx
theorem clamp_pos (n : Int) : 1 ≤ clampI n := by unfold clampI; split <;> (try split) <;> omega
theorem levs_do {l : List It} (h : ∀ y ∈ l, 1 ≤ y.level) (d : DeedK) : ∀ y ∈ doI l d, 1 ≤ y.level := by
  intro x hx
  unfold doI at hx
  split at hx
  · unfold putI at hx
    split at hx
    · rename_i hh
      obtain ⟨hlt, -⟩ := here_lt hh
      simp only [List.mem_append, List.mem_singleton] at hx
      rcases hx with (hx | rfl) | hx
      · exact h x (List.mem_of_mem_take hx)
      · simp only [levI, List.getElem?_eq_getElem hlt]
        exact h _ (List.getElem_mem hlt)
      · exact h x (List.mem_of_mem_drop hx)
    · simp only [List.mem_append, List.mem_singleton] at hx
      rcases hx with (hx | rfl) | hx
      · exact h x (List.mem_of_mem_take hx)
      · exact clamp_pos _
      · exact h x (List.mem_of_mem_drop hx)
  · split at hx
    · unfold dropI at hx
      split at hx
      · rcases List.mem_append.1 hx with hx | hx
        · exact h x (List.mem_of_mem_take hx)
        · exact h x (List.mem_of_mem_drop hx)
      · exact h x hx
    · exact h x hx
theorem floor_none {l : List It} {key : ByteArray} (h : (floorI l key).2 = false) : (floorI l key).1 = ⟨#[]⟩ := by
  unfold floorI at h ⊢
  cases hh : hereI l key
  · rw [hh, if_neg (by decide)] at h
    rw [if_neg (by decide)]
    rcases hg : (l.take (atI key l)).getLast? with _ | y
    · rfl
    · rw [hg] at h; cases h
  · rw [hh, if_pos rfl] at h; cases h
theorem row_one {l : List It} (h : ∀ x ∈ l, 1 ≤ x.level) : rowI l 1 = l.map (·.key) := by
  unfold rowI
  rw [List.filter_eq_self.2 fun x hx => by simp [rowB, h x hx]]
theorem row_mem {l : List It} {lv : Int} {s : ByteArray} (h : s ∈ rowI l lv) : ∃ x ∈ l, x.key = s := by
  unfold rowI at h
  obtain ⟨x, hx, rfl⟩ := List.mem_map.1 h
  exact ⟨x, (List.mem_filter.1 hx).1, rfl⟩
end Go.Proofs.Ytlihiojdjcmggaa
