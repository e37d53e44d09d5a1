/- Layer 7: files in a list by their names: plain facts. -/
import Derived.Test.YtbdaflhmloodfaaDh
import Derived.Sort.Walk0
import Derived.Sort.KeysCollected
namespace Go.Proofs.Ytbdaflhmloodfaa
open Go.RowKit
set_option linter.unusedVariables false

def nmL (f : Fl) : List UInt8 := f.name.data.toList
theorem nmL_inj {a b : Fl} (h : nmL a = nmL b) : a.name = b.name := (bytes_eqD _ _).1 (by rw [toList_dataD, toList_dataD]; exact h)
theorem name_inj {a b : ByteArray} (h : a.data.toList = b.data.toList) : a = b := (bytes_eqD _ _).1 (by rw [toList_dataD, toList_dataD]; exact h)
/-- Names rise. -/
def SortD (l : List Fl) : Prop := l.Pairwise (fun a b => nmL a < nmL b)
theorem geF_lt (x f : Fl) : geF x f = decide (¬ nmL x < nmL f) := by
  unfold geF; rw [bytesLess_eq, toList_dataD, toList_dataD]
  unfold nmL
  by_cases h : x.name.data.toList < f.name.data.toList <;> simp [h]
theorem SortD.same {l : List Fl} (h : SortD l) {a b : Fl} (ha : a ∈ l) (hb : b ∈ l) (hn : a.name = b.name) : a = b := by
  induction l with
  | nil => cases ha
  | cons x l ih =>
    obtain ⟨h1, h2⟩ := List.pairwise_cons.1 h
    rcases List.mem_cons.1 ha with ea | ha2 <;> rcases List.mem_cons.1 hb with eb | hb2
    · rw [ea, eb]
    · have := h1 _ hb2; unfold nmL at this; rw [← ea, hn] at this; exact absurd this (List.lt_irrefl _)
    · have := h1 _ ha2; unfold nmL at this; rw [← eb, hn] at this; exact absurd this (List.lt_irrefl _)
    · exact ih h2 ha2 hb2
theorem mem_putGo (f : Fl) : ∀ (l : List Fl) (q : Bool) (y : Fl), y ∈ putGo f q l ↔ (q = false ∧ y = f) ∨ (y ∈ l ∧ y.name ≠ f.name)
  | [], q, y => by unfold putGo; cases q <;> simp
  | x :: l, q, y => by
    unfold putGo
    rw [List.mem_append, List.mem_append, mem_putGo f l]
    by_cases hn : x.name = f.name
    · have hg := geF_same hn
      rw [hg, if_pos hn]
      simp only [Bool.or_true, Bool.true_eq_false, false_and, false_or, List.mem_cons]
      constructor
      · rintro (h | h)
        · split at h
          · rename_i h0; exact .inl ⟨h0.1, by simpa using h⟩
          · simp at h
        · exact .inr ⟨.inr h.1, h.2⟩
      · rintro (h | ⟨h | h, h2⟩)
        · exact .inl (by rw [if_pos ⟨h.1, trivial⟩]; simp [h.2])
        · exact absurd (by rw [h]; exact hn) h2
        · exact .inr ⟨h, h2⟩
    · rw [if_neg hn]
      cases hg : geF x f <;> cases q <;> simp <;> (try constructor)
      all_goals first
        | (rintro (h | h | h)
           · exact .inr ⟨.inl h, by subst h; exact hn⟩
           · exact .inl h
           · exact .inr ⟨.inr h.1, h.2⟩)
        | (rintro (h | ⟨h | h, h2⟩)
           · exact .inr (.inl h)
           · exact .inl h
           · exact .inr (.inr ⟨h, h2⟩))
        | (rintro ((h | h) | h)
           · exact .inl h
           · exact .inr ⟨.inl h, by subst h; exact hn⟩
           · exact .inr ⟨.inr h.1, h.2⟩)
        | (rintro (h | ⟨h | h, h2⟩)
           · exact .inl (.inl h)
           · exact .inl (.inr h)
           · exact .inr ⟨h, h2⟩)
        | (rintro (h | h)
           · exact ⟨.inl h, by subst h; exact hn⟩
           · exact ⟨.inr h.1, h.2⟩)
        | (rintro ⟨h | h, h2⟩
           · exact .inl h
           · exact .inr ⟨h, h2⟩)
theorem mem_putF {f : Fl} {l : List Fl} {y : Fl} : y ∈ putF l f ↔ y = f ∨ (y ∈ l ∧ y.name ≠ f.name) := by
  unfold putF; rw [mem_putGo]; simp
theorem putGo_true (f : Fl) : ∀ l : List Fl, putGo f true l = l.filter (fun y => decide (y.name ≠ f.name))
  | [] => rfl
  | x :: l => by
    unfold putGo
    rw [show (true || geF x f) = true from rfl, putGo_true f l]
    by_cases hn : x.name = f.name <;> simp [hn]
theorem nm_lt {a b : Fl} (h1 : ¬ nmL a < nmL b) (h2 : a.name ≠ b.name) : nmL b < nmL a := by
  rcases List.le_total (nmL a) (nmL b) with h | h
  · rcases Decidable.em (nmL b ≤ nmL a) with h3 | h3
    · exact absurd (nmL_inj (List.le_antisymm h h3)) h2
    · exact absurd (List.not_le.1 h3) h1
  · rcases Decidable.em (nmL a ≤ nmL b) with h3 | h3
    · exact absurd (nmL_inj (List.le_antisymm h3 h)) h2
    · exact List.not_le.1 h3
theorem sort_putGo (f : Fl) : ∀ l : List Fl, SortD l → SortD (putGo f false l)
  | [], _ => by unfold putGo SortD; simp
  | x :: l, h => by
    obtain ⟨h1, h2⟩ := List.pairwise_cons.1 h
    unfold putGo
    cases hg : geF x f
    · have hlt : nmL x < nmL f := by rw [geF_lt] at hg; simpa using hg
      have hn : x.name ≠ f.name := fun e => by rw [geF_same e] at hg; cases hg
      rw [if_neg (by simp), if_neg hn]
      show SortD (x :: putGo f false l)
      refine List.pairwise_cons.2 ⟨fun y hy => ?_, sort_putGo f l h2⟩
      rcases (mem_putGo f l false y).1 hy with ⟨-, rfl⟩ | ⟨hy, -⟩
      · exact hlt
      · exact h1 y hy
    · have hge : ¬ nmL x < nmL f := by rw [geF_lt] at hg; simpa using hg
      rw [if_pos ⟨rfl, rfl⟩, show (false || true) = true from rfl, putGo_true]
      have hrest : ∀ y ∈ (if x.name = f.name then [] else [x]) ++ l.filter (fun y => decide (y.name ≠ f.name)), nmL f < nmL y := by
        intro y hy
        by_cases hn : x.name = f.name
        · rw [if_pos hn] at hy
          have hy : y ∈ l := by simp at hy; exact hy.1
          have := h1 y hy
          unfold nmL at this ⊢
          rw [← hn]; exact this
        · rw [if_neg hn] at hy
          have hfx := nm_lt hge hn
          rcases List.mem_append.1 hy with hy | hy
          · simp at hy; subst hy; exact hfx
          · exact List.lt_trans hfx (h1 y (List.mem_filter.1 hy).1)
      show SortD ([f] ++ _ ++ _)
      rw [List.append_assoc]
      refine List.pairwise_cons.2 ⟨hrest, ?_⟩
      by_cases hn : x.name = f.name
      · rw [if_pos hn]; exact h2.filter _
      · rw [if_neg hn]
        exact List.pairwise_cons.2 ⟨fun y hy => h1 y (List.mem_filter.1 hy).1, h2.filter _⟩
theorem sort_putF {l : List Fl} (h : SortD l) (f : Fl) : SortD (putF l f) := sort_putGo f l h
theorem putGo_new (f : Fl) : ∀ (l : List Fl) (q : Bool), (∀ y ∈ l, y.name ≠ f.name) → (putGo f q l).length = l.length + (if q = true then 0 else 1)
  | [], q, _ => by unfold putGo; cases q <;> simp
  | x :: l, q, h => by
    have ih := putGo_new f l (q || geF x f) (fun y hy => h y (by simp [hy]))
    have hn : x.name ≠ f.name := h x (by simp)
    unfold putGo
    simp only [List.length_append, if_neg hn, ih]
    cases q <;> cases hg : geF x f <;> simp <;> omega
theorem len_putF_new {l : List Fl} {f : Fl} (h : ∀ y ∈ l, y.name ≠ f.name) : (putF l f).length = l.length + 1 := putGo_new f l false h
theorem putGo_old (f : Fl) : ∀ (l : List Fl) (q : Bool), SortD l → (∃ y ∈ l, y.name = f.name) → (putGo f q l).length + 1 = l.length + (if q = true then 0 else 1)
  | [], _, _, h => by obtain ⟨y, hy, _⟩ := h; cases hy
  | x :: l, q, hs, h => by
    obtain ⟨h1, h2⟩ := List.pairwise_cons.1 hs
    unfold putGo
    by_cases hn : x.name = f.name
    · have hg := geF_same hn
      have hnew : ∀ y ∈ l, y.name ≠ f.name := fun y hy e => by
        have := h1 y hy; unfold nmL at this; rw [hn, e] at this; exact List.lt_irrefl _ this
      rw [hg, if_pos hn]
      have := putGo_new f l (q || true) hnew
      cases q <;> simp at this ⊢ <;> omega
    · have hex : ∃ y ∈ l, y.name = f.name := by
        obtain ⟨y, hy, e⟩ := h
        rcases List.mem_cons.1 hy with rfl | hy
        · exact absurd e hn
        · exact ⟨y, hy, e⟩
      have ih := putGo_old f l (q || geF x f) h2 hex
      simp only [List.length_append, if_neg hn]
      cases q <;> cases hg : geF x f <;> rw [hg] at ih <;> simp at ih ⊢ <;> omega
theorem len_putF_old {l : List Fl} {f : Fl} (hs : SortD l) (h : ∃ y ∈ l, y.name = f.name) : (putF l f).length = l.length := by
  have := putGo_old f l false hs h
  unfold putF; simp at this; omega
theorem sort_cut {l : List Fl} (h : SortD l) (k : Nat) : SortD (cutF7 l k) := by
  refine List.Pairwise.sublist ?_ h
  unfold cutF7
  have h1 : (l.drop (k + 1)).Sublist (l.drop k) := by
    rw [show l.drop (k + 1) = (l.drop k).drop 1 from by rw [List.drop_drop]]
    exact List.drop_sublist _ _
  have h2 := List.Sublist.append (List.Sublist.refl (l.take k)) h1
  rwa [List.take_append_drop] at h2
theorem mem_cutF {l : List Fl} (hs : SortD l) {k : Nat} (hk : k < l.length) {y : Fl} : y ∈ cutF7 l k ↔ y ∈ l ∧ y.name ≠ l[k].name := by
  have hl : l = l.take k ++ l[k] :: l.drop (k + 1) := by rw [← List.drop_eq_getElem_cons hk, List.take_append_drop]
  have hs2 := hs
  rw [hl] at hs2
  unfold SortD at hs2
  rw [List.pairwise_append] at hs2
  obtain ⟨-, b, c⟩ := hs2
  obtain ⟨b1, -⟩ := List.pairwise_cons.1 b
  have hne1 : ∀ y ∈ l.take k, y.name ≠ l[k].name := fun y hy e => by
    have := c y hy l[k] List.mem_cons_self; unfold nmL at this; rw [e] at this; exact List.lt_irrefl _ this
  have hne2 : ∀ y ∈ l.drop (k + 1), y.name ≠ l[k].name := fun y hy e => by
    have := b1 y hy; unfold nmL at this; rw [e] at this; exact List.lt_irrefl _ this
  unfold cutF7
  constructor
  · intro h
    rcases List.mem_append.1 h with h | h
    · exact ⟨List.mem_of_mem_take h, hne1 y h⟩
    · exact ⟨List.mem_of_mem_drop h, hne2 y h⟩
  · rintro ⟨h, hn⟩
    rw [hl] at h
    rcases List.mem_append.1 h with h | h
    · exact List.mem_append_left _ h
    · rcases List.mem_cons.1 h with h | h
      · subst h; exact absurd rfl hn
      · exact List.mem_append_right _ h
theorem sort_set {l : List Fl} (h : SortD l) {k : Nat} (hk : k < l.length) {f : Fl} (hn : f.name = l[k].name) : SortD (l.set k f) := by
  have e : (l.set k f).map nmL = l.map nmL := by
    rw [List.map_set]
    refine List.ext_getElem? fun i => ?_
    rw [List.getElem?_set]
    split
    · rename_i h2; subst h2
      have h3 : nmL f = nmL l[k] := by unfold nmL; rw [hn]
      simp [hk, h3]
    · rfl
  have h2 : (l.map nmL).Pairwise (· < ·) := List.pairwise_map.2 h
  rw [← e] at h2
  exact List.pairwise_map.1 h2
theorem mem_setF {l : List Fl} (hs : SortD l) {k : Nat} (hk : k < l.length) {f : Fl} (hn : f.name = l[k].name) {y : Fl} : y ∈ l.set k f ↔ y = f ∨ (y ∈ l ∧ y.name ≠ f.name) := by
  have h0 := (mem_cutF hs hk (y := y))
  have hst : l.set k f = l.take k ++ f :: l.drop (k + 1) := List.set_eq_take_append_cons_drop.trans (by rw [if_pos hk])
  rw [hn, ← h0, hst]
  unfold cutF7
  simp only [List.mem_append, List.mem_cons]
  constructor
  · rintro (h | h | h)
    · exact .inr (.inl h)
    · exact .inl h
    · exact .inr (.inr h)
  · rintro (h | h | h)
    · exact .inr (.inl h)
    · exact .inl h
    · exact .inr (.inr h)
theorem sort_upGo (keep : List Int) : ∀ (l : List Fl) (i : Nat), (upGo keep i l).map (·.name) = l.map (·.name)
  | [], _ => by unfold upGo; rfl
  | f :: l, i => by
    unfold upGo
    split
    · simp [sort_upGo keep l i]
    · simp [sort_upGo keep l (i + 1), upOne]
theorem sort_names {l l' : List Fl} (h : SortD l) (e : l'.map (·.name) = l.map (·.name)) : SortD l' := by
  have hm : ∀ l : List Fl, l.map nmL = (l.map (·.name)).map (fun b => b.data.toList) := fun l => by rw [List.map_map]; rfl
  have h2 : (l.map nmL).Pairwise (· < ·) := List.pairwise_map.2 h
  rw [hm, ← e, ← hm] at h2
  exact List.pairwise_map.1 h2
theorem atF_none {l : List Fl} {n : ByteArray} (h : atF l n < 0) : ∀ f ∈ l, f.name ≠ n := by
  unfold atF at h
  split at h
  · omega
  · rename_i hn
    rw [List.findIdx?_eq_none_iff] at hn
    intro f hf
    simpa using hn f hf
theorem atF_some {l : List Fl} {n : ByteArray} (h : ¬ atF l n < 0) : ∃ hk : (atF l n).toNat < l.length, l[(atF l n).toNat].name = n := by
  unfold atF at *
  split at h
  · rename_i k hk
    rw [List.findIdx?_eq_some_iff_getElem] at hk
    obtain ⟨h1, h2, -⟩ := hk
    simp only [Int.toNat_natCast]
    exact ⟨h1, by simpa using h2⟩
  · omega
theorem sorted_perm_names {l : List Fl} (h : SortD l) {ss : List (List UInt8)} (hp : ss.Perm (l.map nmL)) : ss.mergeSort (fun x y => decide (x ≤ y)) = l.map nmL := by
  have h2 : (l.map nmL).Pairwise (fun a b => leB a b = true) := List.pairwise_map.2 (h.imp fun h => by simp only [leB, decide_eq_true_eq]; exact List.le_of_lt h)
  rw [mergeSort_of_perm hp]
  exact List.mergeSort_of_pairwise h2
end Go.Proofs.Ytbdaflhmloodfaa
