/- Layer 7, the document's disk: it stays a disk as it may come to be. -/
import Derived.Test.YtbdaflhmloodfaaDf
import Derived.Test.YtbdaflhmloodfaaDg
namespace Go.Proofs.Ytbdaflhmloodfaa
open Go.RowKit
set_option linter.unusedVariables false

def SafeF (l : List Fl) : Prop := ∀ f ∈ l, 0 ≤ f.safe ∧ f.safe ≤ f.b.size
theorem ok_may {d : Dk} (h : OkD d) (e : Int) : OkD (mayD d e).1 := by
  obtain ⟨h1, h2, h3, h4, h5⟩ := h
  unfold mayD
  split
  · exact ⟨h1, h2, h3, h4, h5⟩
  · split
    · exact ⟨h1, h2, h3, h4, h5⟩
    · split
      · exact ⟨h1, h2, h3, ⟨by simp only; omega, by simp only; omega⟩, h5⟩
      · split
        · exact ⟨h1, h2, h3, ⟨by simp only; omega, by simp only; omega⟩, h5⟩
        · exact ⟨h1, h2, h3, h4, h5⟩
theorem putGo_len (f : Fl) : ∀ (l : List Fl) (q : Bool), (putGo f q l).length ≤ l.length + (if q = true then 0 else 1)
  | [], q => by unfold putGo; cases q <;> simp
  | x :: l, q => by
    have ih := putGo_len f l (q || geF x f)
    unfold putGo
    simp only [List.length_append, List.length_cons]
    cases q <;> cases hg : geF x f <;> rw [hg] at ih <;> by_cases hn : x.name = f.name <;> simp [hn] at ih ⊢ <;> omega
theorem putGo_used (f : Fl) : ∀ (l : List Fl) (q : Bool), usedF (putGo f q l) ≤ usedF l + (if q = true then 0 else (f.b.size : Int))
  | [], q => by unfold putGo; cases q <;> simp [usedF]
  | x :: l, q => by
    have ih := putGo_used f l (q || geF x f)
    unfold putGo
    simp only [usedF_append, usedF]
    cases q <;> cases hg : geF x f <;> rw [hg] at ih <;> by_cases hn : x.name = f.name <;> simp [hn, usedF] at ih ⊢ <;> omega
theorem putGo_mem (f : Fl) : ∀ (l : List Fl) (q : Bool) (y : Fl), y ∈ putGo f q l → y ∈ l ∨ y = f
  | [], q, y => by unfold putGo; cases q <;> simp
  | x :: l, q, y => by
    intro h
    unfold putGo at h
    rcases List.mem_append.1 h with h | h
    · rcases List.mem_append.1 h with h | h
      · split at h
        · right; simpa using h
        · cases h
      · split at h
        · cases h
        · left; simp at h; simp [h]
    · rcases putGo_mem f l _ y h with h | h
      · left; simp [h]
      · right; exact h
theorem used_cut (l : List Fl) (k : Nat) (h : k < l.length) : usedF (cutF7 l k) + l[k].b.size = usedF l := by
  have h1 := usedF_append (l.take k) (l.drop k)
  rw [List.take_append_drop, List.drop_eq_getElem_cons h, usedF] at h1
  unfold cutF7
  rw [usedF_append]
  omega
theorem len_cut (l : List Fl) (k : Nat) (h : k < l.length) : (cutF7 l k).length = l.length - 1 := by
  unfold cutF7; rw [List.length_append, List.length_take, List.length_drop]; omega
theorem mem_cut {l : List Fl} {k : Nat} {y : Fl} (h : y ∈ cutF7 l k) : y ∈ l := by
  rcases List.mem_append.1 h with h | h
  · exact List.mem_of_mem_take h
  · exact List.mem_of_mem_drop h
theorem used_set (l : List Fl) (k : Nat) (h : k < l.length) (x : Fl) : usedF (l.set k x) + l[k].b.size = usedF l + x.b.size := by
  have h1 := usedF_append (l.take k) (l.drop k)
  rw [List.take_append_drop, List.drop_eq_getElem_cons h, usedF] at h1
  have h2 : l.set k x = l.take k ++ x :: l.drop (k + 1) := List.set_eq_take_append_cons_drop.trans (by rw [if_pos h])
  rw [h2, usedF_append, usedF]
  omega
theorem ok_create {d : Dk} (h : OkD d) (n : ByteArray) : OkD (createD d n).1 := by
  have hm := ok_may h (createE d n)
  unfold createD
  by_cases h0 : (mayD d (createE d n)).2 = 0
  · rw [if_pos h0]
    have he := mayD_zero _ _ h0
    have hlt : d.f.length < 400 := by
      unfold createE at he
      split at he
      · cases he
      · split at he
        · cases he
        · split at he
          · cases he
          · omega
    have hf := (mayD_f d (createE d n)).1
    obtain ⟨h1, h2, h3, h4, h5⟩ := hm
    rw [hf] at h1 h2 h5
    have g1 := putGo_len ⟨n, ⟨#[]⟩, 0⟩ d.f false
    have g2 := putGo_used ⟨n, ⟨#[]⟩, 0⟩ d.f false
    have hz : (⟨#[]⟩ : ByteArray).size = 0 := rfl
    simp at g1 g2
    refine ⟨?_, ?_, h3, h4, ?_⟩
    · simp only; rw [hf]; unfold putF; omega
    · simp only; rw [hf]; unfold putF; omega
    · simp only; rw [hf]
      intro y hy
      rcases putGo_mem _ _ _ _ hy with hy | hy
      · exact h5 y hy
      · subst hy; simp
  · rw [if_neg h0]; exact hm
theorem ok_append {d : Dk} (h : OkD d) (n b : ByteArray) : OkD (appendD d n b).1 := by
  have hm := ok_may h (appendE d n b)
  unfold appendD
  by_cases h0 : (mayD d (appendE d n b)).2 = 0 ∨ ((mayD d (appendE d n b)).2 = 7 ∧ d.down = false)
  · rw [if_pos h0]
    have he := mayD_app d _ (appendE_ne d n b) h0
    obtain ⟨ha, hu⟩ : ¬ atF d.f n < 0 ∧ ¬ d.max < usedF d.f + b.size := by
      unfold appendE at he
      split at he
      · cases he
      · rename_i ha
        split at he
        · cases he
        · rename_i hu; exact ⟨ha, hu⟩
    have hmx := h.max
    have hf := (mayD_f d (appendE d n b)).1
    obtain ⟨h1, h2, h3, h4, h5⟩ := hm
    rw [hf] at h1 h2 h5
    obtain ⟨hlt, -⟩ := atF_lt _ _ ha
    have hst : setBF d.f (atF d.f n).toNat b = d.f.set (atF d.f n).toNat ⟨d.f[(atF d.f n).toNat].name, d.f[(atF d.f n).toNat].b ++ b, d.f[(atF d.f n).toNat].safe⟩ := by
      unfold setBF; rw [List.getElem?_eq_getElem hlt]
    have hus := used_set d.f _ hlt ⟨d.f[(atF d.f n).toNat].name, d.f[(atF d.f n).toNat].b ++ b, d.f[(atF d.f n).toNat].safe⟩
    rw [← hst] at hus
    simp only [ByteArray.size_append] at hus
    refine ⟨?_, ?_, h3, h4, ?_⟩
    · simp only; rw [hst, List.length_set]; exact h1
    · simp only; omega
    · simp only
      rw [hst]
      intro y hy
      rcases List.mem_or_eq_of_mem_set hy with hy | hy
      · exact h5 y hy
      · have := h5 _ (List.getElem_mem hlt)
        subst hy
        simp only [ByteArray.size_append]
        omega
  · rw [if_neg h0]; exact hm
theorem goneE_zero {d : Dk} {n : ByteArray} (h : goneE d n = 0) : ¬ atF d.f n < 0 := by
  unfold goneE at h; split at h
  · cases h
  · assumption
theorem ok_ends {d : Dk} (h : OkD d) (n : ByteArray) (rm : Bool) : OkD (endsD d n rm).1 := by
  have hm := ok_may h (goneE d n)
  unfold endsD
  by_cases h0 : (mayD d (goneE d n)).2 = 0
  · rw [if_neg (by simp [h0])]
    have ha := goneE_zero (mayD_zero _ _ h0)
    have hf := (mayD_f d (goneE d n)).1
    obtain ⟨h1, h2, h3, h4, h5⟩ := hm
    rw [hf] at h1 h2 h5
    obtain ⟨hlt, -⟩ := atF_lt _ _ ha
    generalize (atF d.f n).toNat = k at *
    cases rm
    · have hst : syncF d.f k = d.f.set k ⟨d.f[k].name, d.f[k].b, d.f[k].b.size⟩ := by unfold syncF; rw [List.getElem?_eq_getElem hlt]
      have hus := used_set d.f _ hlt ⟨d.f[k].name, d.f[k].b, d.f[k].b.size⟩
      rw [← hst] at hus
      simp only at hus
      refine ⟨?_, ?_, h3, h4, ?_⟩
      · simp only [Bool.false_eq_true, if_false]; rw [hst, List.length_set]; exact h1
      · simp only [Bool.false_eq_true, if_false]; omega
      · simp only [Bool.false_eq_true, if_false]
        rw [hst]
        intro y hy
        rcases List.mem_or_eq_of_mem_set hy with hy | hy
        · exact h5 y hy
        · subst hy; simp
    · have hu := used_cut d.f k hlt
      have hl := len_cut d.f k hlt
      refine ⟨?_, ?_, h3, h4, ?_⟩
      · simp only [if_true]; omega
      · simp only [if_true]; omega
      · simp only [if_true]
        intro y hy
        exact h5 y (mem_cut hy)
  · rw [if_pos h0]; exact hm
theorem ok_rename {d : Dk} (h : OkD d) (n m : ByteArray) : OkD (renameD d n m).1 := by
  have hm := ok_may h (renameE d n m)
  unfold renameD
  by_cases h0 : (mayD d (renameE d n m)).2 = 0
  · rw [if_neg (by simp [h0])]
    have he := mayD_zero _ _ h0
    have ha : ¬ atF d.f n < 0 := by
      unfold renameE at he; split at he
      · cases he
      · assumption
    have hf := (mayD_f d (renameE d n m)).1
    obtain ⟨h1, h2, h3, h4, h5⟩ := hm
    rw [hf] at h1 h2 h5
    obtain ⟨hlt, -⟩ := atF_lt _ _ ha
    generalize (atF d.f n).toNat = k at *
    have hst : renF d.f k m = putF (cutF7 d.f k) ⟨m, d.f[k].b, d.f[k].safe⟩ := by unfold renF; rw [List.getElem?_eq_getElem hlt]
    have hu := used_cut d.f k hlt
    have hl := len_cut d.f k hlt
    have g1 := putGo_len ⟨m, d.f[k].b, d.f[k].safe⟩ (cutF7 d.f k) false
    have g2 := putGo_used ⟨m, d.f[k].b, d.f[k].safe⟩ (cutF7 d.f k) false
    simp at g1 g2
    refine ⟨?_, ?_, h3, h4, ?_⟩
    · simp only; rw [hst]; unfold putF; omega
    · simp only; rw [hst]; unfold putF; omega
    · simp only; rw [hst]
      intro y hy
      rcases putGo_mem _ _ _ _ hy with hy | hy
      · exact h5 y (mem_cut hy)
      · have := h5 _ (List.getElem_mem hlt)
        subst hy
        exact this
  · rw [if_pos h0]; exact hm
theorem upGo_ok (keep : List Int) : ∀ (l : List Fl) (i : Nat), SafeF l → (upGo keep i l).length = l.length ∧ usedF (upGo keep i l) ≤ usedF l ∧ SafeF (upGo keep i l)
  | [], i, _ => by unfold upGo; simp [SafeF]
  | f :: l, i, h => by
    have hf := h f (by simp)
    have ht : SafeF l := fun y hy => h y (by simp [hy])
    unfold upGo
    split
    · obtain ⟨a, b, c⟩ := upGo_ok keep l i ht
      refine ⟨by simp [a], by simp only [usedF]; omega, fun y hy => ?_⟩
      rcases List.mem_cons.1 hy with hy | hy
      · subst hy; exact hf
      · exact c y hy
    · rename_i hne
      obtain ⟨a, b, c⟩ := upGo_ok keep l (i + 1) ht
      have hk := keepN_bd keep i (f.b.size - f.safe + 1) (by omega)
      have hsz : (upOne keep i f).b.size ≤ f.b.size := by
        unfold upOne; simp only; rw [ByteArray.size_extract]; omega
      have hsf : (upOne keep i f).safe = (upOne keep i f).b.size := rfl
      refine ⟨by simp [a], by simp only [usedF]; omega, fun y hy => ?_⟩
      rcases List.mem_cons.1 hy with hy | hy
      · subst hy; rw [hsf]; omega
      · exact c y hy
theorem ok_up {d : Dk} (h : OkD d) (keep : List Int) : OkD (upD d keep) := by
  obtain ⟨h1, h2, h3, h4, h5⟩ := h
  unfold upD
  split
  · obtain ⟨a, b, c⟩ := upGo_ok keep d.f 0 h5
    exact ⟨by simp only; omega, by simp only; omega, h3, ⟨by simp only; omega, by simp only; omega⟩, c⟩
  · exact ⟨h1, h2, h3, ⟨by simp only; omega, by simp only; omega⟩, h5⟩
theorem ok_new {q : Int} (h : 0 ≤ q ∧ q ≤ 16777216) : OkD ⟨[], q, -1, false⟩ := ⟨by simp, by simp [usedF], h, by simp, by simp⟩
end Go.Proofs.Ytbdaflhmloodfaa
