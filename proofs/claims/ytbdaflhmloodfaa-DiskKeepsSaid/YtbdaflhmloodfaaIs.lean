/- Layer 7: a file that no deed names stays, up to what the power takes: plain facts. -/
import Derived.Test.YtbdaflhmloodfaaIr
namespace Go.Proofs.Ytbdaflhmloodfaa
open Go.RowKit
set_option linter.unusedVariables false

def mineN : ByteArray := ⟨#[109, 105, 110, 101]⟩
/-- The file is there: at least lo of its bytes are safe, they are a beginning of all; all of it, if no power went. -/
def Has (all : ByteArray) (lo : Nat) (gone : Bool) (d : Dk) : Prop := ∃ f ∈ d.f, f.name = mineN ∧ (lo : Int) ≤ f.safe ∧ f.b.data.toList = all.data.toList.take f.b.size ∧ (gone = false → f.b = all)
theorem Has.list {all : ByteArray} {lo : Nat} {gone : Bool} {d d' : Dk} (h : Has all lo gone d) (hm : ∀ f ∈ d.f, f.name = mineN → f ∈ d'.f) : Has all lo gone d' := by
  obtain ⟨f, hf, hn, r⟩ := h
  exact ⟨f, hm f hf hn, hn, r⟩
theorem has_create {d : Dk} {n : ByteArray} (hn : n ≠ mineN) : ∀ f ∈ d.f, f.name = mineN → f ∈ (createD d n).1.f := fun f hf hm => by
  have h1 := (mayD_f d (createE d n)).1
  unfold createD
  split
  · simp only
    rw [h1]
    exact mem_putF.2 (.inr ⟨hf, by rw [hm]; exact fun e => hn e.symm⟩)
  · rw [h1]; exact hf
theorem has_append {d : Dk} (hs : SortD d.f) {n b : ByteArray} (hn : n ≠ mineN) : ∀ f ∈ d.f, f.name = mineN → f ∈ (appendD d n b).1.f := fun f hf hm => by
  have h1 := (mayD_f d (appendE d n b)).1
  unfold appendD
  split
  · rename_i h0
    have he := mayD_app d _ (appendE_ne d n b) h0
    have ha : ¬ atF d.f n < 0 := by
      unfold appendE at he
      split at he
      · cases he
      · assumption
    obtain ⟨hk, hkn⟩ := atF_some ha
    have hst : setBF d.f (atF d.f n).toNat b = d.f.set (atF d.f n).toNat ⟨d.f[(atF d.f n).toNat].name, d.f[(atF d.f n).toNat].b ++ b, d.f[(atF d.f n).toNat].safe⟩ := by
      unfold setBF; rw [List.getElem?_eq_getElem hk]
    simp only
    rw [hst]
    refine (mem_setF hs hk (by rfl)).2 (.inr ⟨hf, ?_⟩)
    show f.name ≠ d.f[(atF d.f n).toNat].name
    rw [hkn, hm]; exact fun e => hn e.symm
  · rw [h1]; exact hf
theorem has_ends {d : Dk} (hs : SortD d.f) {n : ByteArray} (rm : Bool) (hn : n ≠ mineN) : ∀ f ∈ d.f, f.name = mineN → f ∈ (endsD d n rm).1.f := fun f hf hm => by
  have h1 := (mayD_f d (goneE d n)).1
  unfold endsD
  by_cases h0 : (mayD d (goneE d n)).2 = 0
  · rw [if_neg (by simp [h0])]
    have ha := goneE_zero (mayD_zero _ _ h0)
    obtain ⟨hk, hkn⟩ := atF_some ha
    simp only
    generalize (atF d.f n).toNat = k at *
    have hne : f.name ≠ d.f[k].name := by rw [hkn, hm]; exact fun e => hn e.symm
    cases rm
    · have hst : syncF d.f k = d.f.set k ⟨d.f[k].name, d.f[k].b, d.f[k].b.size⟩ := by unfold syncF; rw [List.getElem?_eq_getElem hk]
      simp only [Bool.false_eq_true, if_false]
      rw [hst]
      exact (mem_setF hs hk (by rfl)).2 (.inr ⟨hf, hne⟩)
    · simp only [if_true]
      exact (mem_cutF hs hk).2 ⟨hf, hne⟩
  · rw [if_pos h0, h1]; exact hf
theorem has_rename {d : Dk} (hs : SortD d.f) {n m : ByteArray} (hn : n ≠ mineN) (hm2 : m ≠ mineN) : ∀ f ∈ d.f, f.name = mineN → f ∈ (renameD d n m).1.f := fun f hf hm => by
  have h1 := (mayD_f d (renameE d n m)).1
  unfold renameD
  by_cases h0 : (mayD d (renameE d n m)).2 = 0
  · rw [if_neg (by simp [h0])]
    obtain ⟨ha, -⟩ := renameE_zero (mayD_zero _ _ h0)
    obtain ⟨hk, hkn⟩ := atF_some ha
    simp only
    generalize (atF d.f n).toNat = k at *
    have hst : renF d.f k m = putF (cutF7 d.f k) ⟨m, d.f[k].b, d.f[k].safe⟩ := by unfold renF; rw [List.getElem?_eq_getElem hk]
    rw [hst]
    exact mem_putF.2 (.inr ⟨(mem_cutF hs hk).2 ⟨hf, by rw [hkn, hm]; exact fun e => hn e.symm⟩, by show f.name ≠ m; rw [hm]; exact fun e => hm2 e.symm⟩)
  · rw [if_pos h0, h1]; exact hf
theorem upGo_mem (keep : List Int) (f : Fl) : ∀ (l : List Fl) (i : Nat), f ∈ l → f ∈ upGo keep i l ∨ ∃ j, upOne keep j f ∈ upGo keep i l
  | [], _, h => by cases h
  | x :: l, i, h => by
    unfold upGo
    split
    · rcases List.mem_cons.1 h with e | h
      · exact .inl (by rw [e]; simp)
      · rcases upGo_mem keep f l i h with h | ⟨j, h⟩
        · exact .inl (by simp [h])
        · exact .inr ⟨j, by simp [h]⟩
    · rcases List.mem_cons.1 h with e | h
      · exact .inr ⟨i, by rw [e]; simp⟩
      · rcases upGo_mem keep f l (i + 1) h with h | ⟨j, h⟩
        · exact .inl (by simp [h])
        · exact .inr ⟨j, by simp [h]⟩
theorem has_up {all : ByteArray} {lo : Nat} {gone : Bool} {d : Dk} (h : Has all lo gone d) (hs : SafeF d.f) (keep : List Int) : Has all lo (gone || d.down) (upD d keep) := by
  unfold upD
  cases hd : d.down
  · rw [if_neg (by simp), Bool.or_false]
    exact h
  · rw [if_pos rfl, Bool.or_true]
    obtain ⟨f, hf, hn, hl, hb, -⟩ := h
    rcases upGo_mem keep f d.f 0 hf with h1 | ⟨j, h1⟩
    · exact ⟨f, h1, hn, hl, hb, fun e => by cases e⟩
    · have hsf := hs f hf
      have hk := keepN_bd keep j (f.b.size - f.safe + 1) (by omega)
      refine ⟨_, h1, hn, ?_, ?_, fun e => by cases e⟩
      · unfold upOne
        simp only
        rw [ByteArray.size_extract]
        omega
      · unfold upOne
        simp only
        rw [take_extract, hb, List.take_take, ByteArray.size_extract]
        congr 1
theorem has_does {all : ByteArray} {lo : Nat} {gone : Bool} {d : Dk} (h : Has all lo gone d) (hs : SortD d.f) (hok : OkD d) (x : Deed) (ha : fewS x.a ≠ mineN) (hb : fewS x.b ≠ mineN) (h7 : x.kind ≠ 7) :
    Has all lo (gone || (x.kind == 6 && d.down)) (doesD d x) := by
  have hg : x.kind ≠ 6 → (gone || (x.kind == 6 && d.down)) = gone := fun h6 => by
    rw [show (x.kind == 6) = false from by rw [beq_eq_false_iff_ne]; exact h6]; simp
  unfold doesD
  split
  · rename_i hk; rw [hg (by omega)]; exact h.list (has_create ha)
  split
  · rename_i hk; rw [hg (by omega)]; exact h.list (has_append hs ha)
  split
  · rename_i hk; rw [hg (by omega)]; exact h.list (has_ends hs _ ha)
  split
  · rename_i hk; rw [hg (by omega)]; exact h.list (has_rename hs ha hb)
  split
  · rename_i hk; rw [hg (by omega)]; exact h.list (has_ends hs _ ha)
  split
  · rename_i hk; rw [hg (by omega)]; exact h
  split
  · rename_i hk
    rw [hk]
    exact has_up h hok.safe x.keep
  · rename_i hk
    rw [hg hk]
    first
      | exact h
      | (split
         · rename_i hk7; exact absurd hk7 h7
         · exact h)
theorem has_one (a b : ByteArray) (s mx : Int) (lo : Nat) (hs : (lo : Int) ≤ s) (he : b = a) : Has a lo false (oneD mineN b s mx) :=
  ⟨⟨mineN, b, s⟩, by simp [oneD], rfl, hs, by subst he; simp only; rw [List.take_of_length_le (by simp)], fun _ => he⟩
end Go.Proofs.Ytbdaflhmloodfaa
