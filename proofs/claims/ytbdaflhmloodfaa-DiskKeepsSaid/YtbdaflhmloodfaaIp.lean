/- Layer 7: what the law's deeds keep: plain facts. -/
import Derived.Test.YtbdaflhmloodfaaIb
namespace Go.Proofs.Ytbdaflhmloodfaa
open Go.RowKit
set_option linter.unusedVariables false

def NamesOk (d : Dk) : Prop := ∀ f ∈ d.f, nameB f.name.data.toList = true
theorem names_put {l : List Fl} {f : Fl} (h : ∀ y ∈ l, nameB y.name.data.toList = true) (hf : nameB f.name.data.toList = true) : ∀ y ∈ putF l f, nameB y.name.data.toList = true := fun y hy => by
  rcases mem_putF.1 hy with rfl | ⟨hy, -⟩
  · exact hf
  · exact h y hy
theorem names_set {l : List Fl} {k : Nat} {f : Fl} (h : ∀ y ∈ l, nameB y.name.data.toList = true) (hk : k < l.length) (hn : f.name = l[k].name) : ∀ y ∈ l.set k f, nameB y.name.data.toList = true := fun y hy => by
  rcases List.mem_or_eq_of_mem_set hy with hy | hy
  · exact h y hy
  · subst hy; rw [hn]; exact h _ (List.getElem_mem hk)
theorem createE_zero {d : Dk} {n : ByteArray} (h : createE d n = 0) : nameB n.data.toList = true := by
  unfold createE at h
  split at h
  · cases h
  · rename_i h2; simpa using h2
theorem renameE_zero {d : Dk} {n m : ByteArray} (h : renameE d n m = 0) : ¬ atF d.f n < 0 ∧ nameB m.data.toList = true := by
  unfold renameE at h
  split at h
  · cases h
  · rename_i h1
    split at h
    · cases h
    · rename_i h2; exact ⟨h1, by simpa using h2⟩
theorem used_set_le {l : List Fl} {k : Nat} {f : Fl} (hk : k < l.length) (h : f.b.size ≤ l[k].b.size) : usedF (l.set k f) ≤ usedF l := by
  have := used_set l k hk f; omega
theorem keep_create {d : Dk} (h : NamesOk d) (n : ByteArray) : NamesOk (createD d n).1 ∧ usedF (createD d n).1.f ≤ usedF d.f := by
  have hf := (mayD_f d (createE d n)).1
  unfold createD
  by_cases h0 : (mayD d (createE d n)).2 = 0
  · rw [if_pos h0]
    have he := createE_zero (mayD_zero _ _ h0)
    have hu := putGo_used ⟨n, ⟨#[]⟩, 0⟩ d.f false
    have hz : (⟨#[]⟩ : ByteArray).size = 0 := rfl
    simp at hu
    refine ⟨?_, ?_⟩
    · unfold NamesOk; simp only; rw [hf]; exact names_put h he
    · simp only; rw [hf]; unfold putF; omega
  · rw [if_neg h0]; unfold NamesOk; rw [hf]; exact ⟨h, Int.le_refl _⟩
theorem keep_append {d : Dk} (h : NamesOk d) (n b : ByteArray) : NamesOk (appendD d n b).1 ∧ usedF (appendD d n b).1.f ≤ usedF d.f + b.size := by
  have hf := (mayD_f d (appendE d n b)).1
  unfold appendD
  split
  · rename_i h0
    have he := mayD_app d _ (appendE_ne d n b) h0
    have ha : ¬ atF d.f n < 0 := by
      unfold appendE at he
      split at he
      · cases he
      · assumption
    obtain ⟨hlt, -⟩ := atF_lt _ _ ha
    have hst : setBF d.f (atF d.f n).toNat b = d.f.set (atF d.f n).toNat ⟨d.f[(atF d.f n).toNat].name, d.f[(atF d.f n).toNat].b ++ b, d.f[(atF d.f n).toNat].safe⟩ := by
      unfold setBF; rw [List.getElem?_eq_getElem hlt]
    unfold NamesOk
    simp only
    rw [hst]
    have hus := used_set d.f _ hlt ⟨d.f[(atF d.f n).toNat].name, d.f[(atF d.f n).toNat].b ++ b, d.f[(atF d.f n).toNat].safe⟩
    simp only [ByteArray.size_append] at hus
    exact ⟨names_set h hlt rfl, by omega⟩
  · unfold NamesOk; rw [hf]; exact ⟨h, by omega⟩
theorem keep_ends {d : Dk} (h : NamesOk d) (n : ByteArray) (rm : Bool) : NamesOk (endsD d n rm).1 ∧ usedF (endsD d n rm).1.f ≤ usedF d.f := by
  have hf := (mayD_f d (goneE d n)).1
  unfold endsD
  by_cases h0 : (mayD d (goneE d n)).2 = 0
  · rw [if_neg (by simp [h0])]
    have ha := goneE_zero (mayD_zero _ _ h0)
    obtain ⟨hlt, -⟩ := atF_lt _ _ ha
    unfold NamesOk
    simp only
    generalize (atF d.f n).toNat = k at *
    cases rm
    · have hst : syncF d.f k = d.f.set k ⟨d.f[k].name, d.f[k].b, d.f[k].b.size⟩ := by unfold syncF; rw [List.getElem?_eq_getElem hlt]
      simp only [Bool.false_eq_true, if_false]
      rw [hst]
      exact ⟨names_set h hlt rfl, used_set_le hlt (Nat.le_refl _)⟩
    · simp only [if_true]
      have hu := used_cut d.f k hlt
      exact ⟨fun f hf2 => h f (mem_cut hf2), by omega⟩
  · rw [if_pos h0]; unfold NamesOk; rw [hf]; exact ⟨h, Int.le_refl _⟩
theorem keep_rename {d : Dk} (h : NamesOk d) (n m : ByteArray) : NamesOk (renameD d n m).1 ∧ usedF (renameD d n m).1.f ≤ usedF d.f := by
  have hf := (mayD_f d (renameE d n m)).1
  unfold renameD
  by_cases h0 : (mayD d (renameE d n m)).2 = 0
  · rw [if_neg (by simp [h0])]
    obtain ⟨ha, hm⟩ := renameE_zero (mayD_zero _ _ h0)
    obtain ⟨hlt, -⟩ := atF_lt _ _ ha
    unfold NamesOk
    simp only
    generalize (atF d.f n).toNat = k at *
    have hst : renF d.f k m = putF (cutF7 d.f k) ⟨m, d.f[k].b, d.f[k].safe⟩ := by unfold renF; rw [List.getElem?_eq_getElem hlt]
    rw [hst]
    have hu := used_cut d.f k hlt
    have hp := putGo_used ⟨m, d.f[k].b, d.f[k].safe⟩ (cutF7 d.f k) false
    simp at hp
    exact ⟨names_put (fun y hy => h y (mem_cut hy)) hm, by unfold putF; omega⟩
  · rw [if_pos h0]; unfold NamesOk; rw [hf]; exact ⟨h, Int.le_refl _⟩
theorem names_of {l l' : List Fl} (h : ∀ y ∈ l, nameB y.name.data.toList = true) (e : l'.map (·.name) = l.map (·.name)) : ∀ y ∈ l', nameB y.name.data.toList = true := fun y hy => by
  have : y.name ∈ l'.map (·.name) := List.mem_map.2 ⟨y, hy, rfl⟩
  rw [e] at this
  obtain ⟨z, hz, e2⟩ := List.mem_map.1 this
  rw [← e2]; exact h z hz
theorem keep_up {d : Dk} (h : NamesOk d) (hs : SafeF d.f) (keep : List Int) : NamesOk (upD d keep) ∧ usedF (upD d keep).f ≤ usedF d.f := by
  unfold upD
  split
  · exact ⟨names_of h (sort_upGo keep d.f 0), (upGo_ok keep d.f 0 hs).2.1⟩
  · exact ⟨h, Int.le_refl _⟩
theorem keep_does {d : Dk} (h : NamesOk d) (hok : OkD d) (x : Deed) : NamesOk (doesD d x) ∧ usedF (doesD d x).f ≤ usedF d.f + 30 := by
  have hb := fewS_size x.b
  unfold doesD
  split
  · have := keep_create h (fewS x.a); exact ⟨this.1, by omega⟩
  split
  · have := keep_append h (fewS x.a) (fewS x.b); exact ⟨this.1, by omega⟩
  split
  · have := keep_ends h (fewS x.a) false; exact ⟨this.1, by omega⟩
  split
  · have := keep_rename h (fewS x.a) (fewS x.b); exact ⟨this.1, by omega⟩
  split
  · have := keep_ends h (fewS x.a) true; exact ⟨this.1, by omega⟩
  split
  · exact ⟨h, by unfold armD; simp only; omega⟩
  split
  · have := keep_up h hok.safe x.keep; exact ⟨this.1, by omega⟩
  split
  · unfold quotaD
    split
    · exact ⟨h, by simp only; omega⟩
    · split
      · exact ⟨h, by simp only; omega⟩
      · exact ⟨h, by simp only; omega⟩
  · exact ⟨h, by omega⟩
/-- What is told of a file that is there, whole. -/
theorem at_mem {l : List Fl} (hs : SortD l) {f : Fl} (hf : f ∈ l) : ¬ atF l f.name < 0 ∧ l[(atF l f.name).toNat]? = some f := by
  have ha : ¬ atF l f.name < 0 := fun h => atF_none h f hf rfl
  obtain ⟨hk, hn⟩ := atF_some ha
  refine ⟨ha, ?_⟩
  rw [List.getElem?_eq_getElem hk]
  exact congrArg some (hs.same (List.getElem_mem hk) hf hn)
theorem readF_all (s : ByteArray) (n : Int) (h : (s.size : Int) ≤ n) : readF s 0 n = s := by
  unfold readF
  split
  · rename_i h0
    have : s.data.size = 0 := by have : s.data.size = s.size := rfl; omega
    obtain ⟨a⟩ := s
    exact congrArg ByteArray.mk (Array.eq_empty_of_size_eq_zero this).symm
  · have hif : (if (s.size : Int) - 0 < n then (s.size : Int) - 0 else n) = (s.size : Int) := by split <;> omega
    rw [hif, show ((0 : Int)).toNat = 0 from rfl, show ((0 : Int) + (s.size : Int)).toNat = s.size from by omega]
    obtain ⟨a⟩ := s
    exact ByteArray.ext (by rw [ByteArray.data_extract]; show a.extract 0 a.size = a; simp)
theorem readD_all {d : Dk} (hd : d.down = false) (hs : SortD d.f) {f : Fl} (hf : f ∈ d.f) (n : Int) (h : (f.b.size : Int) ≤ n) : readD d f.name 0 n = (f.b, 0) := by
  obtain ⟨ha, hg⟩ := at_mem hs hf
  unfold readD
  rw [if_neg (by simp [hd]), hg]
  simp only [if_neg ha]
  rw [if_neg (by omega), readF_all _ _ h]
theorem sizeD_all {d : Dk} (hd : d.down = false) (hs : SortD d.f) {f : Fl} (hf : f ∈ d.f) : sizeD d f.name = ((f.b.size : Int), 0) := by
  unfold sizeD
  rw [if_neg (by simp [hd])]
  have : d.f.find? (fun y => decide (y.name = f.name)) = some f := by
    cases hfi : d.f.find? (fun y => decide (y.name = f.name)) with
    | none => have := List.find?_eq_none.1 hfi f hf; simp at this
    | some y =>
      have h1 : y.name = f.name := by simpa using List.find?_some hfi
      rw [hs.same (List.mem_of_find?_eq_some hfi) hf h1]
  rw [this]
theorem sizeD_none {d : Dk} (hd : d.down = false) {n : ByteArray} (h : ∀ f ∈ d.f, f.name ≠ n) : sizeD d n = (0, 8) := by
  unfold sizeD
  rw [if_neg (by simp [hd]), List.find?_eq_none.2 (fun f hf => by simpa using h f hf)]
theorem none_NONE {d : Dk} (h : NamesOk d) : ∀ f ∈ d.f, f.name ≠ ⟨#[78, 79, 78, 69]⟩ := fun f hf e => by
  have := h f hf
  rw [e] at this
  revert this
  decide
end Go.Proofs.Ytbdaflhmloodfaa
