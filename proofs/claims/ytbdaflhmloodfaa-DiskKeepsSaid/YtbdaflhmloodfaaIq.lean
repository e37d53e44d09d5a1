/- Layer 7: what the laws want of the document's disk: plain facts. -/
import Derived.Test.YtbdaflhmloodfaaIe
namespace Go.Proofs.Ytbdaflhmloodfaa
open Go.RowKit
set_option linter.unusedVariables false

theorem upD_down (d : Dk) (keep : List Int) : (upD d keep).down = false ∧ (upD d keep).left = -1 := by
  unfold upD
  split
  · exact ⟨rfl, rfl⟩
  · rename_i h; exact ⟨by simpa using h, rfl⟩
theorem up_again {d : Dk} (h1 : d.down = false) (h2 : d.left = -1) (keep : List Int) : upD (armD d 0) keep = d := by
  have h3 : (armD d 0).down = false := h1
  unfold upD
  rw [if_neg (by simp [h3])]
  obtain ⟨f, m, l, dn⟩ := d
  simp only at h2
  subst h2
  rfl
theorem mayD_idle {d : Dk} (h1 : d.down = false) (h2 : d.left = -1) : mayD d 0 = (d, 0) := by
  unfold mayD
  rw [if_neg (by simp [h1]), if_neg (by simp), if_neg (by omega), if_neg (by omega)]
theorem create_idle {d : Dk} (h1 : d.down = false) (h2 : d.left = -1) (n : ByteArray) : (createD d n).2 = createE d n := by
  unfold createD
  by_cases he : createE d n = 0
  · rw [he, mayD_idle h1 h2]; simp
  · rw [mayD_err h1 he, if_neg he]
theorem createE_ne (d : Dk) (n : ByteArray) : createE d n ≠ 7 := by
  unfold createE
  split
  · omega
  · split
    · omega
    · split <;> omega
/-- How full a disk is. -/
theorem full_append {d : Dk} (h : usedF d.f ≤ d.max) (n b : ByteArray) : usedF (appendD d n b).1.f ≤ d.max := by
  have hf := (mayD_f d (appendE d n b)).1
  unfold appendD
  split
  · rename_i h0
    have he := mayD_app d _ (appendE_ne d n b) h0
    obtain ⟨ha, hu⟩ : ¬ atF d.f n < 0 ∧ ¬ d.max < usedF d.f + b.size := by
      unfold appendE at he
      split at he
      · cases he
      · rename_i ha
        split at he
        · cases he
        · rename_i hu; exact ⟨ha, hu⟩
    obtain ⟨hlt, -⟩ := atF_lt _ _ ha
    have hst : setBF d.f (atF d.f n).toNat b = d.f.set (atF d.f n).toNat ⟨d.f[(atF d.f n).toNat].name, d.f[(atF d.f n).toNat].b ++ b, d.f[(atF d.f n).toNat].safe⟩ := by
      unfold setBF; rw [List.getElem?_eq_getElem hlt]
    simp only
    rw [hst]
    have hus := used_set d.f _ hlt ⟨d.f[(atF d.f n).toNat].name, d.f[(atF d.f n).toNat].b ++ b, d.f[(atF d.f n).toNat].safe⟩
    simp only [ByteArray.size_append] at hus
    omega
  · rw [hf]; exact h
theorem max_does {d : Dk} (x : Deed) (hx : x.kind ≠ 7) : (doesD d x).max = d.max := by
  unfold doesD
  split
  · unfold createD; split; exact (mayD_f _ _).2; exact (mayD_f _ _).2
  split
  · unfold appendD; split; exact (mayD_f _ _).2; exact (mayD_f _ _).2
  split
  · unfold endsD; split; exact (mayD_f _ _).2; exact (mayD_f _ _).2
  split
  · unfold renameD; split; exact (mayD_f _ _).2; exact (mayD_f _ _).2
  split
  · unfold endsD; split; exact (mayD_f _ _).2; exact (mayD_f _ _).2
  split
  · rfl
  split
  · unfold upD; split <;> rfl
  · rfl
theorem full_does {d : Dk} (hn : NamesOk d) (hok : OkD d) (h : usedF d.f ≤ d.max) (x : Deed) (hx : x.kind ≠ 7) : usedF (doesD d x).f ≤ d.max := by
  unfold doesD
  split
  · have := keep_create hn (fewS x.a); omega
  split
  · exact full_append h _ _
  split
  · have := keep_ends hn (fewS x.a) false; omega
  split
  · have := keep_rename hn (fewS x.a) (fewS x.b); omega
  split
  · have := keep_ends hn (fewS x.a) true; omega
  split
  · exact h
  split
  · have := keep_up hn hok.safe x.keep; omega
  · exact h
end Go.Proofs.Ytbdaflhmloodfaa
