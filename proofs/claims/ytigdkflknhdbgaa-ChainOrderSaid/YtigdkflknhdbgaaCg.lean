/- Layer 13, plain: a part of a list in order, and what is put into it. -/
import Derived.Test.YtigdkflknhdbgaaCf
namespace Go.Proofs.Ytigdkflknhdbgaa
open Go.RowKit
set_option linter.unusedVariables false

structure PartV (r cur : List Ver) : Prop where
  asc : AscV cur
  sub : ∀ x ∈ cur, x ∈ r
theorem PartV.add {r cur : List Ver} (hg : GoodV r) (h : PartV r cur) {v : Ver} (hv : v ∈ r) (hn : v ∉ cur) : addV cur v = (insA v cur, 0) ∧ PartV r (insA v cur) := by
  have h1 := add_part hg.asc h.sub hv hn (hg.may v hv)
  refine ⟨h1, ?_, fun x hx => ?_⟩
  · have := asc_addV h.asc v
    rw [h1] at this
    exact this
  · rcases (mem_insA v x cur).1 hx with rfl | hx
    · exact hv
    · exact h.sub x hx
theorem PartV.whole {r cur : List Ver} (hg : GoodV r) (h : PartV r cur) (ha : ∀ x ∈ r, x ∈ cur) : cur = r := asc_eq h.asc hg.asc fun x => ⟨h.sub x, ha x⟩
theorem asc_sub {r q : List Ver} (h : AscV r) (hq : q.Sublist r) : AscV q := List.Pairwise.sublist hq h
theorem asc_ahead {q : List Ver} (h : AscV q) {k : Nat} (hk : k < q.length) : q[k] ∉ q.take k := fun hm => by
  obtain ⟨i, hi, he⟩ := List.mem_iff_getElem.1 hm
  rw [List.length_take] at hi
  rw [List.getElem_take] at he
  have := List.pairwise_iff_getElem.1 h i k (by omega) hk (by omega)
  rw [he, lessV_irrefl] at this
  cases this
theorem asc_behind {q : List Ver} (h : AscV q) {k : Nat} (hk : k < q.length) : q[k] ∉ q.drop (k + 1) := fun hm => by
  obtain ⟨i, hi, he⟩ := List.mem_iff_getElem.1 hm
  rw [List.length_drop] at hi
  rw [List.getElem_drop] at he
  have := List.pairwise_iff_getElem.1 h k (k + 1 + i) hk (by omega) (by omega)
  rw [he, lessV_irrefl] at this
  cases this
theorem stay_part {r : List Ver} (hg : GoodV r) (e : Int) : PartV r (stayV e r) := ⟨asc_sub hg.asc List.filter_sublist, fun x hx => (List.mem_filter.1 hx).1⟩
theorem gone_in {r : List Ver} {e : Int} {v : Ver} (h : v ∈ goneV e r) : v ∈ r ∧ v ∉ stayV e r := by
  obtain ⟨h1, h2⟩ := List.mem_filter.1 h
  refine ⟨h1, fun h3 => ?_⟩
  have h4 := (List.mem_filter.1 h3).2
  rw [h4] at h2
  cases h2
theorem stay_or {r : List Ver} {e : Int} {v : Ver} (h : v ∈ r) : v ∈ stayV e r ∨ v ∈ goneV e r := by
  cases hq : decide (v.e ≤ e)
  · exact .inr (List.mem_filter.2 ⟨h, by simp only [hq]; rfl⟩)
  · exact .inl (List.mem_filter.2 ⟨h, hq⟩)
/-- The k-th of those that are gone, when those ahead of it have been put in again. -/
theorem keeps_step {r : List Ver} (hg : GoodV r) {e : Int} {cur : List Ver} {k : Nat} (h : PartV r cur) (hm : ∀ x, x ∈ cur ↔ x ∈ stayV e r ∨ x ∈ (goneV e r).take k) (hk : k < (goneV e r).length) :
    addV cur (goneV e r)[k] = (insA (goneV e r)[k] cur, 0) ∧ PartV r (insA (goneV e r)[k] cur) ∧ (∀ x, x ∈ insA (goneV e r)[k] cur ↔ x ∈ stayV e r ∨ x ∈ (goneV e r).take (k + 1)) := by
  have hin := gone_in (List.getElem_mem hk)
  have hn : (goneV e r)[k] ∉ cur := fun hc => by
    rcases (hm _).1 hc with h1 | h1
    · exact hin.2 h1
    · exact asc_ahead (asc_sub hg.asc List.filter_sublist) hk h1
  obtain ⟨h1, h2⟩ := h.add hg hin.1 hn
  refine ⟨h1, h2, fun x => ?_⟩
  rw [mem_insA, hm, List.take_succ_eq_append_getElem hk, List.mem_append, List.mem_singleton]
  constructor
  · rintro (h3 | h3 | h3)
    · exact .inr (.inr h3)
    · exact .inl h3
    · exact .inr (.inl h3)
  · rintro (h3 | h3 | h3)
    · exact .inr (.inl h3)
    · exact .inr (.inr h3)
    · exact .inl h3
theorem keeps_end {r : List Ver} (hg : GoodV r) {e : Int} {cur : List Ver} (h : PartV r cur) (hm : ∀ x, x ∈ cur ↔ x ∈ stayV e r ∨ x ∈ (goneV e r).take (goneV e r).length) : cur = r :=
  h.whole hg fun x hx => (hm x).2 (by rw [List.take_length]; exact stay_or hx)
theorem order_step {r : List Ver} (hg : GoodV r) {cur : List Ver} {k : Nat} (h : PartV r cur) (hm : ∀ x, x ∈ cur ↔ x ∈ r.drop (k + 1)) (hk : k < r.length) :
    addV cur r[k] = (insA r[k] cur, 0) ∧ PartV r (insA r[k] cur) ∧ (∀ x, x ∈ insA r[k] cur ↔ x ∈ r.drop k) := by
  have hn : r[k] ∉ cur := fun hc => asc_behind hg.asc hk ((hm _).1 hc)
  obtain ⟨h1, h2⟩ := h.add hg (List.getElem_mem hk) hn
  refine ⟨h1, h2, fun x => ?_⟩
  rw [mem_insA, hm, List.drop_eq_getElem_cons hk, List.mem_cons]
/-- What two indexes' blocks, and a row, have to do with one another: nothing. -/
def Off (v : Value) (S : Nat → Prop) : Prop := ∀ j, v.ownBlock = some j → ¬ S j
theorem Off.grow {v : Value} {S S' : Nat → Prop} {n : Nat} (h : Off v S) (hs : ∀ i, S' i → S i ∨ n ≤ i) (hv : ∀ j, v.ownBlock = some j → j < n) : Off v S' := fun j hj hs2 => by
  rcases hs j hs2 with h1 | h1
  · exact h j hj h1
  · have := hv j hj; omega
end Go.Proofs.Ytigdkflknhdbgaa
