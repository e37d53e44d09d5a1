/- Layer 8: rows of slices of versions that are new as well: each element is a row that the call owns. Program-bound by its types' names alone. -/
import Derived.Test.YtefjdmlmmoeoaaaRR
import Derived.Test.YtefjdmlmmoeoaaaBA
import Derived.Test.YtefjdmlmmoeoaaaBE
import Derived.RangeFuncBox
namespace Go.Proofs.Ytefjdmlmmoeoaaa
open Go.RowKit Go.ChangeShapes Go.WideShapes Go.ChangeAt Go.Deep
set_option linter.unusedVariables false

theorem vv_info : (Try.prog.info? 22).map (fun i => (i.zero, i.size, i.bytes)) = some (some (.slice none 0 0), 1, 24) := by kernel_rfl
/-- v is a row of slices of versions, that the call owns, in blocks from base on; its slices are rows that the call owns; none of them lies in the row. -/
def OwnNV (w : World) (base : Nat) (v : Value) (ls : List (List Ver)) : Prop :=
  ∃ vs, w.ownsRow base 22 1 v ls.length vs ∧ vs.length = ls.length ∧ ∀ (i : Nat) (u : Value) (l : List Ver), vs[i]? = some u → ls[i]? = some l → OwnVr w base u l ∧ ∀ k, u.ownBlock = some k → some k ≠ v.ownBlock
theorem OwnNV.nil (w : World) (base : Nat) : OwnNV w base (.slice none 0 0) [] := ⟨[], World.ownsRow_nil w base _ 1, rfl, by simp⟩
theorem OwnNV.lt {w : World} {base : Nat} {v : Value} {ls : List (List Ver)} (h : OwnNV w base v ls) : ∀ k, v.ownBlock = some k → base ≤ k ∧ k < w.heap.size := fun k hk => let ⟨_, h1, _⟩ := h; h1.lt k hk
theorem OwnNV.base {w : World} {base : Nat} {v : Value} {ls : List (List Ver)} (h : OwnNV w base v ls) : ∀ k, v.ownBlock = some k → base ≤ k := fun k hk => (h.lt k hk).1
/-- What is turned is neither the row nor one of its slices. -/
theorem OwnNV.keep {w w' : World} {base : Nat} {v : Value} {ls : List (List Ver)} {row : Option Nat} (h : OwnNV w base v ls) (hg : w.grownBy w' row)
    (hne : ∀ j, row = some j → ∀ cs t f, w.heap[j]? = some (.cells cs t f) → t ≠ 22 ∧ t ≠ 42) : OwnNV w' base v ls := by
  obtain ⟨vs, h1, h2, h3⟩ := h
  have key : ∀ {e : TypeId} {sz : Nat} {u : Value} {k : Nat} {xs : List Value}, (e = 22 ∨ e = 42) → w.ownsRow base e sz u k xs → u.ownBlock = none ∨ u.ownBlock ≠ row := by
    intro e sz u k xs he hr
    rcases hr.2 with ⟨rfl, _⟩ | ⟨g, cap, cur, rfl, _, hgb, _⟩
    · exact .inl rfl
    · refine .inr fun e' => ?_
      have := hne g (by simpa [Value.ownBlock] using e'.symm) _ _ _ hgb
      rcases he with rfl | rfl
      · exact this.1 rfl
      · exact this.2 rfl
  exact ⟨vs, h1.kept hg (key (.inl rfl) h1), h2, fun i u l hu hl => ⟨(h3 i u l hu hl).1.keep hg (key (.inr rfl) (h3 i u l hu hl).1), (h3 i u l hu hl).2⟩⟩
theorem OwnNV.on {w w' : World} {base : Nat} {v : Value} {ls : List (List Ver)} (h : OwnNV w base v ls) (hb : Below w.heap.size w w') : OwnNV w' base v ls :=
  h.keep (row := none) ⟨hb.os, hb.tape, hb.output, hb.size, fun i hi _ => hb.block i hi⟩ (fun j e => by cases e)
/-- What is turned is no cells; or is a box of another type. -/
theorem OwnNV.turn {w w' : World} {base : Nat} {v : Value} {ls : List (List Ver)} {row : Option Nat} (h : OwnNV w base v ls) (hg : w.grownBy w' row)
    (hne : ∀ j, row = some j → ∃ o : Obj, w.heap[j]? = some o ∧ o.isCells = false) : OwnNV w' base v ls :=
  h.keep hg fun j e cs t f hj => by
    obtain ⟨o, ho, hc⟩ := hne j e
    rw [hj] at ho; cases ho; cases hc
theorem OwnNV.box {w : World} {base B : Nat} {v u x : Value} {ls : List (List Ver)} {t : TypeId} (h : OwnNV w base v ls) (hb : Boxed w B t u) (ht : t ≠ 22 ∧ t ≠ 42) : OwnNV (w.setCell ⟨B, 0, none⟩ x) base v ls :=
  h.keep (grownBy_setCell' w B x) fun j e cs t' f hj => by
    cases e
    have := hb.symm.trans hj
    cases this
    exact ht
theorem Boxed.below8 {w w' : World} {B : Nat} {t : TypeId} {u : Value} (h : Boxed w B t u) (hb : Below w.heap.size w w') : Boxed w' B t u := (hb.block B h.lt).trans h
theorem keeps_below8 {w w' : World} (hb : Below w.heap.size w w') : KeepsOthers w w' := ⟨hb.size, fun k o hk _ => (hb.block k (Array.getElem?_eq_some_iff.1 hk).1).trans hk⟩
/-- A box is not the block of such a row. -/
theorem Boxed.not_nv {w : World} {B : Nat} {t : TypeId} {u v : Value} {base : Nat} {ls : List (List Ver)} (h : Boxed w B t u) (ht : t ≠ 22) (ho : OwnNV w base v ls) : some B ≠ v.ownBlock :=
  let ⟨_, h1, _⟩ := ho; h.not_row ht h1
theorem keeps_grew8 {w w' : World} {base : Nat} {v v' : Value} {ls : List (List Ver)} (ho : OwnNV w base v ls) (hg : Grew w w' v v') : KeepsOthers w w' :=
  KeepsOthers.of_grownBy hg.grown fun j o e hj => by
    obtain ⟨vs, h1, _⟩ := ho
    rcases h1.2 with ⟨rfl, _⟩ | ⟨g, cap, cur, rfl, _, hgb, _⟩
    · simp [Value.ownBlock] at e
    · obtain rfl : g = j := by simpa [Value.ownBlock] using e
      rw [hgb] at hj; cases hj; rfl

/-- append of one new slice of bytes, that stands in a literal. -/
theorem app_nv_run {W : World} {base g c : Nat} {ty : TypeId} {v u : Value} {ls : List (List Ver)} {l : List Ver} (hown : OwnNV W base v ls) (hu : OwnVr W base u l) (hne : ∀ k, u.ownBlock = some k → some k ≠ v.ownBlock)
    (hblk : W.heap[g]? = some (.cells #[u] 22 (0, 0))) (hb : base ≤ W.heap.size) (hlen : ls.length ≤ 1000000000) :
    ∃ v' w', (Builtin.append_ #[57, 57] ty #[v, .slice (some ⟨g, 0, none⟩) 1 c]).run Try.prog W = .ok v' w' ∧ OwnNV w' base v' (ls ++ [l]) ∧ Grew W w' v v' ∧ W.heap.size ≤ w'.heap.size := by
  obtain ⟨vs, hr, hl, hv⟩ := hown
  have h1 : u.oneCell' = true := by
    rcases hu.2 with ⟨rfl, _⟩ | ⟨g', cap, cur, rfl, _⟩ <;> rfl
  obtain ⟨v', w', hrun, h2, h3, h4⟩ := app_run (P := Try.prog) (W := W) (ty := ty) Try.underlying57 vv_info rfl (by omega) v ls.length vs hr g 1 c [u] rfl (by simpa using hblk) (by simpa using h1) (by omega) (by omega) hb
  refine ⟨v', w', hrun, ⟨vs ++ [u], by simpa using h2, by simp [hl], fun i x m hx hm => ?_⟩, h3, h4⟩
  have key : ∀ (x : Value) (m : List Ver), OwnVr W base x m → (∀ k, x.ownBlock = some k → some k ≠ v.ownBlock) → OwnVr w' base x m ∧ ∀ k, x.ownBlock = some k → some k ≠ v'.ownBlock := by
    intro x m hx hn
    refine ⟨hx.keep h3.grown ?_, fun k hk => ?_⟩
    · cases hob : x.ownBlock with
      | none => exact .inl rfl
      | some k => exact .inr (hn k hob)
    · rcases h3.own with e | ⟨g2, e, hg2⟩
      · rw [e]; exact hn k hk
      · rw [e]; intro e2; injection e2 with e2; have := (World.ownsRow.lt hx k hk).2; omega
  rcases Nat.lt_or_ge i vs.length with hi | hi
  · rw [List.getElem?_append_left hi] at hx
    rw [List.getElem?_append_left (by omega)] at hm
    exact key x m (hv i x m hx hm).1 (hv i x m hx hm).2
  · rw [List.getElem?_append_right hi] at hx
    rw [List.getElem?_append_right (by omega), ← hl] at hm
    rcases Nat.eq_zero_or_pos (i - vs.length) with h0 | h0
    · rw [h0] at hx hm; simp at hx hm; subst hx hm; exact key u l hu hne
    · rw [List.getElem?_eq_none (by simp; omega)] at hx; cases hx
end Go.Proofs.Ytefjdmlmmoeoaaa
