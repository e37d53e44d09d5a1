/- Rows of slices of bytes: a row that a call owns, of slices that read as lists of bytes; a slice of such. Program-bound by its types' names alone. -/
import Derived.Test.YtefjdmlmmoeoaaaGreatBstr
namespace Go.Proofs.YtefjdmlmmoeoaaaGreat
open Go.RowKit Go.ChangeShapes Go.WideShapes Go.ChangeAt Go.Deep
set_option linter.unusedVariables false

/-- The values vs read as the lists ls, in blocks below B. -/
def RdAll (w : World) (B : Nat) (vs : List Value) (ls : List (List UInt8)) : Prop := vs.length = ls.length ∧ ∀ (i : Nat) (u : Value) (l : List UInt8), vs[i]? = some u → ls[i]? = some l → RdB w B u l
theorem RdAll.nil (w : World) (B : Nat) : RdAll w B [] [] := ⟨rfl, by simp⟩
theorem RdAll.below {w w' : World} {B : Nat} {vs : List Value} {ls : List (List UInt8)} (h : RdAll w B vs ls) (hb : Below B w w') : RdAll w' B vs ls := ⟨h.1, fun i u l h1 h2 => (h.2 i u l h1 h2).below hb⟩
theorem RdAll.more {w : World} {B B' : Nat} {vs : List Value} {ls : List (List UInt8)} (h : RdAll w B vs ls) (hB : B ≤ B') : RdAll w B' vs ls := ⟨h.1, fun i u l h1 h2 => (h.2 i u l h1 h2).more hB⟩
theorem RdAll.snoc {w : World} {B : Nat} {vs : List Value} {ls : List (List UInt8)} {u : Value} {l : List UInt8} (h : RdAll w B vs ls) (hu : RdB w B u l) : RdAll w B (vs ++ [u]) (ls ++ [l]) := by
  refine ⟨by simp [h.1], fun i x m h1 h2 => ?_⟩
  rcases Nat.lt_or_ge i vs.length with hi | hi
  · rw [List.getElem?_append_left hi] at h1
    rw [List.getElem?_append_left (by rw [← h.1]; exact hi)] at h2
    exact h.2 i x m h1 h2
  · rw [List.getElem?_append_right hi] at h1
    rw [List.getElem?_append_right (by rw [← h.1]; exact hi), ← h.1] at h2
    rcases Nat.eq_zero_or_pos (i - vs.length) with h0 | h0
    · rw [h0] at h1 h2; simp at h1 h2; subst h1 h2; exact hu
    · rw [List.getElem?_eq_none (by simp; omega)] at h1; cases h1

/-- v is a slice of slices of bytes that reads as ls, in blocks below B. -/
def RdBB (w : World) (B : Nat) (v : Value) (ls : List (List UInt8)) : Prop := ∃ vs, RdV (fun u : Value => u) w B v vs ∧ RdAll w B vs ls
theorem RdBB.below {w w' : World} {B : Nat} {v : Value} {ls : List (List UInt8)} (h : RdBB w B v ls) (hb : Below B w w') : RdBB w' B v ls := let ⟨vs, h1, h2⟩ := h; ⟨vs, h1.below hb, h2.below hb⟩
theorem RdBB.more {w : World} {B B' : Nat} {v : Value} {ls : List (List UInt8)} (h : RdBB w B v ls) (hB : B ≤ B') : RdBB w B' v ls := let ⟨vs, h1, h2⟩ := h; ⟨vs, h1.more hB, h2.more hB⟩
theorem RdBB.on {w w' : World} {v : Value} {ls : List (List UInt8)} (h : RdBB w w.heap.size v ls) (hb : Below w.heap.size w w') : RdBB w' w'.heap.size v ls := (h.below hb).more hb.size
theorem RdBB.nil (w : World) (B : Nat) : RdBB w B (.slice none 0 0) [] := ⟨[], RdV.nil _ _, RdAll.nil _ _⟩
/-- Its shape, and its elements. -/
theorem RdBB.form {w : World} {B : Nat} {v : Value} {ls : List (List UInt8)} (h : RdBB w B v ls) : ∃ A c, v = .slice A ls.length c ∧ ls.length ≤ c ∧ c ≤ 9223372036854775807 ∧ ∀ i (hi : i < ls.length), ∃ b o u, A = some ⟨b, o, none⟩ ∧ b < B ∧ w.cell? ⟨b, o + i, none⟩ = some u ∧ RdB w B u ls[i] := by
  obtain ⟨vs, ⟨A, c, rfl, h1, h2, h3⟩, hl, hv⟩ := h
  refine ⟨A, c, by rw [hl], by omega, h2, fun i hi => ?_⟩
  obtain ⟨b, o, rfl, hb, hc⟩ := h3 (by omega)
  have hvi : vs[i]? = some vs[i] := List.getElem?_eq_getElem (by omega)
  exact ⟨b, o, vs[i], rfl, hb, hc i _ hvi, hv i _ _ hvi (List.getElem?_eq_getElem hi)⟩

/-- What reads outside a row that has grown reads as it did. -/
theorem RdB.grown {w w' : World} {u : Value} {l : List UInt8} {row : Option Nat} (h : RdB w w.heap.size u l) (hg : w.grownBy w' row) (hne : u.ownBlock = none ∨ u.ownBlock ≠ row) : RdB w' w'.heap.size u l := by
  obtain ⟨A, c, rfl, h1, h2, h3⟩ := h
  refine ⟨A, c, rfl, h1, h2, fun hp => ?_⟩
  obtain ⟨b, o, rfl, hb, hc⟩ := h3 hp
  have hne' : some b ≠ row := by simpa [Value.ownBlock] using hne
  exact ⟨b, o, rfl, Nat.lt_of_lt_of_le hb hg.size, fun k x hk => (World.cell?_of_block (a := ⟨b, o + k, none⟩) (hg.block b hb hne')).trans (hc k x hk)⟩
/-- The block of what reads as more than nothing is an old one. -/
theorem RdB.old {w : World} {B : Nat} {u : Value} {l : List UInt8} (h : RdB w B u l) (hp : 0 < l.length) : ∀ k, u.ownBlock = some k → k < B := by
  obtain ⟨A, c, rfl, h1, h2, h3⟩ := h
  obtain ⟨b, o, rfl, hb, hc⟩ := h3 hp
  intro k hk
  simp [Value.ownBlock] at hk
  omega

/-- v is a row of slices of bytes, that the call owns, in blocks from base on; what its slices read as; none of them that reads as more than nothing lies in the row. -/
def OwnBB (w : World) (base : Nat) (v : Value) (ls : List (List UInt8)) : Prop :=
  ∃ vs, w.ownsRow base 22 1 v ls.length vs ∧ RdAll w w.heap.size vs ls ∧ ∀ (i : Nat) (u : Value) (l : List UInt8), vs[i]? = some u → ls[i]? = some l → 0 < l.length → ∀ k, u.ownBlock = some k → some k ≠ v.ownBlock
theorem OwnBB.nil (w : World) (base : Nat) : OwnBB w base (.slice none 0 0) [] := ⟨[], World.ownsRow_nil w base _ 1, RdAll.nil _ _, by simp⟩
theorem OwnBB.lt {w : World} {base : Nat} {v : Value} {ls : List (List UInt8)} (h : OwnBB w base v ls) : ∀ k, v.ownBlock = some k → base ≤ k ∧ k < w.heap.size := fun k hk => let ⟨_, h1, _⟩ := h; h1.lt k hk
theorem OwnBB.base {w : World} {base : Nat} {v : Value} {ls : List (List UInt8)} (h : OwnBB w base v ls) : ∀ k, v.ownBlock = some k → base ≤ k := fun k hk => (h.lt k hk).1
theorem OwnBB.on {w w' : World} {base : Nat} {v : Value} {ls : List (List UInt8)} (h : OwnBB w base v ls) (hb : Below w.heap.size w w') : OwnBB w' base v ls := by
  obtain ⟨vs, h1, h2, h3⟩ := h
  exact ⟨vs, h1.kept (row := none) ⟨hb.os, hb.tape, hb.output, hb.size, fun i hi _ => hb.block i hi⟩ (by cases v.ownBlock <;> simp), (h2.below hb).more hb.size, h3⟩
theorem OwnBB.rd {w : World} {base : Nat} {v : Value} {ls : List (List UInt8)} (h : OwnBB w base v ls) : RdBB w w.heap.size v ls := by
  obtain ⟨vs, h1, h2, -⟩ := h
  refine ⟨vs, ?_, h2⟩
  have hl := h2.1
  rcases h1.2 with ⟨rfl, hn⟩ | ⟨g, cap, cur, rfl, hb, hg, hnc, hcm, hcs, htake⟩
  · exact ⟨none, 0, by rw [hl, hn], by omega, by omega, fun hp => by omega⟩
  · refine ⟨_, cap, by rw [hl], by omega, by simpa [maxLen] using hcm, fun hp => ⟨g, 0, rfl, (Array.getElem?_eq_some_iff.1 hg).1, fun k u hk => ?_⟩⟩
    rw [cell_of_row _ _ _ _ _ (0, 0) hg]
    have hkl : k < vs.length := (List.getElem?_eq_some_iff.1 hk).1
    rw [← htake, List.getElem?_take, if_pos (by omega)] at hk
    simpa using hk

theorem bb_info : (Tryz.prog.info? 22).map (fun i => (i.zero, i.size, i.bytes)) = some (some (.slice none 0 0), 1, 24) := by kernel_rfl

/-- append of one slice of bytes, that stands in a literal, to such a row. -/
theorem wpl_app_bb {w : World} {ops : Array Oper} {rest : List Oper} {o : Oper} {a : Act} {Q : Exit → Act → World → Prop} (hgd : o.guard = none) (s x : Operand)
    (ho : o.op = .call { callee := .builtin .append, args := #[s, x], argTypes := #[42, 42] })
    (base : Nat) (v u : Value) (ls : List (List UInt8)) (l : List UInt8) (cs : Array Value) (m c : Nat) (hcs : cs = #[u]) (hs : a.eval s = v) (hx : a.eval x = .slice (some ⟨w.heap.size, 0, none⟩) m c) (hm : m = 1)
    (hown : OwnBB w base v ls) (hu : RdB w w.heap.size u l) (hne : 0 < l.length → ∀ k, u.ownBlock = some k → some k ≠ v.ownBlock) (hb : base ≤ w.heap.size) (hlen : ls.length ≤ 1000000000)
    (h : ∀ v' w', OwnBB w' base v' (ls ++ [l]) → Below base w w' → wpList Tryz.prog ops Q rest (a.put o.dst v') w') :
    wpList Tryz.prog ops Q (o :: rest) a (w.alloc (.cells cs 22)) := by
  subst hcs hm
  obtain ⟨vs, hr, hrd, hv⟩ := hown
  have h1 : u.oneCell' = true := by
    obtain ⟨A, k, rfl, -⟩ := hu
    rfl
  refine wpl_appg (W := w.alloc (.cells #[u] 22)) hgd s x ho Tryz.underlying42 bb_info rfl (by omega) v ls.length vs w.heap.size 1 c [u] hs hx rfl (heap_alloc_new w _) (by simpa using h1) (hr.alloc _) (by omega) (by omega) (by simp; omega) ?_
  intro v' w' hr' hg hsz
  have hbel : Below base w w' := ((Below.refl base w).alloc hb _).trans (hg.below (by simp; omega) (fun k hk => (hr.lt k hk).1))
  have hgrow : w.grownBy w' v.ownBlock := ⟨hg.grown.os, hg.grown.tape, hg.grown.output, by simp at hsz; omega, fun k hk hn => (hg.grown.block k (by simp; omega) hn).trans (Below.heap_alloc w _ k hk)⟩
  have hle : w.heap.size ≤ w'.heap.size := by simp at hsz; omega
  have hold : ∀ k, k < w.heap.size → some k ≠ v.ownBlock → some k ≠ v'.ownBlock := by
    intro k hk1 hk2
    rcases hg.own with e | ⟨g, e, hg2⟩
    · rw [e]; exact hk2
    · rw [e]; intro h; injection h with h; simp at hg2; omega
  have grow : ∀ (y : Value) (m : List UInt8), RdB w w.heap.size y m → (0 < m.length → ∀ k, y.ownBlock = some k → some k ≠ v.ownBlock) → RdB w' w'.heap.size y m := by
    intro y m hy hn
    rcases Nat.eq_zero_or_pos m.length with h0 | h0
    · obtain ⟨A, c, rfl, h1, h2, -⟩ := hy
      exact ⟨A, c, rfl, h1, h2, fun hp => by omega⟩
    · exact hy.grown hgrow (by
        cases hob : y.ownBlock with
        | none => exact .inl rfl
        | some k => exact .inr (hn h0 k hob))
  have hall : RdAll w' w'.heap.size vs ls := ⟨hrd.1, fun i y m h1 h2 => grow y m (hrd.2 i y m h1 h2) (hv i y m h1 h2)⟩
  refine h v' w' ⟨vs ++ [u], by simpa using hr', hall.snoc (grow u l hu hne), fun i y m h1 h2 hp k hk => ?_⟩ hbel
  have hl := hrd.1
  rcases Nat.lt_or_ge i vs.length with hi | hi
  · rw [List.getElem?_append_left hi] at h1
    rw [List.getElem?_append_left (by omega)] at h2
    exact hold k ((hrd.2 i y m h1 h2).old hp k hk) (hv i y m h1 h2 hp k hk)
  · rw [List.getElem?_append_right hi] at h1
    rw [List.getElem?_append_right (by omega), ← hl] at h2
    rcases Nat.eq_zero_or_pos (i - vs.length) with h0 | h0
    · rw [h0] at h1 h2; simp at h1 h2; subst h1 h2; exact hold k (hu.old hp k hk) (hne hp k hk)
    · rw [List.getElem?_eq_none (by simp; omega)] at h1; cases h1
end Go.Proofs.YtefjdmlmmoeoaaaGreat
