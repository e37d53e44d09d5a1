/- Rows of slices of bytes whose slices are older than the row (they lie below its base); two rows of different elements. Program-bound by its types' names alone. -/
import Derived.Test.YtdpjohehmbddnaaBrow
namespace Go.Proofs.Ytdpjohehmbddnaa
open Go.RowKit Go.ChangeShapes Go.WideShapes Go.ChangeAt Go.Deep
set_option linter.unusedVariables false

/-- Rows of different elements lie in different blocks. -/
theorem rows_apart {w : World} {b1 b2 : Nat} {e1 e2 : TypeId} {s1 s2 n1 n2 : Nat} {v1 v2 : Value} {x1 x2 : List Value} (h1 : w.ownsRow b1 e1 s1 v1 n1 x1) (h2 : w.ownsRow b2 e2 s2 v2 n2 x2) (he : e1 ≠ e2) :
    v1.ownBlock = none ∨ v1.ownBlock ≠ v2.ownBlock := by
  rcases h1.2 with ⟨rfl, _⟩ | ⟨g, cap, cur, rfl, _, hg, _⟩
  · exact .inl rfl
  · right
    rcases h2.2 with ⟨rfl, _⟩ | ⟨g', cap', cur', rfl, _, hg', _⟩
    · simp [Value.ownBlock]
    · intro e
      simp only [Value.ownBlock, Option.map_some, Option.some.injEq] at e
      subst e
      rw [hg] at hg'
      simp at hg'
      exact he hg'.2

/-- v is a row of slices of bytes, that the call owns, in blocks from base on; its slices lie below base. -/
def OwnLo (w : World) (base : Nat) (v : Value) (ls : List (List UInt8)) : Prop := ∃ vs, w.ownsRow base 22 1 v ls.length vs ∧ RdAll w base vs ls
theorem OwnLo.nil (w : World) (base : Nat) : OwnLo w base (.slice none 0 0) [] := ⟨[], World.ownsRow_nil w base _ 1, RdAll.nil _ _⟩
theorem OwnLo.lt {w : World} {base : Nat} {v : Value} {ls : List (List UInt8)} (h : OwnLo w base v ls) : ∀ k, v.ownBlock = some k → base ≤ k ∧ k < w.heap.size := fun k hk => let ⟨_, h1, _⟩ := h; h1.lt k hk
theorem OwnLo.base {w : World} {base : Nat} {v : Value} {ls : List (List UInt8)} (h : OwnLo w base v ls) : ∀ k, v.ownBlock = some k → base ≤ k := fun k hk => (h.lt k hk).1
theorem OwnLo.keep {w w' : World} {base : Nat} {v : Value} {ls : List (List UInt8)} {row : Option Nat} (h : OwnLo w base v ls) (hg : w.grownBy w' row) (hne : v.ownBlock = none ∨ v.ownBlock ≠ row) (hb : Below base w w') : OwnLo w' base v ls :=
  let ⟨vs, h1, h2⟩ := h; ⟨vs, h1.kept hg hne, h2.below hb⟩
theorem OwnLo.on {w w' : World} {base : Nat} {v : Value} {ls : List (List UInt8)} (h : OwnLo w base v ls) (hb : Below w.heap.size w w') (hB : base ≤ w.heap.size) : OwnLo w' base v ls :=
  h.keep (row := none) ⟨hb.os, hb.tape, hb.output, hb.size, fun i hi _ => hb.block i hi⟩ (by cases v.ownBlock <;> simp) (hb.mono hB)
theorem OwnLo.rd {w : World} {base : Nat} {v : Value} {ls : List (List UInt8)} (h : OwnLo w base v ls) (hB : base ≤ w.heap.size) : RdBB w w.heap.size v ls := by
  obtain ⟨vs, h1, h2⟩ := h
  refine ⟨vs, ?_, h2.more hB⟩
  have hl := h2.1
  rcases h1.2 with ⟨rfl, hn⟩ | ⟨g, cap, cur, rfl, hb, hg, hnc, hcm, hcs, htake⟩
  · exact ⟨none, 0, by rw [hl, hn], by omega, by omega, fun hp => by omega⟩
  · refine ⟨_, cap, by rw [hl], by omega, by simpa [maxLen] using hcm, fun hp => ⟨g, 0, rfl, (Array.getElem?_eq_some_iff.1 hg).1, fun k u hk => ?_⟩⟩
    rw [cell_of_row _ _ _ _ _ (0, 0) hg]
    have hkl : k < vs.length := (List.getElem?_eq_some_iff.1 hk).1
    rw [← htake, List.getElem?_take, if_pos (by omega)] at hk
    simpa using hk
/-- Beside a row of bytes that grows. -/
theorem OwnLo.beside {w w' : World} {base b2 : Nat} {v u u' : Value} {ls : List (List UInt8)} {l : List UInt8} (h : OwnLo w base v ls) (ho : OwnB w b2 u l) (hg : Grew w w' u u') (hb : Below base w w') : OwnLo w' base v ls := by
  obtain ⟨vs, h1, h2⟩ := h
  exact ⟨vs, h1.kept hg.grown (rows_apart h1 ho (by decide)), h2.below hb⟩
theorem OwnB.besideLo {w w' : World} {base b2 : Nat} {v u u' : Value} {ls : List (List UInt8)} {l : List UInt8} (h : OwnB w base v l) (ho : OwnLo w b2 u ls) (hg : Grew w w' u u') : OwnB w' base v l := by
  obtain ⟨vs, h1, h2⟩ := ho
  exact h.keep hg.grown (rows_apart h h1 (by decide))

/-- append of one slice of bytes, that stands in a literal, to such a row. -/
theorem wpl_app_lo {w : World} {ops : Array Oper} {rest : List Oper} {o : Oper} {a : Act} {Q : Exit → Act → World → Prop} (hgd : o.guard = none) (s x : Operand)
    (ho : o.op = .call { callee := .builtin .append, args := #[s, x], argTypes := #[29, 29] })
    (base : Nat) (v u : Value) (ls : List (List UInt8)) (l : List UInt8) (cs : Array Value) (m c : Nat) (hcs : cs = #[u]) (hs : a.eval s = v) (hx : a.eval x = .slice (some ⟨w.heap.size, 0, none⟩) m c) (hm : m = 1)
    (hown : OwnLo w base v ls) (hu : RdB w base u l) (hb : base ≤ w.heap.size) (hlen : ls.length ≤ 1000000000)
    (h : ∀ v' w', OwnLo w' base v' (ls ++ [l]) → Grew w w' v v' → Below base w w' → wpList Try.prog ops Q rest (a.put o.dst v') w') :
    wpList Try.prog ops Q (o :: rest) a (w.alloc (.cells cs 22)) := by
  subst hcs hm
  obtain ⟨vs, hr, hrd⟩ := hown
  have h1 : u.oneCell' = true := by
    obtain ⟨A, k, rfl, -⟩ := hu
    rfl
  refine wpl_appg (W := w.alloc (.cells #[u] 22)) hgd s x ho Try.underlying29 bb_info rfl (by omega) v ls.length vs w.heap.size 1 c [u] hs hx rfl (heap_alloc_new w _) (by simpa using h1) (hr.alloc _) (by omega) (by omega) (by simp; omega) ?_
  intro v' w' hr' hg hsz
  have hbel : Below base w w' := ((Below.refl base w).alloc hb _).trans (hg.below (by simp; omega) (fun k hk => (hr.lt k hk).1))
  have hgrow : Grew w w' v v' := ⟨⟨hg.grown.os, hg.grown.tape, hg.grown.output, by simp at hsz; omega, fun k hk hn => (hg.grown.block k (by simp; omega) hn).trans (Below.heap_alloc w _ k hk)⟩, hg.own.imp id fun ⟨g, e, hg2⟩ => ⟨g, e, by simp at hg2; omega⟩⟩
  exact h v' w' ⟨vs ++ [u], by simpa using hr', (hrd.below hbel).snoc (hu.below hbel)⟩ hgrow hbel
end Go.Proofs.Ytdpjohehmbddnaa
