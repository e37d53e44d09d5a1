/- Program-free: append of a slice that reads as a list to a row that a call owns; copy of elements of so many cells; a row by its cells. -/
import Derived.Test.YtecomnklofceaaaBgen
import Derived.Laws.IdiomCopy
namespace Go.Proofs.Ytecomnklofceaaa
open Go.RowKit
set_option linter.unusedVariables false

section
variable {α : Type} {L : Lay α} {e : TypeId} {P : Program}

/-- All cells of a slice that reads as a list. -/
theorem Lay.all_get (L : Lay α) (l : List α) (i : Nat) (u : Value) (h : (L.all l)[i]? = some u) : ∃ (k : Nat) (x : α) (j : Nat), l[k]? = some x ∧ (L.enc x)[j]? = some u ∧ i = k * L.sz + j ∧ j < L.sz := by
  have hp := L.pos
  have hi : i < l.length * L.sz := by
    rw [← L.all_length]
    exact (List.getElem?_eq_some_iff.1 h).1
  have hq : i / L.sz < l.length := Nat.div_lt_of_lt_mul (by rw [Nat.mul_comm]; exact hi)
  have hr : i % L.sz < L.sz := Nat.mod_lt _ hp
  have hir : i = i / L.sz * L.sz + i % L.sz := by rw [Nat.mul_comm]; exact (Nat.div_add_mod i L.sz).symm
  refine ⟨i / L.sz, l[i / L.sz], i % L.sz, List.getElem?_eq_getElem hq, ?_, hir, hr⟩
  rw [← L.all_at l _ _ (List.getElem?_eq_getElem hq) _ hr, ← hir]
  exact h
theorem RdX.cells {w : World} {B : Nat} {b o n c : Nat} {l : List α} (h : RdX L w B (.slice (some ⟨b, o, none⟩) n c) l) (i : Nat) (u : Value) (hu : (L.all l)[i]? = some u) : w.cell? ⟨b, o + i, none⟩ = some u := by
  obtain ⟨k, x, j, h1, h2, rfl, -⟩ := L.all_get l i u hu
  obtain ⟨A, c', e1, _, _, h3⟩ := h
  obtain ⟨b', o', e2, _, hc⟩ := h3 (by have := (List.getElem?_eq_some_iff.1 h1).1; omega)
  cases e1
  cases e2
  rw [← Nat.add_assoc]
  exact hc k x h1 j u h2

/-- What append of whatever slice gives. -/
theorem appX_rd {W : World} {t ty : TypeId} {z : Value} {bytes : Nat} (ht : P.underlying t = some (.slice e)) (hinfo : (P.info? e).map (fun i => (i.zero, i.size, i.bytes)) = some (some z, L.sz, bytes)) (hzs : z.cells.size = L.sz)
    {base B : Nat} {v u : Value} {l r : List α} (hown : OwnX L e W base v l) (hrd : RdX L W B u r) (hb : base ≤ W.heap.size) (hlen : l.length + r.length ≤ 1000000000) (hbytes : bytes ≤ 1000) :
    ∃ v' w', (Builtin.append_ #[t, t] ty #[v, u]).run P W = .ok v' w' ∧ OwnX L e w' base v' (l ++ r) ∧ Grew W w' v v' ∧ Below base W w' := by
  by_cases hr : 0 < r.length
  · have hrd' := hrd
    obtain ⟨A, c, rfl, h1, h2, h3⟩ := hrd
    obtain ⟨b, o, rfl, hB, hc⟩ := h3 hr
    have hby : (l.length + r.length) * bytes ≤ 140737488355328 := Nat.le_trans (Nat.mul_le_mul hlen hbytes) (by omega)
    obtain ⟨v', w', hrun, h4, h5, h6⟩ := app_run_at (P := P) (W := W) (ty := ty) ht hinfo hzs L.pos v l.length (L.all l) hown b o r.length c (L.all r) (L.all_length r) (fun j u hu => hrd'.cells j u hu) (L.all_one r) (by omega) hby hb
    exact ⟨v', w', hrun, by unfold OwnX; rw [List.length_append, L.all_append]; exact h4, h5, h5.below hb (OwnX.base hown)⟩
  · have hr0 : r = [] := List.eq_nil_of_length_eq_zero (by omega)
    subst hr0
    obtain ⟨A, c, rfl, _, _, _⟩ := hrd
    have hby : l.length * bytes ≤ 140737488355328 := Nat.le_trans (Nat.mul_le_mul (show l.length ≤ 1000000000 from by simpa using hlen) hbytes) (by omega)
    obtain ⟨v', w', hrun, h4, h5, h6⟩ := app_run_zero (P := P) (W := W) (ty := ty) ht hinfo hzs L.pos v l.length (L.all l) hown A c (by simp at hlen; omega) hby hb
    exact ⟨v', w', hrun, by rw [List.append_nil]; exact h4, h5, h5.below hb (OwnX.base hown)⟩
theorem wpl_appX_rd {W : World} {ops : Array Oper} {rest : List Oper} {o : Oper} {a : Act} {Q : Exit → Act → World → Prop} {t : TypeId} {z : Value} {bytes : Nat} (hgd : o.guard = none) (s x : Operand)
    (ho : o.op = .call { callee := .builtin .append, args := #[s, x], argTypes := #[t, t] })
    (ht : P.underlying t = some (.slice e)) (hinfo : (P.info? e).map (fun i => (i.zero, i.size, i.bytes)) = some (some z, L.sz, bytes)) (hzs : z.cells.size = L.sz)
    (base B : Nat) (v u : Value) (l r : List α) (hs : a.eval s = v) (hx : a.eval x = u)
    (hown : OwnX L e W base v l) (hrd : RdX L W B u r) (hb : base ≤ W.heap.size) (hlen : l.length + r.length ≤ 1000000000) (hbytes : bytes ≤ 1000)
    (h : ∀ v' w', OwnX L e w' base v' (l ++ r) → Grew W w' v v' → Below base W w' → wpList P ops Q rest (a.put o.dst v') w') :
    wpList P ops Q (o :: rest) a W := by
  obtain ⟨v', w', hrun, h2, h3, h4⟩ := appX_rd (P := P) (W := W) (ty := o.type) ht hinfo hzs hown hrd hb hlen hbytes
  refine wpList_plain hgd fun K hK => ?_
  unfold Oper.wp execOp
  simp only [ho, resolve, invoke, builtin, Sem.run_bind, Sem.run_pure, Result.andThen_ok, List.map_toArray, List.map_cons, List.map_nil, hs, hx, hrun]
  exact hK _ _ (h v' w' h2 h3 h4)

/-- A block's cells, set one by one. -/
theorem heap_setCells (b : Nat) (t : TypeId) : ∀ (vs : List Value) (o : Nat) (w : World) (cur : Array Value), w.heap[b]? = some (.cells cur t (0, 0)) →
    ∃ cur', (w.setCells b o vs).heap[b]? = some (.cells cur' t (0, 0)) ∧ cur'.size = cur.size
  | [], _, w, cur, h => ⟨cur, h, rfl⟩
  | v :: r, o, w, cur, h => by
    obtain ⟨hlt, hk⟩ := Array.getElem?_eq_some_iff.1 h
    have hb : (w.setCell ⟨b, o, none⟩ v).heap[b]? = some (.cells (cur.setIfInBounds o v) t (0, 0)) := by
      show (w.heap.modify b _)[b]? = _
      rw [Array.getElem?_eq_getElem (by rw [Array.size_modify]; exact hlt), Array.getElem_modify_self, hk]
      rfl
    obtain ⟨cur', h1, h2⟩ := heap_setCells b t r (o + 1) (w.setCell ⟨b, o, none⟩ v) _ hb
    exact ⟨cur', h1, by rw [h2, Array.size_setIfInBounds]⟩
theorem grown_setCells (b : Nat) : ∀ (vs : List Value) (o : Nat) (w : World), w.grownBy (w.setCells b o vs) (some b)
  | [], _, w => World.grownBy.refl w _
  | v :: r, o, w => by
    refine World.grownBy.trans (b := w.setCell ⟨b, o, none⟩ v) ⟨rfl, rfl, rfl, Nat.le_of_eq (show w.heap.size = (w.heap.modify b _).size from by rw [Array.size_modify]), fun i hi hne => Below.heap_setCell w _ v i (fun e => hne (by rw [e]))⟩ (grown_setCells b r (o + 1) _)
/-- A row by its cells. -/
theorem OwnX.of_cells {w : World} {base g cap : Nat} {cur : Array Value} {l : List α} (hg : w.heap[g]? = some (.cells cur e (0, 0))) (hsz : cur.size = cap * L.sz) (hn : l.length ≤ cap) (hm : cap ≤ maxLen) (hb : base ≤ g)
    (hc : ∀ i u, (L.all l)[i]? = some u → w.cell? ⟨g, i, none⟩ = some u) : OwnX L e w base (.slice (some ⟨g, 0, none⟩) l.length cap) l := by
  refine ⟨L.all_length l, .inr ⟨g, cap, cur, rfl, hb, hg, hn, hm, hsz, ?_⟩⟩
  have hle : l.length * L.sz ≤ cur.size := by rw [hsz]; exact Nat.mul_le_mul_right _ hn
  apply List.ext_getElem?
  intro i
  rcases Nat.lt_or_ge i (l.length * L.sz) with hi | hi
  · have hil : i < (L.all l).length := by rw [L.all_length]; exact hi
    rw [List.getElem?_take, if_pos hi, List.getElem?_eq_getElem hil]
    have := hc i _ (List.getElem?_eq_getElem hil)
    rw [cell_of_row _ _ _ _ _ (0, 0) hg] at this
    rw [← this]
    simp
  · rw [List.getElem?_eq_none (by rw [List.length_take]; omega), List.getElem?_eq_none (by rw [L.all_length]; omega)]

/-- copy of elements of so many cells. -/
theorem run_copy_cellsK (w : World) (dT sT ty elem : TypeId) (b o dLen dCap : Nat) (a : Addr) (sLen sCap size : Nat) (cs : List Value)
    (hu : P.underlying dT = some (.slice elem)) (hs : (P.info? elem).map (·.size) = some size) (hn : cs.length = Nat.min sLen dLen * size)
    (hsrc : ∀ j v, cs[j]? = some v → w.cell? (a.add j) = some v) (hc : ∀ j, j < cs.length → (w.cell? ⟨b, o + j, none⟩).isSome = true) (hf : ∀ j, j < cs.length → w.frozen? ⟨b, o + j, none⟩ = false) (h1 : ∀ v ∈ cs, v.oneCell' = true) :
    (Builtin.copy_ #[dT, sT] ty #[.slice (some ⟨b, o, none⟩) dLen dCap, .slice (some a) sLen sCap]).run P w = .ok (goInt (Nat.min sLen dLen)) (w.setCells b o cs) := by
  have hl := run_loadCells_list (P := P) w a cs hsrc
  have hst := run_storeCells_cells (P := P) b o cs 0 w (by simpa using hc) (by simpa using hf) h1
  cases hq : P.info? elem with
  | none => simp [hq] at hs
  | some i =>
    have hi : i.size = size := by simpa [hq] using hs
    simp [Builtin.copy_, run_underlying hu, Builtin.lenOf, Builtin.firstCells, sizeOf, typeInfo, hq, hi, ← hn, hl, hst]
end
end Go.Proofs.Ytecomnklofceaaa
