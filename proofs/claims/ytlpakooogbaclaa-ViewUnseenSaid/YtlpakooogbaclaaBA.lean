/- Program-free laws: what append does to a row that the call owns, as a step of the walk and of a region whose order is open; a call by its contract as such a step. -/
import Derived.Test.YtlpakooogbaclaaRows
import Derived.WalkKit
import Derived.Maps.AppendAt
import Derived.Deep.RegionLaw
import Derived.Deep.Draws
import Derived.ProofKit
import Derived.OpenShut
import Derived.Carry
import Derived.SizedLaws
import Derived.Deep.Slices
import Derived.Deep.Strs
import Derived.Lib.Hide
import Derived.WalkLawsBesides
import Derived.Deep.QuietTactic
import Derived.BigQuiet
import Derived.Handy
import Derived.Laws.BitsAllLaws
import Derived.ChangeMaps5
import Derived.Laws.ResultCell
import Derived.Laws.IdiomCopy
namespace Go.Proofs.Ytlpakooogbaclaa
open Go.RowKit
set_option linter.unusedVariables false

/-- From w to w' nothing but the row v, and what is new, has turned; the row is where it was, or new. -/
structure Grew (w w' : World) (v v' : Value) : Prop where
  grown : w.grownBy w' v.ownBlock
  own : v'.ownBlock = v.ownBlock ∨ ∃ g, v'.ownBlock = some g ∧ w.heap.size ≤ g

theorem Grew.refl (w : World) (v : Value) : Grew w w v v := ⟨World.grownBy.refl w _, .inl rfl⟩
theorem Grew.trans {a b c : World} {u v x : Value} (h : Grew a b u v) (k : Grew b c v x) : Grew a c u x := by
  have hs := h.grown.size
  refine ⟨⟨k.grown.os.trans h.grown.os, k.grown.tape.trans h.grown.tape, k.grown.output.trans h.grown.output, Nat.le_trans h.grown.size k.grown.size, fun i hi hne => ?_⟩, ?_⟩
  · refine (k.grown.block i (by omega) ?_).trans (h.grown.block i hi hne)
    rcases h.own with e | ⟨g, e, hg⟩
    · rw [e]; exact hne
    · rw [e]; intro h2; injection h2 with h2; omega
  · rcases k.own with e | ⟨g, e, hg⟩
    · rw [e]; exact h.own
    · exact .inr ⟨g, e, by omega⟩
theorem Grew.below {w w' : World} {v v' : Value} {base : Nat} (h : Grew w w' v v') (hb : base ≤ w.heap.size) (hv : ∀ k, v.ownBlock = some k → base ≤ k) : Below base w w' :=
  (Below.refl base w).grown h.grown hb hv
theorem Grew.cell {w w' : World} {v v' : Value} (h : Grew w w' v v') {p : Addr} {u : Value} (hc : w.cell? p = some u) (hne : v.ownBlock ≠ some p.block) : w'.cell? p = some u :=
  h.grown.cell hc (fun e => hne e.symm)

theorem _root_.Go.RowKit.Below.drewN {B : Nat} {a w : World} (h : Below B a w) (n : Nat) : Below B a (w.drewN n) := ⟨h.os, h.tape, h.output, h.size, h.block⟩

theorem blk_new (w : World) (o : Obj) (k : Nat) (h : k = w.heap.size) : (w.alloc o).heap[k]? = some o := by subst h; exact heap_alloc_new w o

section
variable {P : Program} {W : World} {base : Nat} {t ty e : TypeId} {i : TypeInfo} {z : Value} {size bytes : Nat}

theorem app_run (ht : P.underlying t = some (.slice e)) (hinfo : (P.info? e).map (fun i => (i.zero, i.size, i.bytes)) = some (some z, size, bytes)) (hzs : z.cells.size = size) (hsz : 0 < size)
    (v : Value) (n : Nat) (xs : List Value) (hown : W.ownsRow base e size v n xs) (g m c : Nat) (news : List Value) (hl : news.length = m * size)
    (hblk : W.heap[g]? = some (.cells news.toArray e (0, 0))) (h1 : ∀ u ∈ news, u.oneCell' = true) (h63 : n + m ≤ 9223372036854775807) (hby : (n + m) * bytes ≤ 140737488355328) (hb : base ≤ W.heap.size) :
    ∃ v' w', (Builtin.append_ #[t, t] ty #[v, .slice (some ⟨g, 0, none⟩) m c]).run P W = .ok v' w' ∧ w'.ownsRow base e size v' (n + m) (xs ++ news) ∧ Grew W w' v v' ∧ W.heap.size ≤ w'.heap.size := by
  obtain ⟨i, hi, hz, hs, hbs⟩ := info_parts hinfo
  have hcell : ∀ j u, news[j]? = some u → W.cell? ((⟨g, 0, none⟩ : Addr).add j) = some u := by
    intro j u hu
    have hadd : (⟨g, 0, none⟩ : Addr).add j = ⟨g, j, none⟩ := by unfold Addr.add; split <;> simp_all
    rw [hadd, cell_of_row _ _ j _ _ (0, 0) hblk]
    simpa using hu
  obtain ⟨v', w', hrun, h2, h3, -, h4⟩ := run_append_own_at (P := P) W base t ty e i z size bytes ht hi hz hs hbs hzs hsz v n xs hown ⟨g, 0, none⟩ m c news hl hcell h1 (by simp only [maxLen]; omega) hby hb
  exact ⟨v', w', hrun, h2, ⟨h3, h4.imp id fun e => ⟨_, e, Nat.le_refl _⟩⟩, h3.size⟩

theorem addr_plain (g o j : Nat) : (⟨g, o, none⟩ : Addr).add j = ⟨g, o + j, none⟩ := by unfold Addr.add; split <;> simp_all

/-- The same, from whatever cells. -/
theorem app_run_at (ht : P.underlying t = some (.slice e)) (hinfo : (P.info? e).map (fun i => (i.zero, i.size, i.bytes)) = some (some z, size, bytes)) (hzs : z.cells.size = size) (hsz : 0 < size)
    (v : Value) (n : Nat) (xs : List Value) (hown : W.ownsRow base e size v n xs) (g off m c : Nat) (news : List Value) (hl : news.length = m * size)
    (hcell : ∀ j u, news[j]? = some u → W.cell? ⟨g, off + j, none⟩ = some u) (h1 : ∀ u ∈ news, u.oneCell' = true) (h63 : n + m ≤ 9223372036854775807) (hby : (n + m) * bytes ≤ 140737488355328) (hb : base ≤ W.heap.size) :
    ∃ v' w', (Builtin.append_ #[t, t] ty #[v, .slice (some ⟨g, off, none⟩) m c]).run P W = .ok v' w' ∧ w'.ownsRow base e size v' (n + m) (xs ++ news) ∧ Grew W w' v v' ∧ W.heap.size ≤ w'.heap.size := by
  obtain ⟨i, hi, hz, hs, hbs⟩ := info_parts hinfo
  obtain ⟨v', w', hrun, h2, h3, -, h4⟩ := run_append_own_at (P := P) W base t ty e i z size bytes ht hi hz hs hbs hzs hsz v n xs hown ⟨g, off, none⟩ m c news hl (fun j u hu => by rw [addr_plain]; exact hcell j u hu) h1 (by simp only [maxLen]; omega) hby hb
  exact ⟨v', w', hrun, h2, ⟨h3, h4.imp id fun e => ⟨_, e, Nat.le_refl _⟩⟩, h3.size⟩

variable {ops : Array Oper} {rest : List Oper} {o : Oper} {a : Act} {Q : Exit → Act → World → Prop} {K : Act → World → Prop} {E : Prop}

theorem wpl_appg (hgd : o.guard = none) (s x : Operand) (ho : o.op = .call { callee := .builtin .append, args := #[s, x], argTypes := #[t, t] })
    (ht : P.underlying t = some (.slice e)) (hinfo : (P.info? e).map (fun i => (i.zero, i.size, i.bytes)) = some (some z, size, bytes)) (hzs : z.cells.size = size) (hsz : 0 < size)
    (v : Value) (n : Nat) (xs : List Value) (g m c : Nat) (news : List Value) (hs : a.eval s = v) (hx : a.eval x = .slice (some ⟨g, 0, none⟩) m c) (hl : news.length = m * size)
    (hblk : W.heap[g]? = some (.cells news.toArray e (0, 0))) (h1 : ∀ u ∈ news, u.oneCell' = true) (hown : W.ownsRow base e size v n xs) (h63 : n + m ≤ 9223372036854775807) (hby : (n + m) * bytes ≤ 140737488355328) (hb : base ≤ W.heap.size)
    (h : ∀ v' w', w'.ownsRow base e size v' (n + m) (xs ++ news) → Grew W w' v v' → W.heap.size ≤ w'.heap.size → wpList P ops Q rest (a.put o.dst v') w') :
    wpList P ops Q (o :: rest) a W := by
  obtain ⟨v', w', hrun, h2, h3, h4⟩ := app_run (ty := o.type) ht hinfo hzs hsz v n xs hown g m c news hl hblk h1 h63 hby hb
  refine wpList_plain hgd fun K hK => ?_
  unfold Oper.wp execOp
  simp only [ho, resolve, invoke, builtin, Sem.run_bind, Sem.run_pure, Result.andThen_ok, List.map_toArray, List.map_cons, List.map_nil, hs, hx, hrun]
  exact hK _ _ (h v' w' h2 h3 h4)

theorem wpl_appg_at (hgd : o.guard = none) (s x : Operand) (ho : o.op = .call { callee := .builtin .append, args := #[s, x], argTypes := #[t, t] })
    (ht : P.underlying t = some (.slice e)) (hinfo : (P.info? e).map (fun i => (i.zero, i.size, i.bytes)) = some (some z, size, bytes)) (hzs : z.cells.size = size) (hsz : 0 < size)
    (v : Value) (n : Nat) (xs : List Value) (g off m c : Nat) (news : List Value) (hs : a.eval s = v) (hx : a.eval x = .slice (some ⟨g, off, none⟩) m c) (hl : news.length = m * size)
    (hcell : ∀ j u, news[j]? = some u → W.cell? ⟨g, off + j, none⟩ = some u) (h1 : ∀ u ∈ news, u.oneCell' = true) (hown : W.ownsRow base e size v n xs) (h63 : n + m ≤ 9223372036854775807) (hby : (n + m) * bytes ≤ 140737488355328) (hb : base ≤ W.heap.size)
    (h : ∀ v' w', w'.ownsRow base e size v' (n + m) (xs ++ news) → Grew W w' v v' → W.heap.size ≤ w'.heap.size → wpList P ops Q rest (a.put o.dst v') w') :
    wpList P ops Q (o :: rest) a W := by
  obtain ⟨v', w', hrun, h2, h3, h4⟩ := app_run_at (ty := o.type) ht hinfo hzs hsz v n xs hown g off m c news hl hcell h1 h63 hby hb
  refine wpList_plain hgd fun K hK => ?_
  unfold Oper.wp execOp
  simp only [ho, resolve, invoke, builtin, Sem.run_bind, Sem.run_pure, Result.andThen_ok, List.map_toArray, List.map_cons, List.map_nil, hs, hx, hrun]
  exact hK _ _ (h v' w' h2 h3 h4)

end
end Go.Proofs.Ytlpakooogbaclaa
/- Program-free laws: append of nothing to a row that the call owns. -/
namespace Go.Proofs.Ytlpakooogbaclaa
open Go.RowKit
set_option linter.unusedVariables false

section
variable {P : Program} {W : World} {base : Nat} {t ty e : TypeId} {z : Value} {size bytes : Nat}
variable {ops : Array Oper} {rest : List Oper} {o : Oper} {a : Act} {Q : Exit → Act → World → Prop} {K : Act → World → Prop} {E : Prop}

theorem app_run_zero (ht : P.underlying t = some (.slice e)) (hinfo : (P.info? e).map (fun i => (i.zero, i.size, i.bytes)) = some (some z, size, bytes)) (hzs : z.cells.size = size) (hsz : 0 < size)
    (v : Value) (n : Nat) (xs : List Value) (hown : W.ownsRow base e size v n xs) (A : Option Addr) (c : Nat) (h63 : n ≤ 9223372036854775807) (hby : n * bytes ≤ 140737488355328) (hb : base ≤ W.heap.size) :
    ∃ v' w', (Builtin.append_ #[t, t] ty #[v, .slice A 0 c]).run P W = .ok v' w' ∧ w'.ownsRow base e size v' n xs ∧ Grew W w' v v' ∧ W.heap.size ≤ w'.heap.size := by
  obtain ⟨i, hi, hz, hs, hbs⟩ := info_parts hinfo
  cases A with
  | none =>
    refine ⟨v, W, ?_, hown, Grew.refl _ _, Nat.le_refl _⟩
    rcases hown.2 with ⟨rfl, rfl⟩ | ⟨g, cap, cur, rfl, _, _, hnc, _⟩
    · simp [Builtin.append_, run_underlying ht, sizeOf, typeInfo, hi, Builtin.lenOf, Builtin.firstCells]
    · simp [Builtin.append_, run_underlying ht, sizeOf, typeInfo, hi, Builtin.lenOf, Builtin.firstCells, hnc, storeCells]
  | some ad =>
    obtain ⟨v', w', hrun, h2, h3, -, h4⟩ := run_append_own_at (P := P) W base t ty e i z size bytes ht hi hz hs hbs hzs hsz v n xs hown ad 0 c [] (by simp) (by simp) (by simp) (by simp only [maxLen]; omega) (by simpa using hby) hb
    exact ⟨v', w', hrun, by simpa using h2, ⟨h3, h4.imp id fun e => ⟨_, e, Nat.le_refl _⟩⟩, h3.size⟩

theorem wpl_appg_zero (hgd : o.guard = none) (s x : Operand) (ho : o.op = .call { callee := .builtin .append, args := #[s, x], argTypes := #[t, t] })
    (ht : P.underlying t = some (.slice e)) (hinfo : (P.info? e).map (fun i => (i.zero, i.size, i.bytes)) = some (some z, size, bytes)) (hzs : z.cells.size = size) (hsz : 0 < size)
    (v : Value) (n : Nat) (xs : List Value) (A : Option Addr) (c : Nat) (hs : a.eval s = v) (hx : a.eval x = .slice A 0 c) (hown : W.ownsRow base e size v n xs) (h63 : n ≤ 9223372036854775807) (hby : n * bytes ≤ 140737488355328) (hb : base ≤ W.heap.size)
    (h : ∀ v' w', w'.ownsRow base e size v' n xs → Grew W w' v v' → W.heap.size ≤ w'.heap.size → wpList P ops Q rest (a.put o.dst v') w') : wpList P ops Q (o :: rest) a W := by
  obtain ⟨v', w', hrun, h2, h3, h4⟩ := app_run_zero (ty := o.type) ht hinfo hzs hsz v n xs hown A c h63 hby hb
  refine wpList_plain hgd fun K hK => ?_
  unfold Oper.wp execOp
  simp only [ho, resolve, invoke, builtin, Sem.run_bind, Sem.run_pure, Result.andThen_ok, List.map_toArray, List.map_cons, List.map_nil, hs, hx, hrun]
  exact hK _ _ (h v' w' h2 h3 h4)
end
end Go.Proofs.Ytlpakooogbaclaa
/- Program-free laws: from the walk of a law's function to its row. -/
namespace Go.Proofs.Ytlpakooogbaclaa
open Go.RowKit Go.ChangeShapes Go.WideShapes Go.ChangeAt
set_option linter.unusedVariables false

section
variable {H : Type} {enc : TypeId × Value → H} {P : Program}

/-- Arguments that lie below the old heap's size read as they did. -/
theorem args_below (hl : laidOutB P = true) {W W' : World} (hb : Below W.heap.size W W') : ∀ {ts : List TypeId} {vs : List Value} {ds : List (DataW H)} {ps : List MemPlace},
    (∀ t ∈ ts, P.readableRec t = true ∧ t < P.types.size) → DataW.TrodAll enc P W 0 (fun _ => true) true ts vs ds ps → (∀ x ∈ ps, x.block < W.heap.size) →
    DataW.TrodAll enc P W' 0 (fun b => decide (b < W.heap.size)) true ts vs ds ps := by
  intro ts
  induction ts with
  | nil =>
    intro vs ds ps _ h _
    obtain ⟨rfl, rfl, rfl⟩ := trodAll_nil h
    exact trodAll_mk0
  | cons t ts ih =>
    intro vs ds ps ht h hlt
    obtain ⟨v, vs', d, ds', p, q, rfl, rfl, rfl, h1, h2⟩ := trodAll_cons h
    exact trodAll_cons_mk (Below.trod hl (ht t (by simp)).1 (ht t (by simp)).2 h1 hb (fun x hx => hlt x (by simp [hx]))) (ih (fun u hu => ht u (by simp [hu])) h2 (fun x hx => hlt x (by simp [hx])))

/-- What a law's walk gives is its row's post: true, in a world in which nothing old has turned. -/
theorem law_post {fn : Func} {s : ChangeSpec} (hl : laidOutB P = true) (hT : ∀ t ∈ fn.params.toList, P.readableRec t = true ∧ t < P.types.size) {tb : TypeId} (hr : fn.resultTypes = #[tb]) (hbool : P.underlying tb = some .bool)
    (hvars : s.vars = []) {W W' : World} {args : Array Value} {ds gs : List (DataW H)} {before : List MemPlace} (hW : DataW.Whole enc P fn.params.toList s.vars false W args.toList ds gs before)
    (hfn : s.fn H (ds ++ gs) = { results := [.lit (.bool true)], args := ds }) (hb : Below W.heap.size W W') :
    s.post enc P fn false true false false W args (.bool true) W' := by
  have hW' := hW
  obtain ⟨p, q, hA, hV, rfl, _, _⟩ := hW
  rw [hvars] at hV
  obtain ⟨rfl, rfl⟩ := trodVars_none hV
  have hlt : ∀ x ∈ p, x.block < W.heap.size := fun x hx => by simpa using hW'.lt x (by simpa using hx)
  refine ⟨ds, [], p ++ [], [], p, [], hW', ?_, ?_, ?_, hb.frame _, fun h => by cases h⟩
  · rw [hfn, hr]; exact trodAll_mk1 (shut_bool hbool _)
  · rw [hfn]; exact args_below hl hb hT hA hlt
  · rw [hfn, hvars]; rfl
end
end Go.Proofs.Ytlpakooogbaclaa
/- Endings that are equal; the program's own facts. -/
namespace Go.Proofs.Ytlpakooogbaclaa
open Go.RowKit Go.ChangeShapes Go.WideShapes Go.ChangeAt Go.Deep
set_option linter.unusedVariables false

theorem ret_int {k : IntKind} {a b : Int} (h : a = b) : Ending.returned (.int k a) = .returned (.int k b) := by rw [h]
theorem ret_bool {a b : Bool} (h : a = b) : Ending.returned (.bool a) = .returned (.bool b) := by rw [h]

theorem Try.own : ownKnob Try.prog.godebug = none := by kernel_rfl
theorem Try.laidOut : laidOutB Try.prog = true := by kernel_rfl

theorem alloc_below (w : World) (o : Obj) : Below w.heap.size w (w.alloc o) := (Below.refl _ w).alloc (Nat.le_refl _) _
theorem results_cell1 {fn : Func} {p : Tmp} {ty : TypeId} (h : fn.results = #[.cell p ty]) (tmps : Array Value) (P : Program) (w : World) :
    (results fn tmps).run P w = ((asAddr (tmps.getD p undef)).run P w).andThen fun a w₁ => (loadVar ty a).run P w₁ := by
  simp only [results, h]
  simp [Sem.run_bind, Result.andThen]
/-- Block n is so many cells: a variable's box. -/
def Box (w : World) (n : Nat) (cs : Array Value) (t : TypeId) : Prop := w.heap[n]? = some (.cells cs t (0, 0))
theorem Box.lt {w : World} {n : Nat} {cs : Array Value} {t : TypeId} (h : Box w n cs t) : n < w.heap.size := (Array.getElem?_eq_some_iff.1 h).1
theorem Box.cell {w : World} {n : Nat} {cs : Array Value} {t : TypeId} (h : Box w n cs t) (j : Nat) (u : Value) (hj : cs[j]? = some u) : w.cell? ⟨n, j, none⟩ = some u := by
  rw [cell_of_row _ _ _ _ _ (0, 0) h, hj]
theorem Box.frozen {w : World} {n : Nat} {cs : Array Value} {t : TypeId} (h : Box w n cs t) (j : Nat) : w.frozen? ⟨n, j, none⟩ = false := by
  unfold World.frozen?
  rw [show w.heap[n]? = _ from h]
  simp
theorem Box.new (w : World) (cs : Array Value) (t : TypeId) (n : Nat) (hn : n = w.heap.size) : Box (w.alloc (.cells cs t)) n cs t := by subst hn; exact heap_alloc_new w _
theorem Box.alloc {w : World} {n : Nat} {cs : Array Value} {t : TypeId} (h : Box w n cs t) (o : Obj) : Box (w.alloc o) n cs t := (Below.heap_alloc w o n h.lt).trans h
theorem Box.on {w w' : World} {n B : Nat} {cs : Array Value} {t : TypeId} (h : Box w n cs t) (hb : Below B w w') (hn : n < B) : Box w' n cs t := (hb.block n hn).trans h
theorem Box.later {w w' : World} {n : Nat} {cs : Array Value} {t : TypeId} (h : Box w n cs t) (hb : Below w.heap.size w w') : Box w' n cs t := h.on hb h.lt
theorem Box.keep {w w' : World} {n : Nat} {cs : Array Value} {t : TypeId} {row : Option Nat} (h : Box w n cs t) (hg : w.grownBy w' row) (hne : some n ≠ row) : Box w' n cs t := (hg.block n h.lt hne).trans h
theorem Box.other {w : World} {n : Nat} {cs : Array Value} {t : TypeId} (h : Box w n cs t) (p : Addr) (u : Value) (hne : n ≠ p.block) : Box (w.setCell p u) n cs t := (Below.heap_setCell w p u n hne).trans h
theorem Box.set {w : World} {n : Nat} {cs : Array Value} {t : TypeId} (h : Box w n cs t) (j : Nat) (u : Value) : Box (w.setCell ⟨n, j, none⟩ u) n (cs.setIfInBounds j u) t := by
  obtain ⟨hlt, hk⟩ := Array.getElem?_eq_some_iff.1 h
  show (w.heap.modify n _)[n]? = _
  rw [Array.getElem?_eq_getElem (by rw [Array.size_modify]; exact hlt), Array.getElem_modify_self, hk]
  rfl
theorem Box.drewN {w : World} {n : Nat} {cs : Array Value} {t : TypeId} (h : Box w n cs t) (k : Nat) : Box (w.drewN k) n cs t := h
theorem wf_int {n : Int} (h : (Lit.int .i64 n).wf = true) : -9223372036854775808 ≤ n ∧ n ≤ 9223372036854775807 := by
  simpa [Lit.wf, IntKind.min, IntKind.max, IntKind.signed, IntKind.bits] using h
theorem wf_u8 {n : Int} (h : (Lit.int .u8 n).wf = true) : 0 ≤ n ∧ n ≤ 255 := by
  simpa [Lit.wf, IntKind.min, IntKind.max, IntKind.signed, IntKind.bits] using h
end Go.Proofs.Ytlpakooogbaclaa
/- Program-free: slices and rows of whatever elements, each of so many cells: that read as a list; that a call owns; append, stores. -/
namespace Go.Proofs.Ytlpakooogbaclaa
open Go.RowKit
set_option linter.unusedVariables false

/-- How an element is laid: in sz cells. -/
structure Lay (α : Type) where
  sz : Nat
  enc : α → List Value
  len : ∀ x, (enc x).length = sz
  one : ∀ x, ∀ u ∈ enc x, u.oneCell' = true
  pos : 0 < sz

section
variable {α : Type} (L : Lay α)

/-- All cells of a list. -/
def Lay.all (l : List α) : List Value := l.flatMap L.enc
theorem Lay.all_cons (x : α) (l : List α) : L.all (x :: l) = L.enc x ++ L.all l := rfl
theorem Lay.all_append (l m : List α) : L.all (l ++ m) = L.all l ++ L.all m := by simp [Lay.all]
theorem Lay.all_length (l : List α) : (L.all l).length = l.length * L.sz := by
  induction l with
  | nil => simp [Lay.all]
  | cons x l ih => rw [L.all_cons, List.length_append, L.len, ih, List.length_cons, Nat.succ_mul, Nat.add_comm]
theorem Lay.all_at (l : List α) (k : Nat) (x : α) (hk : l[k]? = some x) (j : Nat) (hj : j < L.sz) : (L.all l)[k * L.sz + j]? = (L.enc x)[j]? := by
  induction l generalizing k with
  | nil => simp at hk
  | cons y l ih =>
    rw [L.all_cons]
    cases k with
    | zero =>
      simp at hk
      subst hk
      rw [Nat.zero_mul, Nat.zero_add, List.getElem?_append_left (by rw [L.len]; exact hj)]
    | succ k =>
      rw [List.getElem?_append_right (by rw [L.len, Nat.succ_mul]; omega), L.len]
      have : (k + 1) * L.sz + j - L.sz = k * L.sz + j := by rw [Nat.succ_mul]; omega
      rw [this]
      exact ih k (by simpa using hk)
theorem Lay.all_one (l : List α) : ∀ u ∈ L.all l, u.oneCell' = true := by
  intro u hu
  obtain ⟨x, _, hx⟩ := List.mem_flatMap.1 hu
  exact L.one x u hx

/-- v is a slice that reads as l, in a block below B. -/
def RdX (w : World) (B : Nat) (v : Value) (l : List α) : Prop :=
  ∃ A c, v = .slice A l.length c ∧ l.length ≤ c ∧ c ≤ 9223372036854775807 ∧ (0 < l.length → ∃ b o, A = some ⟨b, o, none⟩ ∧ b < B ∧
    ∀ (k : Nat) (x : α), l[k]? = some x → ∀ (j : Nat) (u : Value), (L.enc x)[j]? = some u → w.cell? ⟨b, o + k * L.sz + j, none⟩ = some u)
/-- v is a row, of blocks from base on, that a call owns, that reads as l. -/
def OwnX (e : TypeId) (w : World) (base : Nat) (v : Value) (l : List α) : Prop := w.ownsRow base e L.sz v l.length (L.all l)
end

section
variable {α : Type} {L : Lay α} {e : TypeId}

theorem RdX.below {w w' : World} {B : Nat} {v : Value} {l : List α} (h : RdX L w B v l) (hb : Below B w w') : RdX L w' B v l := by
  obtain ⟨A, c, rfl, h1, h2, h3⟩ := h
  refine ⟨A, c, rfl, h1, h2, fun hp => ?_⟩
  obtain ⟨b, o, rfl, hB, hc⟩ := h3 hp
  exact ⟨b, o, rfl, hB, fun k x hk j u hj => (hb.cell (p := ⟨b, _, none⟩) hB).trans (hc k x hk j u hj)⟩
theorem RdX.back {w w' : World} {B : Nat} {v : Value} {l : List α} (h : RdX L w' B v l) (hb : Below B w w') : RdX L w B v l := by
  obtain ⟨A, c, rfl, h1, h2, h3⟩ := h
  refine ⟨A, c, rfl, h1, h2, fun hp => ?_⟩
  obtain ⟨b, o, rfl, hB, hc⟩ := h3 hp
  exact ⟨b, o, rfl, hB, fun k x hk j u hj => (hb.cell (p := ⟨b, _, none⟩) hB).symm.trans (hc k x hk j u hj)⟩
theorem RdX.more {w : World} {B B' : Nat} {v : Value} {l : List α} (h : RdX L w B v l) (hB : B ≤ B') : RdX L w B' v l := by
  obtain ⟨A, c, rfl, h1, h2, h3⟩ := h
  refine ⟨A, c, rfl, h1, h2, fun hp => ?_⟩
  obtain ⟨b, o, rfl, hb, hc⟩ := h3 hp
  exact ⟨b, o, rfl, by omega, hc⟩
theorem RdX.on {w w' : World} {v : Value} {l : List α} (h : RdX L w w.heap.size v l) (hb : Below w.heap.size w w') : RdX L w' w'.heap.size v l := (h.below hb).more hb.size
theorem RdX.nil (w : World) (B : Nat) : RdX L w B (.slice none 0 0) [] := ⟨none, 0, rfl, by simp, by omega, fun h => absurd h (by simp)⟩
theorem RdX.drewN {w : World} {B : Nat} {v : Value} {l : List α} (h : RdX L w B v l) (n : Nat) : RdX L (w.drewN n) B v l := h
theorem RdX.drew {w : World} {B : Nat} {v : Value} {l : List α} (h : RdX L w B v l) : RdX L w.drew B v l := h
/-- What reads outside a row that has grown reads as it did. -/
theorem RdX.grown {w w' : World} {u : Value} {l : List α} {row : Option Nat} (h : RdX L w w.heap.size u l) (hg : w.grownBy w' row) (hne : 0 < l.length → u.ownBlock = none ∨ u.ownBlock ≠ row) : RdX L w' w'.heap.size u l := by
  obtain ⟨A, c, rfl, h1, h2, h3⟩ := h
  refine ⟨A, c, rfl, h1, h2, fun hp => ?_⟩
  obtain ⟨b, o, rfl, hb, hc⟩ := h3 hp
  have hne' : some b ≠ row := by simpa [Value.ownBlock] using hne hp
  exact ⟨b, o, rfl, Nat.lt_of_lt_of_le hb hg.size, fun k x hk j z hj => (World.cell?_of_block (a := ⟨b, _, none⟩) (hg.block b hb hne')).trans (hc k x hk j z hj)⟩
theorem RdX.old {w : World} {B : Nat} {u : Value} {l : List α} (h : RdX L w B u l) (hp : 0 < l.length) : ∀ k, u.ownBlock = some k → k < B := by
  obtain ⟨A, c, rfl, h1, h2, h3⟩ := h
  obtain ⟨b, o, rfl, hb, hc⟩ := h3 hp
  intro k hk
  simp [Value.ownBlock] at hk
  omega
/-- The cells of the element at k. -/
theorem RdX.at {w : World} {B : Nat} {A : Option Addr} {n c : Nat} {l : List α} (h : RdX L w B (.slice A n c) l) (k : Nat) (hk : k < l.length) :
    ∃ b o, A = some ⟨b, o, none⟩ ∧ b < B ∧ ∀ (j : Nat) (u : Value), (L.enc l[k])[j]? = some u → w.cell? ⟨b, o + k * L.sz + j, none⟩ = some u := by
  obtain ⟨A', c', e, h1, h2, h3⟩ := h
  obtain ⟨b, o, rfl, hb, hc⟩ := h3 (by omega)
  cases e
  exact ⟨b, o, rfl, hb, fun j u hj => hc k _ (List.getElem?_eq_getElem hk) j u hj⟩

theorem OwnX.nil (w : World) (base : Nat) : OwnX L e w base (.slice none 0 0) [] := World.ownsRow_nil w base e L.sz
theorem OwnX.lt {w : World} {base : Nat} {v : Value} {l : List α} (h : OwnX L e w base v l) : ∀ k, v.ownBlock = some k → base ≤ k ∧ k < w.heap.size := World.ownsRow.lt h
theorem OwnX.base {w : World} {base : Nat} {v : Value} {l : List α} (h : OwnX L e w base v l) : ∀ k, v.ownBlock = some k → base ≤ k := fun k hk => (h.lt k hk).1
theorem OwnX.keep {w w' : World} {base : Nat} {v : Value} {l : List α} {row : Option Nat} (h : OwnX L e w base v l) (hg : w.grownBy w' row) (hne : v.ownBlock = none ∨ v.ownBlock ≠ row) : OwnX L e w' base v l := World.ownsRow.kept h hg hne
theorem OwnX.on {w w' : World} {base : Nat} {v : Value} {l : List α} (h : OwnX L e w base v l) (hb : Below w.heap.size w w') : OwnX L e w' base v l :=
  h.keep (row := none) ⟨hb.os, hb.tape, hb.output, hb.size, fun i hi _ => hb.block i hi⟩ (by cases v.ownBlock <;> simp)
theorem OwnX.mono {w : World} {base base' : Nat} {v : Value} {l : List α} (h : OwnX L e w base v l) (hb : base' ≤ base) : OwnX L e w base' v l :=
  ⟨h.1, h.2.imp id fun ⟨g, cap, cur, e, hg, h3⟩ => ⟨g, cap, cur, e, Nat.le_trans hb hg, h3⟩⟩
theorem OwnX.pos {w : World} {base : Nat} {v : Value} {l : List α} (h : OwnX L e w base v l) (hp : 0 < l.length) : ∃ g c, v = .slice (some ⟨g, 0, none⟩) l.length c ∧ base ≤ g ∧ g < w.heap.size := by
  rcases h.2 with ⟨_, h0⟩ | ⟨g, cap, _, rfl, hb, hg, _⟩
  · omega
  · exact ⟨g, cap, rfl, hb, (Array.getElem?_eq_some_iff.1 hg).1⟩
theorem OwnX.cell {w : World} {base g n c : Nat} {l : List α} (h : OwnX L e w base (.slice (some ⟨g, 0, none⟩) n c) l) (k : Nat) (hk : k < l.length) (j : Nat) (u : Value) (hu : (L.enc l[k])[j]? = some u) :
    w.cell? ⟨g, k * L.sz + j, none⟩ = some u := by
  have hn : n = l.length := by
    rcases h.2 with ⟨e, _⟩ | ⟨_, _, _, e, _⟩ <;> cases e <;> rfl
  subst hn
  have hj : j < L.sz := by rw [← L.len l[k]]; exact (List.getElem?_eq_some_iff.1 hu).1
  have hlt : k * L.sz + j < l.length * L.sz := by
    have := Nat.mul_le_mul_right L.sz (show k + 1 ≤ l.length from hk)
    rw [Nat.succ_mul] at this; omega
  rw [World.ownsRow.cellAt h _ hlt, L.all_at l k _ (List.getElem?_eq_getElem hk) j hj, hu]
theorem OwnX.frozen {w : World} {base g n c : Nat} {l : List α} (h : OwnX L e w base (.slice (some ⟨g, 0, none⟩) n c) l) (j : Nat) : w.frozen? ⟨g, j, none⟩ = false := by
  have hn : n = l.length := by
    rcases h.2 with ⟨e, _⟩ | ⟨_, _, _, e, _⟩ <;> cases e <;> rfl
  subst hn
  exact World.ownsRow.frozenAt h j
theorem OwnX.rd {w : World} {base : Nat} {v : Value} {l : List α} (h : OwnX L e w base v l) : RdX L w w.heap.size v l := by
  have h' := h
  rcases h.2 with ⟨rfl, hn⟩ | ⟨g, cap, cur, rfl, hb, hg, hnc, hcm, hcs, htake⟩
  · have : l = [] := List.eq_nil_of_length_eq_zero hn
    subst this; exact RdX.nil _ _
  · refine ⟨_, cap, rfl, hnc, by simpa [maxLen] using hcm, fun hp => ⟨g, 0, rfl, (Array.getElem?_eq_some_iff.1 hg).1, fun k x hk j u hj => ?_⟩⟩
    obtain ⟨hkl, hkx⟩ := List.getElem?_eq_some_iff.1 hk
    rw [Nat.zero_add]
    exact h'.cell k hkl j u (by rw [hkx]; exact hj)
theorem Lay.enc_set (L : Lay α) (l : List α) (k : Nat) (hk : k < l.length) (j : Nat) (hj : j < L.sz) (u : Value) (x : α) (hx : L.enc x = (L.enc l[k]).set j u) : L.all (l.set k x) = (L.all l).set (k * L.sz + j) u := by
  apply List.ext_getElem?
  intro i
  have hp := L.pos
  by_cases hi : i < l.length * L.sz
  · have hq : i / L.sz < l.length := Nat.div_lt_of_lt_mul (by rw [Nat.mul_comm]; exact hi)
    have hr : i % L.sz < L.sz := Nat.mod_lt _ hp
    have hir : i = i / L.sz * L.sz + i % L.sz := by rw [Nat.mul_comm]; exact (Nat.div_add_mod i L.sz).symm
    have h1 : (L.all (l.set k x))[i]? = (L.enc ((l.set k x)[i / L.sz]'(by rw [List.length_set]; exact hq)))[i % L.sz]? := by
      conv => lhs; rw [hir]
      exact L.all_at _ _ _ (List.getElem?_eq_getElem (by rw [List.length_set]; exact hq)) _ hr
    have h2 : (L.all l)[i]? = (L.enc l[i / L.sz])[i % L.sz]? := by
      conv => lhs; rw [hir]
      exact L.all_at _ _ _ (List.getElem?_eq_getElem hq) _ hr
    rw [h1, List.getElem?_set, h2]
    have hlt : k * L.sz + j < (L.all l).length := by
      rw [L.all_length]
      have := Nat.mul_le_mul_right L.sz (show k + 1 ≤ l.length from hk)
      rw [Nat.succ_mul] at this; omega
    by_cases hk2 : i / L.sz = k
    · subst hk2
      rw [List.getElem_set_self, hx, List.getElem?_set]
      by_cases hj2 : j = i % L.sz
      · subst hj2
        rw [if_pos rfl, if_pos hir.symm, if_pos hlt, if_pos (by rw [L.len]; exact hr)]
      · rw [if_neg hj2, if_neg (by omega)]
    · rw [List.getElem_set_ne (fun e => hk2 e.symm), if_neg]
      intro e
      apply hk2
      rw [← e, Nat.mul_comm, Nat.mul_add_div hp, Nat.div_eq_of_lt hj, Nat.add_zero]
  · rw [List.getElem?_eq_none (by rw [L.all_length, List.length_set]; omega), List.getElem?_eq_none (by rw [List.length_set, L.all_length]; omega)]
/-- A store into cell j of the element at k. -/
theorem OwnX.stored {w : World} {base g n c : Nat} {l : List α} (h : OwnX L e w base (.slice (some ⟨g, 0, none⟩) n c) l) (k : Nat) (hk : k < l.length) (j : Nat) (hj : j < L.sz) (u : Value) (x : α) (hx : L.enc x = (L.enc l[k]).set j u) :
    OwnX L e (w.setCell ⟨g, k * L.sz + j, none⟩ u) base (.slice (some ⟨g, 0, none⟩) n c) (l.set k x) ∧ w.grownBy (w.setCell ⟨g, k * L.sz + j, none⟩ u) (some g) := by
  have hn : n = l.length := by
    rcases h.2 with ⟨e, _⟩ | ⟨_, _, _, e, _⟩ <;> cases e <;> rfl
  subst hn
  have := World.ownsRow.stored h (k * L.sz + j) u
  unfold OwnX
  rw [List.length_set, L.enc_set l k hk j hj u x hx]
  exact this

/-- Rows of different elements lie in different blocks. -/
theorem rows_apartX {w : World} {b1 b2 : Nat} {e1 e2 : TypeId} {s1 s2 n1 n2 : Nat} {v1 v2 : Value} {x1 x2 : List Value} (h1 : w.ownsRow b1 e1 s1 v1 n1 x1) (h2 : w.ownsRow b2 e2 s2 v2 n2 x2) (he : e1 ≠ e2) :
    v1.ownBlock = none ∨ v1.ownBlock ≠ v2.ownBlock := by
  rcases h1.2 with ⟨rfl, _⟩ | ⟨g, cap, cur, rfl, _, hg, _⟩
  · exact .inl rfl
  · right
    rcases h2.2 with ⟨rfl, _⟩ | ⟨g', cap', cur', rfl, _, hg', _⟩
    · simp [Value.ownBlock]
    · intro e
      simp only [Value.ownBlock, Option.some.injEq] at e
      subst e
      rw [hg] at hg'
      simp at hg'
      exact he hg'.2
/-- Beside a row of other elements that grows. -/
theorem OwnX.beside {β : Type} {L' : Lay β} {e' : TypeId} {w w' : World} {base b2 : Nat} {v u u' : Value} {l : List α} {m : List β} (h : OwnX L e w base v l) (ho : OwnX L' e' w b2 u m) (he : e ≠ e') (hg : Grew w w' u u') : OwnX L e w' base v l :=
  h.keep hg.grown (rows_apartX h ho he)

/-- A row of so many cells, as it was made. -/
theorem OwnX.new (w : World) (cs : Array Value) (l : List α) (n : Nat) (h : cs = (L.all l).toArray) (hn : n = l.length) (hl : l.length ≤ 1099511627776) :
    OwnX L e (w.alloc (.cells cs e)) w.heap.size (.slice (some ⟨w.heap.size, 0, none⟩) n n) l := by
  subst h hn
  exact ⟨L.all_length l, .inr ⟨w.heap.size, l.length, _, rfl, Nat.le_refl _, heap_alloc_new w _, Nat.le_refl _, by simp only [maxLen]; omega, by rw [List.size_toArray, L.all_length], by rw [List.toList_toArray, List.take_of_length_le (by rw [L.all_length]; omega)]⟩⟩

variable {P : Program}
/-- What append of elements that stand in a block gives. -/
theorem appX_run {W : World} {t ty : TypeId} {z : Value} {bytes g c m : Nat} (ht : P.underlying t = some (.slice e)) (hinfo : (P.info? e).map (fun i => (i.zero, i.size, i.bytes)) = some (some z, L.sz, bytes)) (hzs : z.cells.size = L.sz)
    {base : Nat} {v : Value} {l r : List α} (hown : OwnX L e W base v l) (hblk : W.heap[g]? = some (.cells (L.all r).toArray e (0, 0))) (hm : m = r.length) (hb : base ≤ W.heap.size) (hlen : l.length + r.length ≤ 1000000000) (hbytes : bytes ≤ 1000) :
    ∃ v' w', (Builtin.append_ #[t, t] ty #[v, .slice (some ⟨g, 0, none⟩) m c]).run P W = .ok v' w' ∧ OwnX L e w' base v' (l ++ r) ∧ Grew W w' v v' ∧ Below base W w' := by
  subst hm
  have hby : (l.length + r.length) * bytes ≤ 140737488355328 := Nat.le_trans (Nat.mul_le_mul hlen hbytes) (by omega)
  obtain ⟨v', w', hrun, h2, h3, h4⟩ := app_run (P := P) (W := W) (ty := ty) ht hinfo hzs L.pos v l.length (L.all l) hown g r.length c (L.all r) (L.all_length r) hblk (L.all_one r) (by omega) hby hb
  exact ⟨v', w', hrun, by unfold OwnX; rw [List.length_append, L.all_append]; exact h2, h3, h3.below hb (OwnX.base hown)⟩
/-- append of elements that stand in a literal. -/
theorem wpl_appX {w : World} {ops : Array Oper} {rest : List Oper} {o : Oper} {a : Act} {Q : Exit → Act → World → Prop} {t : TypeId} {z : Value} {bytes : Nat} (hgd : o.guard = none) (s x : Operand)
    (ho : o.op = .call { callee := .builtin .append, args := #[s, x], argTypes := #[t, t] })
    (ht : P.underlying t = some (.slice e)) (hinfo : (P.info? e).map (fun i => (i.zero, i.size, i.bytes)) = some (some z, L.sz, bytes)) (hzs : z.cells.size = L.sz)
    (base : Nat) (v : Value) (l r : List α) (cs : Array Value) (m c : Nat) (hcs : cs = (L.all r).toArray) (hs : a.eval s = v) (hx : a.eval x = .slice (some ⟨w.heap.size, 0, none⟩) m c) (hm : m = r.length)
    (hown : OwnX L e w base v l) (hb : base ≤ w.heap.size) (hlen : l.length + r.length ≤ 1000000000) (hbytes : bytes ≤ 1000)
    (h : ∀ v' w', OwnX L e w' base v' (l ++ r) → Grew w w' v v' → Below base w w' → wpList P ops Q rest (a.put o.dst v') w') :
    wpList P ops Q (o :: rest) a (w.alloc (.cells cs e)) := by
  subst hcs hm
  have hby : (l.length + r.length) * bytes ≤ 140737488355328 := Nat.le_trans (Nat.mul_le_mul hlen hbytes) (by omega)
  refine wpl_appg (W := w.alloc (.cells (L.all r).toArray e)) hgd s x ho ht hinfo hzs L.pos v l.length (L.all l) w.heap.size r.length c (L.all r) hs hx (L.all_length r) (heap_alloc_new w _) (L.all_one r) (World.ownsRow.alloc hown _) (by omega) hby (by simp; omega) ?_
  intro v' w' hr' hg hsz
  have hgrow : Grew w w' v v' := ⟨⟨hg.grown.os, hg.grown.tape, hg.grown.output, by simp at hsz; omega, fun k hk hn => (hg.grown.block k (by simp; omega) hn).trans (Below.heap_alloc w _ k hk)⟩, hg.own.imp id fun ⟨g, e, hg2⟩ => ⟨g, e, by simp at hg2; omega⟩⟩
  exact h v' w' (by unfold OwnX; rw [List.length_append, L.all_append]; exact hr') hgrow (hgrow.below hb (OwnX.base hown))
end
end Go.Proofs.Ytlpakooogbaclaa
/- Slices of rows of elements of any size: v[k:], v[:m]. -/
namespace Go.Proofs.Ytlpakooogbaclaa
open Go.RowKit
set_option linter.unusedVariables false

section
variable {P : Program} {α : Type} {L : Lay α}
theorem slX_tail {w : World} {B : Nat} {v : Value} {l : List α} (h : RdX L w B v l) {t e : TypeId} (ht0 : P.underlying t = some (.slice e)) (hsz : ∀ w, (Go.sizeOf e).run P w = .ok L.sz w) (k : Nat) (z : Int) (hz : z = (k : Int)) (hk : k ≤ l.length) :
    ∃ A c, (∀ W, (Instr.slice t v (some (.int .i64 z)) none none).run P W = .ok (.slice A (l.length - k) c) W) ∧ RdX L w B (.slice A (l.length - k) c) (l.drop k) := by
  subst hz
  obtain ⟨A, c, rfl, h1, h2, h3⟩ := h
  have ht : P.underlying t = some (.slice (P.elem t)) := by simp [Program.elem, ht0]
  have he : P.elem t = e := by simp [Program.elem, ht0]
  refine ⟨if c = k then A else A.map (·.add (k * L.sz)), c - k, fun W => ?_, ⟨_, c - k, by rw [List.length_drop], by rw [List.length_drop]; omega, by omega, fun hp => ?_⟩⟩
  · rw [run_slice_l W _ _ _ _ ht _ _ (by omega) (by omega), he, hsz]
    simp [Result.andThen, sliced]
  · rw [List.length_drop] at hp
    obtain ⟨b, o, rfl, hb, hc⟩ := h3 (by omega)
    refine ⟨b, o + k * L.sz, ?_, hb, fun i x hx j u hu => ?_⟩
    · rw [if_neg (by omega)]; simp [addr_plain]
    · have := hc (k + i) x (by rw [List.getElem?_drop] at hx; exact hx) j u hu
      rw [Nat.add_mul, ← Nat.add_assoc] at this
      exact this
theorem slX_head {w : World} {B : Nat} {v : Value} {l : List α} (h : RdX L w B v l) {t e : TypeId} (ht0 : P.underlying t = some (.slice e)) (hsz : ∀ w, (Go.sizeOf e).run P w = .ok L.sz w) (m : Nat) (z : Int) (hz : z = (m : Int)) (hm : m ≤ l.length) :
    ∃ A c, (∀ W, (Instr.slice t v none (some (.int .i64 z)) none).run P W = .ok (.slice A m c) W) ∧ RdX L w B (.slice A m c) (l.take m) := by
  subst hz
  obtain ⟨A, c, rfl, h1, h2, h3⟩ := h
  have ht : P.underlying t = some (.slice (P.elem t)) := by simp [Program.elem, ht0]
  have he : P.elem t = e := by simp [Program.elem, ht0]
  have hl : (l.take m).length = m := by rw [List.length_take]; omega
  refine ⟨if c = 0 then A else A.map (·.add 0), c, fun W => ?_, ⟨_, c, by rw [hl], by rw [hl]; omega, by omega, fun hp => ?_⟩⟩
  · rw [run_slice_h W _ _ _ _ ht _ _ (by omega) (by omega), he, hsz]
    simp [Result.andThen, sliced]
  · rw [hl] at hp
    obtain ⟨b, o, rfl, hb, hc⟩ := h3 (by omega)
    refine ⟨b, o, ?_, hb, fun i x hx j u hu => ?_⟩
    · rw [if_neg (by omega)]; simp [Addr.add]
    · rw [List.getElem?_take] at hx
      split at hx
      · exact hc i x hx j u hu
      · cases hx
end
end Go.Proofs.Ytlpakooogbaclaa
/- Program-free: append of a slice that reads as a list to a row that a call owns; copy of elements of so many cells; a row by its cells. -/
namespace Go.Proofs.Ytlpakooogbaclaa
open Go.RowKit
set_option linter.unusedVariables false

section
variable {α : Type} {L : Lay α} {e : TypeId} {P : Program}

/-- All cells of a slice that reads as a list. -/
theorem Lay.all_get (L : Lay α) (l : List α) (i : Nat) (u : Value) (h : (L.all l)[i]? = some u) : ∃ (k : Nat) (x : α) (j : Nat), l[k]? = some x ∧ (L.enc x)[j]? = some u ∧ i = k * L.sz + j ∧ j < L.sz := by
  have hp := L.pos
  have hi : i < l.length * L.sz := by
    rw [← L.all_length]
    exact (List.getElem?_eq_some_iff.1 h).1
  have hq : i / L.sz < l.length := Nat.div_lt_of_lt_mul (by rw [Nat.mul_comm]; exact hi)
  have hr : i % L.sz < L.sz := Nat.mod_lt _ hp
  have hir : i = i / L.sz * L.sz + i % L.sz := by rw [Nat.mul_comm]; exact (Nat.div_add_mod i L.sz).symm
  refine ⟨i / L.sz, l[i / L.sz], i % L.sz, List.getElem?_eq_getElem hq, ?_, hir, hr⟩
  rw [← L.all_at l _ _ (List.getElem?_eq_getElem hq) _ hr, ← hir]
  exact h
theorem RdX.cells {w : World} {B : Nat} {b o n c : Nat} {l : List α} (h : RdX L w B (.slice (some ⟨b, o, none⟩) n c) l) (i : Nat) (u : Value) (hu : (L.all l)[i]? = some u) : w.cell? ⟨b, o + i, none⟩ = some u := by
  obtain ⟨k, x, j, h1, h2, rfl, -⟩ := L.all_get l i u hu
  obtain ⟨A, c', e1, _, _, h3⟩ := h
  obtain ⟨b', o', e2, _, hc⟩ := h3 (by have := (List.getElem?_eq_some_iff.1 h1).1; omega)
  cases e1
  cases e2
  rw [← Nat.add_assoc]
  exact hc k x h1 j u h2

/-- What append of whatever slice gives. -/
theorem appX_rd {W : World} {t ty : TypeId} {z : Value} {bytes : Nat} (ht : P.underlying t = some (.slice e)) (hinfo : (P.info? e).map (fun i => (i.zero, i.size, i.bytes)) = some (some z, L.sz, bytes)) (hzs : z.cells.size = L.sz)
    {base B : Nat} {v u : Value} {l r : List α} (hown : OwnX L e W base v l) (hrd : RdX L W B u r) (hb : base ≤ W.heap.size) (hlen : l.length + r.length ≤ 1000000000) (hbytes : bytes ≤ 1000) :
    ∃ v' w', (Builtin.append_ #[t, t] ty #[v, u]).run P W = .ok v' w' ∧ OwnX L e w' base v' (l ++ r) ∧ Grew W w' v v' ∧ Below base W w' := by
  by_cases hr : 0 < r.length
  · have hrd' := hrd
    obtain ⟨A, c, rfl, h1, h2, h3⟩ := hrd
    obtain ⟨b, o, rfl, hB, hc⟩ := h3 hr
    have hby : (l.length + r.length) * bytes ≤ 140737488355328 := Nat.le_trans (Nat.mul_le_mul hlen hbytes) (by omega)
    obtain ⟨v', w', hrun, h4, h5, h6⟩ := app_run_at (P := P) (W := W) (ty := ty) ht hinfo hzs L.pos v l.length (L.all l) hown b o r.length c (L.all r) (L.all_length r) (fun j u hu => hrd'.cells j u hu) (L.all_one r) (by omega) hby hb
    exact ⟨v', w', hrun, by unfold OwnX; rw [List.length_append, L.all_append]; exact h4, h5, h5.below hb (OwnX.base hown)⟩
  · have hr0 : r = [] := List.eq_nil_of_length_eq_zero (by omega)
    subst hr0
    obtain ⟨A, c, rfl, _, _, _⟩ := hrd
    have hby : l.length * bytes ≤ 140737488355328 := Nat.le_trans (Nat.mul_le_mul (show l.length ≤ 1000000000 from by simpa using hlen) hbytes) (by omega)
    obtain ⟨v', w', hrun, h4, h5, h6⟩ := app_run_zero (P := P) (W := W) (ty := ty) ht hinfo hzs L.pos v l.length (L.all l) hown A c (by simp at hlen; omega) hby hb
    exact ⟨v', w', hrun, by rw [List.append_nil]; exact h4, h5, h5.below hb (OwnX.base hown)⟩
theorem wpl_appX_rd {W : World} {ops : Array Oper} {rest : List Oper} {o : Oper} {a : Act} {Q : Exit → Act → World → Prop} {t : TypeId} {z : Value} {bytes : Nat} (hgd : o.guard = none) (s x : Operand)
    (ho : o.op = .call { callee := .builtin .append, args := #[s, x], argTypes := #[t, t] })
    (ht : P.underlying t = some (.slice e)) (hinfo : (P.info? e).map (fun i => (i.zero, i.size, i.bytes)) = some (some z, L.sz, bytes)) (hzs : z.cells.size = L.sz)
    (base B : Nat) (v u : Value) (l r : List α) (hs : a.eval s = v) (hx : a.eval x = u)
    (hown : OwnX L e W base v l) (hrd : RdX L W B u r) (hb : base ≤ W.heap.size) (hlen : l.length + r.length ≤ 1000000000) (hbytes : bytes ≤ 1000)
    (h : ∀ v' w', OwnX L e w' base v' (l ++ r) → Grew W w' v v' → Below base W w' → wpList P ops Q rest (a.put o.dst v') w') :
    wpList P ops Q (o :: rest) a W := by
  obtain ⟨v', w', hrun, h2, h3, h4⟩ := appX_rd (P := P) (W := W) (ty := o.type) ht hinfo hzs hown hrd hb hlen hbytes
  refine wpList_plain hgd fun K hK => ?_
  unfold Oper.wp execOp
  simp only [ho, resolve, invoke, builtin, Sem.run_bind, Sem.run_pure, Result.andThen_ok, List.map_toArray, List.map_cons, List.map_nil, hs, hx, hrun]
  exact hK _ _ (h v' w' h2 h3 h4)

end
end Go.Proofs.Ytlpakooogbaclaa
/- Which blocks a call leaves as they were: those below B, and those that P does not take in. -/
namespace Go.Proofs.Ytlpakooogbaclaa
open Go.RowKit
set_option linter.unusedVariables false

structure Keeps (B : Nat) (P : Obj → Bool) (w w' : World) : Prop where
  below : Below B w w'
  other : ∀ (i : Nat) (o : Obj), w.heap[i]? = some o → P o = false → w'.heap[i]? = some o
theorem Keeps.refl (B : Nat) (P : Obj → Bool) (w : World) : Keeps B P w w := ⟨Below.refl _ _, fun _ _ h _ => h⟩
theorem Keeps.trans {B : Nat} {P : Obj → Bool} {a b c : World} (h : Keeps B P a b) (k : Keeps B P b c) : Keeps B P a c :=
  ⟨h.below.trans k.below, fun i o hi hp => k.other i o (h.other i o hi hp) hp⟩
theorem Keeps.size {B : Nat} {P : Obj → Bool} {w w' : World} (h : Keeps B P w w') : w.heap.size ≤ w'.heap.size := h.below.size
theorem Keeps.drew {B : Nat} {P : Obj → Bool} {w w' : World} (h : Keeps B P w w') : Keeps B P w w'.drew := ⟨h.below.drew, h.other⟩
/-- A store into a block that P takes in. -/
theorem Keeps.set {B : Nat} {P : Obj → Bool} {w w' : World} (h : Keeps B P w w') {n : Nat} {cs : Array Value} {t : TypeId} (hb : Box w' n cs t) (hn : B ≤ n) (hp : ∀ cs, P (.cells cs t (0, 0)) = true) (j : Nat) (u : Value) :
    Keeps B P w (w'.setCell ⟨n, j, none⟩ u) := by
  refine ⟨h.below.setCell (p := ⟨n, j, none⟩) hn u, fun i o hi ho => ?_⟩
  have h1 := h.other i o hi ho
  by_cases hin : i = n
  · subst hin
    rw [show w'.heap[i]? = _ from hb] at h1
    cases h1
    rw [hp cs] at ho
    cases ho
  · exact (Below.heap_setCell w' ⟨n, j, none⟩ u i hin).trans h1
section
variable {α : Type} {L : Lay α} {e : TypeId}
theorem Keeps.own {B : Nat} {P : Obj → Bool} {w w' : World} (h : Keeps B P w w') {base : Nat} {v : Value} {l : List α} (ho : OwnX L e w base v l) (hp : ∀ cs, P (.cells cs e (0, 0)) = false) : OwnX L e w' base v l := by
  refine ⟨ho.1, ?_⟩
  rcases ho.2 with h2 | ⟨g, cap, cur, e1, hg, hc, h3⟩
  · exact .inl h2
  · exact .inr ⟨g, cap, cur, e1, hg, h.other g _ hc (hp cur), h3⟩
/-- An owned row beside a store elsewhere. -/
theorem OwnX.apart {w w' : World} {base : Nat} {v : Value} {l : List α} (h : OwnX L e w base v l) {n : Nat} (hb : ∀ i, i ≠ n → i < w.heap.size → w'.heap[i]? = w.heap[i]?) (hne : v.ownBlock ≠ some n) : OwnX L e w' base v l := by
  refine ⟨h.1, ?_⟩
  rcases h.2 with h2 | ⟨g, cap, cur, e1, hg, hc, h3⟩
  · exact .inl h2
  · refine .inr ⟨g, cap, cur, e1, hg, ?_, h3⟩
    rw [hb g (fun e2 => hne (by rw [e1, e2]; rfl)) (Array.getElem?_eq_some_iff.1 hc).1]
    exact hc
end
theorem Keeps.of_grown {B : Nat} {P : Obj → Bool} {w w' : World} {g : Nat} (h : w.grownBy w' (some g)) {cs : Array Value} {t : TypeId} (hb : Box w g cs t) (hg : B ≤ g) (hp : ∀ cs, P (.cells cs t (0, 0)) = true) : Keeps B P w w' := by
  have hlt := hb.lt
  refine ⟨(Below.refl B w).grown h (by omega) (by intro k hk; injection hk with hk; omega), fun i o hi ho => ?_⟩
  by_cases hig : i = g
  · subst hig
    rw [show w.heap[i]? = _ from hb] at hi
    cases hi
    rw [hp cs] at ho; cases ho
  · exact (h.block i (Array.getElem?_eq_some_iff.1 hi).1 (fun e => hig (by injection e))).trans hi
end Go.Proofs.Ytlpakooogbaclaa
