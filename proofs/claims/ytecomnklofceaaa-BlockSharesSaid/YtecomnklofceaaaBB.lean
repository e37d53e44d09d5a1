/- Program-free laws: what append does to a row that the call owns, as a step of the walk and of a region whose order is open; a call by its contract as such a step. -/
import Derived.Test.YtecomnklofceaaaRows
import Derived.WalkKit
import Derived.Maps.AppendAt
import Derived.Deep.RegionLaw
import Derived.Deep.Draws
import Derived.ProofKit
import Derived.OpenShut
import Derived.Carry
import Derived.SizedLaws
import Derived.Deep.Slices
import Derived.Deep.Strs
import Derived.Lib.Hide
import Derived.WalkLawsBesides
import Derived.Deep.QuietTactic
import Derived.BigQuiet
import Derived.Handy
import Derived.Laws.BitsAllLaws
import Derived.ChangeMaps5
import Derived.Laws.ResultCell
import Derived.Laws.BytesArg
import Derived.ChangeSlices
import Derived.Lib.ConvBytes
import Derived.Lib.AppendStr
namespace Go.Proofs.Ytecomnklofceaaa
open Go.RowKit
set_option linter.unusedVariables false

/-- From w to w' nothing but the row v, and what is new, has turned; the row is where it was, or new. -/
structure Grew (w w' : World) (v v' : Value) : Prop where
  grown : w.grownBy w' v.ownBlock
  own : v'.ownBlock = v.ownBlock ∨ ∃ g, v'.ownBlock = some g ∧ w.heap.size ≤ g

theorem Grew.refl (w : World) (v : Value) : Grew w w v v := ⟨World.grownBy.refl w _, .inl rfl⟩
theorem Grew.trans {a b c : World} {u v x : Value} (h : Grew a b u v) (k : Grew b c v x) : Grew a c u x := by
  have hs := h.grown.size
  refine ⟨⟨k.grown.os.trans h.grown.os, k.grown.tape.trans h.grown.tape, k.grown.output.trans h.grown.output, Nat.le_trans h.grown.size k.grown.size, fun i hi hne => ?_⟩, ?_⟩
  · refine (k.grown.block i (by omega) ?_).trans (h.grown.block i hi hne)
    rcases h.own with e | ⟨g, e, hg⟩
    · rw [e]; exact hne
    · rw [e]; intro h2; injection h2 with h2; omega
  · rcases k.own with e | ⟨g, e, hg⟩
    · rw [e]; exact h.own
    · exact .inr ⟨g, e, by omega⟩
theorem Grew.below {w w' : World} {v v' : Value} {base : Nat} (h : Grew w w' v v') (hb : base ≤ w.heap.size) (hv : ∀ k, v.ownBlock = some k → base ≤ k) : Below base w w' :=
  (Below.refl base w).grown h.grown hb hv
theorem Grew.cell {w w' : World} {v v' : Value} (h : Grew w w' v v') {p : Addr} {u : Value} (hc : w.cell? p = some u) (hne : v.ownBlock ≠ some p.block) : w'.cell? p = some u :=
  h.grown.cell hc (fun e => hne e.symm)

theorem _root_.Go.RowKit.Below.drewN {B : Nat} {a w : World} (h : Below B a w) (n : Nat) : Below B a (w.drewN n) := ⟨h.os, h.tape, h.output, h.size, h.block⟩

theorem blk_new (w : World) (o : Obj) (k : Nat) (h : k = w.heap.size) : (w.alloc o).heap[k]? = some o := by subst h; exact heap_alloc_new w o

section
variable {P : Program} {W : World} {base : Nat} {t ty e : TypeId} {i : TypeInfo} {z : Value} {size bytes : Nat}

theorem app_run (ht : P.underlying t = some (.slice e)) (hinfo : (P.info? e).map (fun i => (i.zero, i.size, i.bytes)) = some (some z, size, bytes)) (hzs : z.cells.size = size) (hsz : 0 < size)
    (v : Value) (n : Nat) (xs : List Value) (hown : W.ownsRow base e size v n xs) (g m c : Nat) (news : List Value) (hl : news.length = m * size)
    (hblk : W.heap[g]? = some (.cells news.toArray e (0, 0))) (h1 : ∀ u ∈ news, u.oneCell' = true) (h63 : n + m ≤ 9223372036854775807) (hby : (n + m) * bytes ≤ 140737488355328) (hb : base ≤ W.heap.size) :
    ∃ v' w', (Builtin.append_ #[t, t] ty #[v, .slice (some ⟨g, 0, none⟩) m c]).run P W = .ok v' w' ∧ w'.ownsRow base e size v' (n + m) (xs ++ news) ∧ Grew W w' v v' ∧ W.heap.size ≤ w'.heap.size := by
  obtain ⟨i, hi, hz, hs, hbs⟩ := info_parts hinfo
  have hcell : ∀ j u, news[j]? = some u → W.cell? ((⟨g, 0, none⟩ : Addr).add j) = some u := by
    intro j u hu
    have hadd : (⟨g, 0, none⟩ : Addr).add j = ⟨g, j, none⟩ := by unfold Addr.add; split <;> simp_all
    rw [hadd, cell_of_row _ _ j _ _ (0, 0) hblk]
    simpa using hu
  obtain ⟨v', w', hrun, h2, h3, -, h4⟩ := run_append_own_at (P := P) W base t ty e i z size bytes ht hi hz hs hbs hzs hsz v n xs hown ⟨g, 0, none⟩ m c news hl hcell h1 (by simp only [maxLen]; omega) hby hb
  exact ⟨v', w', hrun, h2, ⟨h3, h4.imp id fun e => ⟨_, e, Nat.le_refl _⟩⟩, h3.size⟩

theorem addr_plain (g o j : Nat) : (⟨g, o, none⟩ : Addr).add j = ⟨g, o + j, none⟩ := by unfold Addr.add; split <;> simp_all

/-- The same, from whatever cells. -/
theorem app_run_at (ht : P.underlying t = some (.slice e)) (hinfo : (P.info? e).map (fun i => (i.zero, i.size, i.bytes)) = some (some z, size, bytes)) (hzs : z.cells.size = size) (hsz : 0 < size)
    (v : Value) (n : Nat) (xs : List Value) (hown : W.ownsRow base e size v n xs) (g off m c : Nat) (news : List Value) (hl : news.length = m * size)
    (hcell : ∀ j u, news[j]? = some u → W.cell? ⟨g, off + j, none⟩ = some u) (h1 : ∀ u ∈ news, u.oneCell' = true) (h63 : n + m ≤ 9223372036854775807) (hby : (n + m) * bytes ≤ 140737488355328) (hb : base ≤ W.heap.size) :
    ∃ v' w', (Builtin.append_ #[t, t] ty #[v, .slice (some ⟨g, off, none⟩) m c]).run P W = .ok v' w' ∧ w'.ownsRow base e size v' (n + m) (xs ++ news) ∧ Grew W w' v v' ∧ W.heap.size ≤ w'.heap.size := by
  obtain ⟨i, hi, hz, hs, hbs⟩ := info_parts hinfo
  obtain ⟨v', w', hrun, h2, h3, -, h4⟩ := run_append_own_at (P := P) W base t ty e i z size bytes ht hi hz hs hbs hzs hsz v n xs hown ⟨g, off, none⟩ m c news hl (fun j u hu => by rw [addr_plain]; exact hcell j u hu) h1 (by simp only [maxLen]; omega) hby hb
  exact ⟨v', w', hrun, h2, ⟨h3, h4.imp id fun e => ⟨_, e, Nat.le_refl _⟩⟩, h3.size⟩

variable {ops : Array Oper} {rest : List Oper} {o : Oper} {a : Act} {Q : Exit → Act → World → Prop} {K : Act → World → Prop} {E : Prop}

theorem wpl_appg (hgd : o.guard = none) (s x : Operand) (ho : o.op = .call { callee := .builtin .append, args := #[s, x], argTypes := #[t, t] })
    (ht : P.underlying t = some (.slice e)) (hinfo : (P.info? e).map (fun i => (i.zero, i.size, i.bytes)) = some (some z, size, bytes)) (hzs : z.cells.size = size) (hsz : 0 < size)
    (v : Value) (n : Nat) (xs : List Value) (g m c : Nat) (news : List Value) (hs : a.eval s = v) (hx : a.eval x = .slice (some ⟨g, 0, none⟩) m c) (hl : news.length = m * size)
    (hblk : W.heap[g]? = some (.cells news.toArray e (0, 0))) (h1 : ∀ u ∈ news, u.oneCell' = true) (hown : W.ownsRow base e size v n xs) (h63 : n + m ≤ 9223372036854775807) (hby : (n + m) * bytes ≤ 140737488355328) (hb : base ≤ W.heap.size)
    (h : ∀ v' w', w'.ownsRow base e size v' (n + m) (xs ++ news) → Grew W w' v v' → W.heap.size ≤ w'.heap.size → wpList P ops Q rest (a.put o.dst v') w') :
    wpList P ops Q (o :: rest) a W := by
  obtain ⟨v', w', hrun, h2, h3, h4⟩ := app_run (ty := o.type) ht hinfo hzs hsz v n xs hown g m c news hl hblk h1 h63 hby hb
  refine wpList_plain hgd fun K hK => ?_
  unfold Oper.wp execOp
  simp only [ho, resolve, invoke, builtin, Sem.run_bind, Sem.run_pure, Result.andThen_ok, List.map_toArray, List.map_cons, List.map_nil, hs, hx, hrun]
  exact hK _ _ (h v' w' h2 h3 h4)

theorem wpl_appg_at (hgd : o.guard = none) (s x : Operand) (ho : o.op = .call { callee := .builtin .append, args := #[s, x], argTypes := #[t, t] })
    (ht : P.underlying t = some (.slice e)) (hinfo : (P.info? e).map (fun i => (i.zero, i.size, i.bytes)) = some (some z, size, bytes)) (hzs : z.cells.size = size) (hsz : 0 < size)
    (v : Value) (n : Nat) (xs : List Value) (g off m c : Nat) (news : List Value) (hs : a.eval s = v) (hx : a.eval x = .slice (some ⟨g, off, none⟩) m c) (hl : news.length = m * size)
    (hcell : ∀ j u, news[j]? = some u → W.cell? ⟨g, off + j, none⟩ = some u) (h1 : ∀ u ∈ news, u.oneCell' = true) (hown : W.ownsRow base e size v n xs) (h63 : n + m ≤ 9223372036854775807) (hby : (n + m) * bytes ≤ 140737488355328) (hb : base ≤ W.heap.size)
    (h : ∀ v' w', w'.ownsRow base e size v' (n + m) (xs ++ news) → Grew W w' v v' → W.heap.size ≤ w'.heap.size → wpList P ops Q rest (a.put o.dst v') w') :
    wpList P ops Q (o :: rest) a W := by
  obtain ⟨v', w', hrun, h2, h3, h4⟩ := app_run_at (ty := o.type) ht hinfo hzs hsz v n xs hown g off m c news hl hcell h1 h63 hby hb
  refine wpList_plain hgd fun K hK => ?_
  unfold Oper.wp execOp
  simp only [ho, resolve, invoke, builtin, Sem.run_bind, Sem.run_pure, Result.andThen_ok, List.map_toArray, List.map_cons, List.map_nil, hs, hx, hrun]
  exact hK _ _ (h v' w' h2 h3 h4)

end
end Go.Proofs.Ytecomnklofceaaa
/- Program-free laws: append of nothing to a row that the call owns. -/
namespace Go.Proofs.Ytecomnklofceaaa
open Go.RowKit
set_option linter.unusedVariables false

section
variable {P : Program} {W : World} {base : Nat} {t ty e : TypeId} {z : Value} {size bytes : Nat}
variable {ops : Array Oper} {rest : List Oper} {o : Oper} {a : Act} {Q : Exit → Act → World → Prop} {K : Act → World → Prop} {E : Prop}

theorem app_run_zero (ht : P.underlying t = some (.slice e)) (hinfo : (P.info? e).map (fun i => (i.zero, i.size, i.bytes)) = some (some z, size, bytes)) (hzs : z.cells.size = size) (hsz : 0 < size)
    (v : Value) (n : Nat) (xs : List Value) (hown : W.ownsRow base e size v n xs) (A : Option Addr) (c : Nat) (h63 : n ≤ 9223372036854775807) (hby : n * bytes ≤ 140737488355328) (hb : base ≤ W.heap.size) :
    ∃ v' w', (Builtin.append_ #[t, t] ty #[v, .slice A 0 c]).run P W = .ok v' w' ∧ w'.ownsRow base e size v' n xs ∧ Grew W w' v v' ∧ W.heap.size ≤ w'.heap.size := by
  obtain ⟨i, hi, hz, hs, hbs⟩ := info_parts hinfo
  cases A with
  | none =>
    refine ⟨v, W, ?_, hown, Grew.refl _ _, Nat.le_refl _⟩
    rcases hown.2 with ⟨rfl, rfl⟩ | ⟨g, cap, cur, rfl, _, _, hnc, _⟩
    · simp [Builtin.append_, run_underlying ht, sizeOf, typeInfo, hi, Builtin.lenOf, Builtin.firstCells]
    · simp [Builtin.append_, run_underlying ht, sizeOf, typeInfo, hi, Builtin.lenOf, Builtin.firstCells, hnc, storeCells]
  | some ad =>
    obtain ⟨v', w', hrun, h2, h3, -, h4⟩ := run_append_own_at (P := P) W base t ty e i z size bytes ht hi hz hs hbs hzs hsz v n xs hown ad 0 c [] (by simp) (by simp) (by simp) (by simp only [maxLen]; omega) (by simpa using hby) hb
    exact ⟨v', w', hrun, by simpa using h2, ⟨h3, h4.imp id fun e => ⟨_, e, Nat.le_refl _⟩⟩, h3.size⟩

theorem wpl_appg_zero (hgd : o.guard = none) (s x : Operand) (ho : o.op = .call { callee := .builtin .append, args := #[s, x], argTypes := #[t, t] })
    (ht : P.underlying t = some (.slice e)) (hinfo : (P.info? e).map (fun i => (i.zero, i.size, i.bytes)) = some (some z, size, bytes)) (hzs : z.cells.size = size) (hsz : 0 < size)
    (v : Value) (n : Nat) (xs : List Value) (A : Option Addr) (c : Nat) (hs : a.eval s = v) (hx : a.eval x = .slice A 0 c) (hown : W.ownsRow base e size v n xs) (h63 : n ≤ 9223372036854775807) (hby : n * bytes ≤ 140737488355328) (hb : base ≤ W.heap.size)
    (h : ∀ v' w', w'.ownsRow base e size v' n xs → Grew W w' v v' → W.heap.size ≤ w'.heap.size → wpList P ops Q rest (a.put o.dst v') w') : wpList P ops Q (o :: rest) a W := by
  obtain ⟨v', w', hrun, h2, h3, h4⟩ := app_run_zero (ty := o.type) ht hinfo hzs hsz v n xs hown A c h63 hby hb
  refine wpList_plain hgd fun K hK => ?_
  unfold Oper.wp execOp
  simp only [ho, resolve, invoke, builtin, Sem.run_bind, Sem.run_pure, Result.andThen_ok, List.map_toArray, List.map_cons, List.map_nil, hs, hx, hrun]
  exact hK _ _ (h v' w' h2 h3 h4)
end
end Go.Proofs.Ytecomnklofceaaa
/- Program-free laws: from the walk of a law's function to its row. -/
namespace Go.Proofs.Ytecomnklofceaaa
open Go.RowKit Go.ChangeShapes Go.WideShapes Go.ChangeAt
set_option linter.unusedVariables false

section
variable {H : Type} {enc : TypeId × Value → H} {P : Program}

/-- Arguments that lie below the old heap's size read as they did. -/
theorem args_below (hl : laidOutB P = true) {W W' : World} (hb : Below W.heap.size W W') : ∀ {ts : List TypeId} {vs : List Value} {ds : List (DataW H)} {ps : List MemPlace},
    (∀ t ∈ ts, P.readableRec t = true ∧ t < P.types.size) → DataW.TrodAll enc P W 0 (fun _ => true) true ts vs ds ps → (∀ x ∈ ps, x.block < W.heap.size) →
    DataW.TrodAll enc P W' 0 (fun b => decide (b < W.heap.size)) true ts vs ds ps := by
  intro ts
  induction ts with
  | nil =>
    intro vs ds ps _ h _
    obtain ⟨rfl, rfl, rfl⟩ := trodAll_nil h
    exact trodAll_mk0
  | cons t ts ih =>
    intro vs ds ps ht h hlt
    obtain ⟨v, vs', d, ds', p, q, rfl, rfl, rfl, h1, h2⟩ := trodAll_cons h
    exact trodAll_cons_mk (Below.trod hl (ht t (by simp)).1 (ht t (by simp)).2 h1 hb (fun x hx => hlt x (by simp [hx]))) (ih (fun u hu => ht u (by simp [hu])) h2 (fun x hx => hlt x (by simp [hx])))

/-- What a law's walk gives is its row's post: true, in a world in which nothing old has turned. -/
theorem law_post {fn : Func} {s : ChangeSpec} (hl : laidOutB P = true) (hT : ∀ t ∈ fn.params.toList, P.readableRec t = true ∧ t < P.types.size) {tb : TypeId} (hr : fn.resultTypes = #[tb]) (hbool : P.underlying tb = some .bool)
    (hvars : s.vars = []) {W W' : World} {args : Array Value} {ds gs : List (DataW H)} {before : List MemPlace} (hW : DataW.Whole enc P fn.params.toList s.vars false W args.toList ds gs before)
    (hfn : s.fn H (ds ++ gs) = { results := [.lit (.bool true)], args := ds }) (hb : Below W.heap.size W W') :
    s.post enc P fn false true false false W args (.bool true) W' := by
  have hW' := hW
  obtain ⟨p, q, hA, hV, rfl, _, _⟩ := hW
  rw [hvars] at hV
  obtain ⟨rfl, rfl⟩ := trodVars_none hV
  have hlt : ∀ x ∈ p, x.block < W.heap.size := fun x hx => by simpa using hW'.lt x (by simpa using hx)
  refine ⟨ds, [], p ++ [], [], p, [], hW', ?_, ?_, ?_, hb.frame _, fun h => by cases h⟩
  · rw [hfn, hr]; exact trodAll_mk1 (shut_bool hbool _)
  · rw [hfn]; exact args_below hl hb hT hA hlt
  · rw [hfn, hvars]; rfl
end
end Go.Proofs.Ytecomnklofceaaa
/- Endings that are equal; the program's own facts. -/
namespace Go.Proofs.Ytecomnklofceaaa
open Go.RowKit Go.ChangeShapes Go.WideShapes Go.ChangeAt Go.Deep
set_option linter.unusedVariables false

theorem ret_int {k : IntKind} {a b : Int} (h : a = b) : Ending.returned (.int k a) = .returned (.int k b) := by rw [h]
theorem ret_bool {a b : Bool} (h : a = b) : Ending.returned (.bool a) = .returned (.bool b) := by rw [h]
theorem ret_str {a b : ByteArray} (h : a = b) : Ending.returned (.string a) = .returned (.string b) := by rw [h]

theorem ret_tup {a b : Array Value} (h : a = b) : Ending.returned (.tuple a) = .returned (.tuple b) := by rw [h]

theorem Try.own : ownKnob Try.prog.godebug = none := by kernel_rfl
theorem Try.laidOut : laidOutB Try.prog = true := by kernel_rfl

theorem alloc_below (w : World) (o : Obj) : Below w.heap.size w (w.alloc o) := (Below.refl _ w).alloc (Nat.le_refl _) _
theorem results_cell1 {fn : Func} {p : Tmp} {ty : TypeId} (h : fn.results = #[.cell p ty]) (tmps : Array Value) (P : Program) (w : World) :
    (results fn tmps).run P w = ((asAddr (tmps.getD p undef)).run P w).andThen fun a w₁ => (loadVar ty a).run P w₁ := by
  simp only [results, h]
  simp [Sem.run_bind, Result.andThen]
/-- A cell of memory that was made just ahead, in a later world. -/
theorem made_cell {w w' : World} {cs : Array Value} {t : TypeId} (hb : Below (w.heap.size + 1) (w.alloc (.cells cs t)) w') (j : Nat) (u : Value) (hj : cs[j]? = some u) : w'.cell? ⟨w.heap.size, j, none⟩ = some u := by
  rw [hb.cell (p := ⟨w.heap.size, j, none⟩) (by simp), cell_of_row _ _ _ _ _ (0, 0) (heap_alloc_new w _), hj]
theorem made_frozen {w w' : World} {cs : Array Value} {t : TypeId} (hb : Below (w.heap.size + 1) (w.alloc (.cells cs t)) w') (j : Nat) : w'.frozen? ⟨w.heap.size, j, none⟩ = false := by
  rw [hb.frozen (p := ⟨w.heap.size, j, none⟩) (by simp)]
  unfold World.frozen?
  rw [heap_alloc_new w (.cells cs t)]
  simp
/-- Block n is so many cells: a variable's box. -/
def Box (w : World) (n : Nat) (cs : Array Value) (t : TypeId) : Prop := w.heap[n]? = some (.cells cs t (0, 0))
theorem Box.lt {w : World} {n : Nat} {cs : Array Value} {t : TypeId} (h : Box w n cs t) : n < w.heap.size := (Array.getElem?_eq_some_iff.1 h).1
theorem Box.cell {w : World} {n : Nat} {cs : Array Value} {t : TypeId} (h : Box w n cs t) (j : Nat) (u : Value) (hj : cs[j]? = some u) : w.cell? ⟨n, j, none⟩ = some u := by
  rw [cell_of_row _ _ _ _ _ (0, 0) h, hj]
theorem Box.frozen {w : World} {n : Nat} {cs : Array Value} {t : TypeId} (h : Box w n cs t) (j : Nat) : w.frozen? ⟨n, j, none⟩ = false := by
  unfold World.frozen?
  rw [show w.heap[n]? = _ from h]
  simp
theorem Box.new (w : World) (cs : Array Value) (t : TypeId) (n : Nat) (hn : n = w.heap.size) : Box (w.alloc (.cells cs t)) n cs t := by subst hn; exact heap_alloc_new w _
theorem Box.alloc {w : World} {n : Nat} {cs : Array Value} {t : TypeId} (h : Box w n cs t) (o : Obj) : Box (w.alloc o) n cs t := (Below.heap_alloc w o n h.lt).trans h
theorem Box.on {w w' : World} {n B : Nat} {cs : Array Value} {t : TypeId} (h : Box w n cs t) (hb : Below B w w') (hn : n < B) : Box w' n cs t := (hb.block n hn).trans h
theorem Box.later {w w' : World} {n : Nat} {cs : Array Value} {t : TypeId} (h : Box w n cs t) (hb : Below w.heap.size w w') : Box w' n cs t := h.on hb h.lt
theorem Box.keep {w w' : World} {n : Nat} {cs : Array Value} {t : TypeId} {row : Option Nat} (h : Box w n cs t) (hg : w.grownBy w' row) (hne : some n ≠ row) : Box w' n cs t := (hg.block n h.lt hne).trans h
theorem Box.other {w : World} {n : Nat} {cs : Array Value} {t : TypeId} (h : Box w n cs t) (p : Addr) (u : Value) (hne : n ≠ p.block) : Box (w.setCell p u) n cs t := (Below.heap_setCell w p u n hne).trans h
theorem Box.set {w : World} {n : Nat} {cs : Array Value} {t : TypeId} (h : Box w n cs t) (j : Nat) (u : Value) : Box (w.setCell ⟨n, j, none⟩ u) n (cs.setIfInBounds j u) t := by
  obtain ⟨hlt, hk⟩ := Array.getElem?_eq_some_iff.1 h
  show (w.heap.modify n _)[n]? = _
  rw [Array.getElem?_eq_getElem (by rw [Array.size_modify]; exact hlt), Array.getElem_modify_self, hk]
  rfl
theorem Box.drewN {w : World} {n : Nat} {cs : Array Value} {t : TypeId} (h : Box w n cs t) (k : Nat) : Box (w.drewN k) n cs t := h
theorem wf_int {n : Int} (h : (Lit.int .i64 n).wf = true) : -9223372036854775808 ≤ n ∧ n ≤ 9223372036854775807 := by
  simpa [Lit.wf, IntKind.min, IntKind.max, IntKind.signed, IntKind.bits] using h
theorem wf_u8 {n : Int} (h : (Lit.int .u8 n).wf = true) : 0 ≤ n ∧ n ≤ 255 := by
  simpa [Lit.wf, IntKind.min, IntKind.max, IntKind.signed, IntKind.bits] using h
theorem cell_lt {w : World} {a : Addr} {v : Value} (h : w.cell? a = some v) : a.block < w.heap.size := by
  rcases Nat.lt_or_ge a.block w.heap.size with h' | h'
  · exact h'
  · simp [World.cell?, Array.getElem?_eq_none h'] at h
end Go.Proofs.Ytecomnklofceaaa
/- Bytes: rows of them that a call owns; slices that read as them; append, slicing, texts; an argument that is bytes, opened. Program-bound by its types' names alone. -/
namespace Go.Proofs.Ytecomnklofceaaa
open Go.RowKit Go.ChangeShapes Go.WideShapes Go.ChangeAt Go.Deep
set_option linter.unusedVariables false

/-- Bytes as values. -/
def bv (l : List UInt8) : List Value := l.map fun c => .int .u8 (c.toNat : Int)
theorem bv_append (l r : List UInt8) : bv (l ++ r) = bv l ++ bv r := by simp [bv]
theorem bv_length (l : List UInt8) : (bv l).length = l.length := by simp [bv]

/-- v is a row of bytes, from block base on, that reads as l. -/
def OwnB (w : World) (base : Nat) (v : Value) (l : List UInt8) : Prop := w.ownsRow base 5 1 v l.length (bv l)

theorem OwnB.base {w : World} {base : Nat} {v : Value} {l : List UInt8} (h : OwnB w base v l) : ∀ k, v.ownBlock = some k → base ≤ k := fun k hk => (h.lt k hk).1
theorem OwnB.nil (w : World) (base : Nat) : OwnB w base (.slice none 0 0) [] := World.ownsRow_nil w base _ 1

theorem u8_info : (Try.prog.info? 5).map (fun i => (i.zero, i.size, i.bytes)) = some (some (.int .u8 0), 1, 1) := by kernel_rfl

/-- append of a literal's bytes to an owned row. -/
theorem wpl_app {w : World} {ops : Array Oper} {rest : List Oper} {o : Oper} {a : Act} {Q : Exit → Act → World → Prop} (hgd : o.guard = none) (s x : Operand)
    (ho : o.op = .call { callee := .builtin .append, args := #[s, x], argTypes := #[24, 24] })
    (base : Nat) (v : Value) (l r : List UInt8) (cs : Array Value) (m c : Nat) (hcs : cs = (bv r).toArray) (hs : a.eval s = v) (hx : a.eval x = .slice (some ⟨w.heap.size, 0, none⟩) m c) (hm : m = r.length)
    (hown : OwnB w base v l) (hb : base ≤ w.heap.size) (hlen : l.length + r.length ≤ 1099511627776)
    (h : ∀ v' w', OwnB w' base v' (l ++ r) → Grew w w' v v' → w.heap.size ≤ w'.heap.size → wpList Try.prog ops Q rest (a.put o.dst v') w') :
    wpList Try.prog ops Q (o :: rest) a (w.alloc (.cells cs 5)) := by
  obtain ⟨i, hi, hz, hsz, hby⟩ := info_parts u8_info
  subst hcs hm
  have hcell : ∀ j u, (bv r)[j]? = some u → (w.alloc (.cells (bv r).toArray 5)).cell? ((⟨w.heap.size, 0, none⟩ : Addr).add j) = some u := by
    intro j u hu
    have hadd : (⟨w.heap.size, 0, none⟩ : Addr).add j = ⟨w.heap.size, j, none⟩ := by unfold Addr.add; split <;> simp_all
    rw [hadd, cell_of_row _ _ j _ _ (0, 0) (heap_alloc_new w _)]
    simpa using hu
  obtain ⟨v', w', hrun, h2, h3, -, h4⟩ := run_append_own_at (P := Try.prog) (w.alloc (.cells (bv r).toArray 5)) base 24 o.type 5 i (.int .u8 0) 1 1 Try.underlying24 hi hz hsz hby rfl (by omega)
    v l.length (bv l) (hown.alloc _) ⟨w.heap.size, 0, none⟩ r.length c (bv r) (by simp [bv]) hcell (by simp [bv, Value.oneCell']) (by simp only [maxLen]; omega) (by omega) (by simp; omega)
  have hg : Grew w w' v v' := by
    refine ⟨⟨h3.os, h3.tape, h3.output, Nat.le_trans (by simp) h3.size, fun k hk hne => (h3.block k (by simp; omega) hne).trans (Below.heap_alloc w _ k hk)⟩, ?_⟩
    rcases h4 with e | e
    · exact .inl e
    · exact .inr ⟨_, e, by simp⟩
  refine wpList_plain hgd fun K hK => ?_
  unfold Oper.wp execOp
  simp only [ho, resolve, invoke, builtin, Sem.run_bind, Sem.run_pure, Result.andThen_ok, List.map_toArray, List.map_cons, List.map_nil, hs, hx, hrun]
  exact hK _ _ (h v' w' (by unfold OwnB; rw [bv_append, List.length_append]; exact h2) hg hg.grown.size)

theorem own_new (w : World) (cs : Array Value) (l : List UInt8) (n : Nat) (h : cs = (bv l).toArray) (hn : n = l.length) (hl : l.length ≤ 1099511627776) :
    OwnB (w.alloc (.cells cs 5)) w.heap.size (.slice (some ⟨w.heap.size, 0, none⟩) n n) l := by
  subst h hn
  exact ⟨by simp [bv], .inr ⟨w.heap.size, l.length, _, rfl, Nat.le_refl _, heap_alloc_new w _, Nat.le_refl _, by simp only [maxLen]; omega, by simp [bv], by rw [List.take_of_length_le (by simp [bv])]⟩⟩

theorem step_app {W : World} {ops : Array Oper} {o : Oper} {a : Act} {K : Act → World → Prop} {Q : Exit → Act → World → Prop} {E : Prop} (hgd : o.guard = none) (s x : Operand)
    (ho : o.op = .call { callee := .builtin .append, args := #[s, x], argTypes := #[24, 24] })
    (base : Nat) (v : Value) (l r : List UInt8) (g m c : Nat) (hs : a.eval s = v) (hx : a.eval x = .slice (some ⟨g, 0, none⟩) m c) (hblk : W.heap[g]? = some (.cells (bv r).toArray 5 (0, 0))) (hm : m = r.length)
    (hown : OwnB W base v l) (hb : base ≤ W.heap.size) (hlen : l.length + r.length ≤ 1099511627776)
    (h : ∀ v' w', OwnB w' base v' (l ++ r) → Grew W w' v v' → W.heap.size ≤ w'.heap.size → K (a.put o.dst v') w') :
    if Region.wanted o (yielded ops a.tmps) = true then Oper.wp Try.prog o a W K Q else E := by
  obtain ⟨i, hi, hz, hsz, hby⟩ := info_parts u8_info
  subst hm
  have hcell : ∀ j u, (bv r)[j]? = some u → W.cell? ((⟨g, 0, none⟩ : Addr).add j) = some u := by
    intro j u hu
    have hadd : (⟨g, 0, none⟩ : Addr).add j = ⟨g, j, none⟩ := by unfold Addr.add; split <;> simp_all
    rw [hadd, cell_of_row _ _ j _ _ (0, 0) hblk]
    simpa using hu
  obtain ⟨v', w', hrun, h2, h3, -, h4⟩ := run_append_own_at (P := Try.prog) W base 24 o.type 5 i (.int .u8 0) 1 1 Try.underlying24 hi hz hsz hby rfl (by omega)
    v l.length (bv l) hown ⟨g, 0, none⟩ r.length c (bv r) (by simp [bv]) hcell (by simp [bv, Value.oneCell']) (by simp only [maxLen]; omega) (by omega) hb
  have hg : Grew W w' v v' := ⟨h3, h4.imp id fun e => ⟨_, e, Nat.le_refl _⟩⟩
  have hw : Region.wanted o (yielded ops a.tmps) = true := by simp [Region.wanted, hgd]
  rw [if_pos hw]
  unfold Oper.wp execOp
  simp only [ho, resolve, invoke, builtin, Sem.run_bind, Sem.run_pure, Result.andThen_ok, List.map_toArray, List.map_cons, List.map_nil, hs, hx, hrun]
  exact h v' w' (by unfold OwnB; rw [bv_append, List.length_append]; exact h2) hg hg.grown.size

/-- The value v is a slice of bytes that reads as l, in a block below B. -/
def RdB (w : World) (B : Nat) (v : Value) (l : List UInt8) : Prop :=
  ∃ A c, v = .slice A l.length c ∧ l.length ≤ c ∧ c ≤ 9223372036854775807 ∧ (0 < l.length → ∃ b o, A = some ⟨b, o, none⟩ ∧ b < B ∧
    ∀ (k : Nat) (u : UInt8), l[k]? = some u → w.cell? ⟨b, o + k, none⟩ = some (.int .u8 (u.toNat : Int)))

theorem RdB.below {w w' : World} {B : Nat} {v : Value} {l : List UInt8} (h : RdB w B v l) (hb : Below B w w') : RdB w' B v l := by
  obtain ⟨A, c, rfl, h1, h2, h3⟩ := h
  refine ⟨A, c, rfl, h1, h2, fun hp => ?_⟩
  obtain ⟨b, o, rfl, hB, hc⟩ := h3 hp
  exact ⟨b, o, rfl, hB, fun k p hk => (hb.cell (p := ⟨b, _, none⟩) hB).trans (hc k p hk)⟩
theorem RdB.more {w : World} {B B' : Nat} {v : Value} {l : List UInt8} (h : RdB w B v l) (hB : B ≤ B') : RdB w B' v l := by
  obtain ⟨A, c, rfl, h1, h2, h3⟩ := h
  refine ⟨A, c, rfl, h1, h2, fun hp => ?_⟩
  obtain ⟨b, o, rfl, hb, hc⟩ := h3 hp
  exact ⟨b, o, rfl, by omega, hc⟩
theorem RdB.on {w w' : World} {v : Value} {l : List UInt8} (h : RdB w w.heap.size v l) (hb : Below w.heap.size w w') : RdB w' w'.heap.size v l := (h.below hb).more hb.size
theorem RdB.nil (w : World) (B : Nat) : RdB w B (.slice none 0 0) [] := ⟨none, 0, rfl, by simp, by omega, fun h => absurd h (by simp)⟩
theorem RdB.drew {w : World} {B : Nat} {v : Value} {l : List UInt8} (h : RdB w B v l) : RdB w.drew B v l := h

theorem own_cap {w : World} {base : Nat} {v : Value} {l : List UInt8} (h : OwnB w base v l) : ∃ A c, v = .slice A l.length c ∧ l.length ≤ c ∧ c ≤ maxLen ∧ (0 < l.length → ∃ b o, A = some ⟨b, o, none⟩ ∧ b < w.heap.size ∧
    ∀ (k : Nat) (u : UInt8), l[k]? = some u → w.cell? ⟨b, o + k, none⟩ = some (.int .u8 (u.toNat : Int))) := by
  rcases h.2 with ⟨rfl, hn⟩ | ⟨g, cap, cur, rfl, hb, hg, hnc, hcm, hcs, htake⟩
  · exact ⟨none, 0, by rw [hn], by omega, by simp [maxLen], by omega⟩
  · refine ⟨_, cap, rfl, hnc, hcm, fun hp => ⟨g, 0, rfl, (Array.getElem?_eq_some_iff.1 hg).1, fun k u hk => ?_⟩⟩
    have hkl : k < l.length := (List.getElem?_eq_some_iff.1 hk).1
    rw [cell_of_row _ _ _ _ _ (0, 0) hg]
    have : (bv l)[k]? = some (.int .u8 (u.toNat : Int)) := by simp [bv, hk]
    rw [← htake, List.getElem?_take, if_pos (by omega)] at this
    simpa using this

theorem OwnB.rd {w : World} {base : Nat} {v : Value} {l : List UInt8} (h : OwnB w base v l) : RdB w w.heap.size v l := by
  obtain ⟨A, c, e, h1, h2, h3⟩ := own_cap h
  exact ⟨A, c, e, h1, by simpa [maxLen] using h2, h3⟩

/-- Bytes as a text, in whatever world they read so. -/
theorem conv_str {w : World} {A : Option Addr} {c : Nat} {l : List UInt8} (h : 0 < l.length → ∃ b o, A = some ⟨b, o, none⟩ ∧ ∀ (k : Nat) (u : UInt8), l[k]? = some u → w.cell? ⟨b, o + k, none⟩ = some (.int .u8 (u.toNat : Int))) :
    (convert 24 9 (.slice A l.length c)).run Try.prog w = .ok (.string ⟨l.toArray⟩) w := by
  rcases Nat.eq_zero_or_pos l.length with h0 | h0
  · have hl : l = [] := List.eq_nil_of_length_eq_zero h0
    subst hl
    cases A with
    | none => exact run_convert_bytes_nil w _ 5 Try.underlying24 Try.underlying5 _ _ _ Try.underlying9
    | some a =>
      rw [run_convert_bytes_string w _ _ 5 _ _ _ Try.underlying24 Try.underlying5 Try.underlying9, run_bytesToString w a _ _ [] (by simp [loadCells, loadCellsFrom])]
      rfl
  · obtain ⟨b, o, rfl, hc⟩ := h h0
    have := run_convert_bytes_arg (P := Try.prog) w 24 5 Try.underlying24 Try.underlying5 b o l.length c (l.map fun u => (u.toNat : Int)) (by simp) (fun i hi => by
      rw [hc i l[i] (List.getElem?_eq_getElem hi)]
      simp [hi]) 9 Try.underlying9
    rw [this]
    simp [strOfNums, Function.comp_def]

theorem RdB.str {w : World} {B : Nat} {v : Value} {l : List UInt8} (h : RdB w B v l) : (convert 24 9 v).run Try.prog w = .ok (.string ⟨l.toArray⟩) w := by
  obtain ⟨A, c, rfl, h1, h2, h3⟩ := h
  exact conv_str fun hp => let ⟨b, o, e, _, hc⟩ := h3 hp; ⟨b, o, e, hc⟩
theorem OwnB.str {w : World} {base : Nat} {v : Value} {l : List UInt8} (h : OwnB w base v l) : (convert 24 9 v).run Try.prog w = .ok (.string ⟨l.toArray⟩) w := by
  obtain ⟨A, c, rfl, h1, h2, h3⟩ := own_cap h
  exact conv_str fun hp => let ⟨b, o, e, _, hc⟩ := h3 hp; ⟨b, o, e, hc⟩

/-- append of bytes that are read to an owned row. -/
theorem wpl_app_rd {W : World} {ops : Array Oper} {rest : List Oper} {o : Oper} {a : Act} {Q : Exit → Act → World → Prop} (hgd : o.guard = none) (s x : Operand)
    (ho : o.op = .call { callee := .builtin .append, args := #[s, x], argTypes := #[24, 24] })
    (base B : Nat) (v u : Value) (l r : List UInt8) (hs : a.eval s = v) (hx : a.eval x = u) (hown : OwnB W base v l) (hrd : RdB W B u r) (hr : 0 < r.length) (hb : base ≤ W.heap.size) (hlen : l.length + r.length ≤ 1099511627776)
    (h : ∀ v' w', OwnB w' base v' (l ++ r) → Grew W w' v v' → W.heap.size ≤ w'.heap.size → wpList Try.prog ops Q rest (a.put o.dst v') w') :
    wpList Try.prog ops Q (o :: rest) a W := by
  obtain ⟨A, c, rfl, _, _, hc⟩ := hrd
  obtain ⟨g, off, rfl, _, hc⟩ := hc hr
  refine wpl_appg_at hgd s x ho Try.underlying24 u8_info rfl (by omega) v l.length (bv l) g off r.length c (bv r) hs hx (by simp [bv]) ?_ (by simp [bv, Value.oneCell']) hown (by omega) (by omega) hb ?_
  · intro j u hu
    simp only [bv, List.getElem?_map, Option.map_eq_some_iff] at hu
    obtain ⟨y, hy, rfl⟩ := hu
    exact hc j y hy
  · intro v' w' h1 h2 h3
    exact h v' w' (by unfold OwnB; rw [bv_append, List.length_append]; exact h1) h2 h3

/-- append of whatever bytes to an owned row. -/
theorem wpl_app_bytes {W : World} {ops : Array Oper} {rest : List Oper} {o : Oper} {a : Act} {Q : Exit → Act → World → Prop} (hgd : o.guard = none) (s x : Operand)
    (ho : o.op = .call { callee := .builtin .append, args := #[s, x], argTypes := #[24, 24] })
    (base B : Nat) (v u : Value) (l r : List UInt8) (hs : a.eval s = v) (hx : a.eval x = u) (hown : OwnB W base v l) (hrd : RdB W B u r) (hb : base ≤ W.heap.size) (hlen : l.length + r.length ≤ 1099511627776)
    (h : ∀ v' w', OwnB w' base v' (l ++ r) → Grew W w' v v' → W.heap.size ≤ w'.heap.size → wpList Try.prog ops Q rest (a.put o.dst v') w') :
    wpList Try.prog ops Q (o :: rest) a W := by
  by_cases hr : 0 < r.length
  · exact wpl_app_rd hgd s x ho base B v u l r hs hx hown hrd hr hb hlen h
  · have hr0 : r = [] := List.eq_nil_of_length_eq_zero (by omega)
    subst hr0
    obtain ⟨A, c, rfl, _, _, _⟩ := hrd
    refine wpl_appg_zero hgd s x ho Try.underlying24 u8_info rfl (by omega) v l.length (bv l) A c hs hx hown (by omega) (by omega) hb ?_
    intro v' w' h1 h2 h3
    exact h v' w' (by rw [List.append_nil]; exact h1) h2 h3

theorem u8_size (w : World) : (Go.sizeOf 5).run Try.prog w = .ok 1 w := by kernel_rfl

/-- 'v[k:]': what it is, in whatever world, and that it reads so. -/
theorem sl_tail {w : World} {B : Nat} {v : Value} {l : List UInt8} (h : RdB w B v l) (k : Nat) (z : Int) (hz : z = (k : Int)) (hk : k ≤ l.length) :
    ∃ A c, (∀ W, (Instr.slice 24 v (some (.int .i64 z)) none none).run Try.prog W = .ok (.slice A (l.length - k) c) W) ∧ RdB w B (.slice A (l.length - k) c) (l.drop k) := by
  subst hz
  obtain ⟨A, c, rfl, h1, h2, h3⟩ := h
  have ht : Try.prog.underlying 24 = some (.slice (Try.prog.elem 24)) := by simp [Program.elem, Try.underlying24]
  have he : Try.prog.elem 24 = 5 := by simp [Program.elem, Try.underlying24]
  refine ⟨if c = k then A else A.map (·.add k), c - k, fun W => ?_, ⟨_, c - k, by rw [List.length_drop], by rw [List.length_drop]; omega, by omega, fun hp => ?_⟩⟩
  · rw [run_slice_l W _ _ _ _ ht _ _ (by omega) (by omega), he, u8_size]
    simp [Result.andThen, sliced]
  · rw [List.length_drop] at hp
    obtain ⟨b, o, rfl, hb, hc⟩ := h3 (by omega)
    refine ⟨b, o + k, ?_, hb, fun j u hu => ?_⟩
    · rw [if_neg (by omega)]; simp [addr_plain]
    · rw [Nat.add_assoc]
      exact hc (k + j) u (by rw [List.getElem?_drop] at hu; exact hu)

/-- The same, and that it lies in the same block. -/
theorem sl_tail_own {w : World} {B : Nat} {v : Value} {l : List UInt8} (h : RdB w B v l) (k : Nat) (z : Int) (hz : z = (k : Int)) (hk : k ≤ l.length) :
    ∃ A c, (∀ W, (Instr.slice 24 v (some (.int .i64 z)) none none).run Try.prog W = .ok (.slice A (l.length - k) c) W) ∧ RdB w B (.slice A (l.length - k) c) (l.drop k) ∧ ∀ j, (Value.slice A (l.length - k) c).ownBlock = some j → v.ownBlock = some j := by
  subst hz
  obtain ⟨A, c, rfl, h1, h2, h3⟩ := h
  have ht : Try.prog.underlying 24 = some (.slice (Try.prog.elem 24)) := by simp [Program.elem, Try.underlying24]
  have he : Try.prog.elem 24 = 5 := by simp [Program.elem, Try.underlying24]
  refine ⟨if c = k then A else A.map (·.add k), c - k, fun W => ?_, ⟨_, c - k, by rw [List.length_drop], by rw [List.length_drop]; omega, by omega, fun hp => ?_⟩, ?_⟩
  · rw [run_slice_l W _ _ _ _ ht _ _ (by omega) (by omega), he, u8_size]
    simp [Result.andThen, sliced]
  · rw [List.length_drop] at hp
    obtain ⟨b, o, rfl, hb, hc⟩ := h3 (by omega)
    refine ⟨b, o + k, ?_, hb, fun j u hu => ?_⟩
    · rw [if_neg (by omega)]; simp [addr_plain]
    · rw [Nat.add_assoc]
      exact hc (k + j) u (by rw [List.getElem?_drop] at hu; exact hu)
  · intro j hj
    cases A with
    | none => simp [Value.ownBlock] at hj
    | some a =>
      obtain ⟨b, o, s⟩ := a
      by_cases hck : c = k
      · simpa [hck, Value.ownBlock] using hj
      · simp only [if_neg hck, Option.map_some, Value.ownBlock, Addr.add] at hj ⊢
        split at hj <;> exact hj

/-- 'v[k:m]': what it is, in whatever world, and that it reads so. -/
theorem sl_mid {w : World} {B : Nat} {v : Value} {l : List UInt8} (h : RdB w B v l) (k m : Nat) (y z : Int) (hy : y = (k : Int)) (hz : z = (m : Int)) (hkm : k ≤ m) (hm : m ≤ l.length) :
    ∃ A c, (∀ W, (Instr.slice 24 v (some (.int .i64 y)) (some (.int .i64 z)) none).run Try.prog W = .ok (.slice A (m - k) c) W) ∧ RdB w B (.slice A (m - k) c) ((l.drop k).take (m - k)) := by
  subst hy hz
  obtain ⟨A, c, rfl, h1, h2, h3⟩ := h
  have ht : Try.prog.underlying 24 = some (.slice (Try.prog.elem 24)) := by simp [Program.elem, Try.underlying24]
  have he : Try.prog.elem 24 = 5 := by simp [Program.elem, Try.underlying24]
  have hl : ((l.drop k).take (m - k)).length = m - k := by rw [List.length_take, List.length_drop]; omega
  refine ⟨if c = k then A else A.map (·.add k), c - k, fun W => ?_, ⟨_, c - k, by rw [hl], by rw [hl]; omega, by omega, fun hp => ?_⟩⟩
  · rw [run_slice_lh W _ _ _ _ ht _ _ _ _ (by omega) (by omega) (by omega), he, u8_size]
    simp [Result.andThen, sliced]
  · rw [hl] at hp
    obtain ⟨b, o, rfl, hb, hc⟩ := h3 (by omega)
    refine ⟨b, o + k, ?_, hb, fun j u hu => ?_⟩
    · rw [if_neg (by omega)]; simp [addr_plain]
    · rw [Nat.add_assoc]
      rw [List.getElem?_take] at hu
      split at hu
      · rw [List.getElem?_drop] at hu; exact hc (k + j) u hu
      · cases hu

/-- The same, and that it lies in the same block. -/
theorem sl_mid_own {w : World} {B : Nat} {v : Value} {l : List UInt8} (h : RdB w B v l) (k m : Nat) (y z : Int) (hy : y = (k : Int)) (hz : z = (m : Int)) (hkm : k ≤ m) (hm : m ≤ l.length) :
    ∃ A c, (∀ W, (Instr.slice 24 v (some (.int .i64 y)) (some (.int .i64 z)) none).run Try.prog W = .ok (.slice A (m - k) c) W) ∧ RdB w B (.slice A (m - k) c) ((l.drop k).take (m - k)) ∧ ∀ j, (Value.slice A (m - k) c).ownBlock = some j → v.ownBlock = some j := by
  subst hy hz
  obtain ⟨A, c, rfl, h1, h2, h3⟩ := h
  have ht : Try.prog.underlying 24 = some (.slice (Try.prog.elem 24)) := by simp [Program.elem, Try.underlying24]
  have he : Try.prog.elem 24 = 5 := by simp [Program.elem, Try.underlying24]
  have hl : ((l.drop k).take (m - k)).length = m - k := by rw [List.length_take, List.length_drop]; omega
  refine ⟨if c = k then A else A.map (·.add k), c - k, fun W => ?_, ⟨_, c - k, by rw [hl], by rw [hl]; omega, by omega, fun hp => ?_⟩, ?_⟩
  · rw [run_slice_lh W _ _ _ _ ht _ _ _ _ (by omega) (by omega) (by omega), he, u8_size]
    simp [Result.andThen, sliced]
  · rw [hl] at hp
    obtain ⟨b, o, rfl, hb, hc⟩ := h3 (by omega)
    refine ⟨b, o + k, ?_, hb, fun j u hu => ?_⟩
    · rw [if_neg (by omega)]; simp [addr_plain]
    · rw [Nat.add_assoc]
      rw [List.getElem?_take] at hu
      split at hu
      · rw [List.getElem?_drop] at hu; exact hc (k + j) u hu
      · cases hu
  · intro j hj
    cases A with
    | none => simp [Value.ownBlock] at hj
    | some a =>
      obtain ⟨b, o, s⟩ := a
      by_cases hck : c = k
      · simpa [hck, Value.ownBlock] using hj
      · simp only [if_neg hck, Option.map_some, Value.ownBlock, Addr.add] at hj ⊢
        split at hj <;> exact hj

theorem cells_u8 : Try.prog.cellsOf 5 = 1 := by kernel_rfl

set_option maxRecDepth 100000 in
theorem open_bytes {H : Type} {enc : TypeId × Value → H} {W : World} {v : Value} {d : DataW H} {p : List MemPlace} {r : Reach} {b0 : Nat} (hval : Value.okWide Try.prog W r b0 24 v)
    (h : DataW.Trod enc Try.prog W 0 (fun _ => true) true 24 v d p) (hlt : ∀ x ∈ p, x.block < W.heap.size) :
    ∃ l : List UInt8, RdB W W.heap.size v l := by
  obtain ⟨a0, len, cap, rfl⟩ := okWide_slice Try.underlying24 hval
  obtain ⟨fuel, hf⟩ := h
  rcases open_ints Try.underlying24 Try.underlying5 cells_u8 hf with ⟨hcs, hx⟩ | ⟨a, len', cap', zs, hcs, _, hl, hm, hz, hx, hcell, hwz⟩
  · simp [Value.cells] at hcs
    obtain ⟨rfl, rfl, rfl⟩ := hcs
    exact ⟨[], RdB.nil _ _⟩
  · simp [Value.cells] at hcs
    obtain ⟨rfl, rfl, rfl⟩ := hcs
    simp only [Prod.mk.injEq] at hx
    obtain ⟨rfl, rfl⟩ := hx
    simp only [if_true] at hz
    refine ⟨(zs.take len).map fun n => UInt8.ofNat n.toNat, some a, cap, ?_, ?_, by simpa [maxLen] using hm, fun hp => ?_⟩
    · rw [List.length_map, List.length_take, Nat.min_eq_left (by omega)]
    · rw [List.length_map, List.length_take]; omega
    · rw [List.length_map, List.length_take, Nat.min_eq_left (by omega)] at hp
      obtain ⟨b, off, spot⟩ := a
      have hspot : spot = none := by simpa [Addr.add] using World.cell?_spot (hcell 0 (by omega))
      subst hspot
      refine ⟨b, off, rfl, hlt (.cell b off) (MemPlace.mem_row.2 ⟨0, by omega, by simp⟩), fun k u hu => ?_⟩
      rw [List.getElem?_map, Option.map_eq_some_iff] at hu
      obtain ⟨n, hn, rfl⟩ := hu
      rw [List.getElem?_take] at hn
      split at hn
      · have hkl := (List.getElem?_eq_some_iff.1 hn).1
        have h1 := hcell k hkl
        rw [addr_plain] at h1
        rw [h1, List.getD_eq_getElem?_getD, hn]
        have hw := wf_u8 (hwz n (List.mem_of_getElem? hn))
        simp only [Option.getD_some]
        congr 2
        rw [UInt8.toNat_ofNat']
        omega
      · cases hn

theorem sl_head {w : World} {B : Nat} {v : Value} {l : List UInt8} (h : RdB w B v l) (m : Nat) (z : Int) (hz : z = (m : Int)) (hm : m ≤ l.length) :
    ∃ A c, (∀ W, (Instr.slice 24 v none (some (.int .i64 z)) none).run Try.prog W = .ok (.slice A m c) W) ∧ RdB w B (.slice A m c) (l.take m) := by
  subst hz
  obtain ⟨A, c, rfl, h1, h2, h3⟩ := h
  have ht : Try.prog.underlying 24 = some (.slice (Try.prog.elem 24)) := by simp [Program.elem, Try.underlying24]
  have he : Try.prog.elem 24 = 5 := by simp [Program.elem, Try.underlying24]
  have hl : (l.take m).length = m := by rw [List.length_take]; omega
  refine ⟨if c = 0 then A else A.map (·.add 0), c, fun W => ?_, ⟨_, c, by rw [hl], by rw [hl]; omega, by omega, fun hp => ?_⟩⟩
  · rw [run_slice_h W _ _ _ _ ht _ _ (by omega) (by omega), he, u8_size]
    simp [Result.andThen, sliced]
  · rw [hl] at hp
    obtain ⟨b, o, rfl, hb, hc⟩ := h3 (by omega)
    refine ⟨b, o, ?_, hb, fun j u hu => ?_⟩
    · rw [if_neg (by omega)]; simp [Addr.add]
    · rw [List.getElem?_take] at hu
      split at hu
      · exact hc j u hu
      · cases hu

/-- A text as bytes: new memory that reads so. -/
theorem str_bytes (s : ByteArray) (w : World) (hs : s.size ≤ 9223372036854775807) :
    ∃ A c w1, (convert 9 24 (.string s)).run Try.prog w = .ok (.slice A s.size c) w1 ∧ RdB w1 w1.heap.size (.slice A s.size c) s.data.toList ∧ Below w.heap.size w w1 ∧ (Value.slice A s.size c).ownBlock = some w.heap.size := by
  refine ⟨some ⟨w.heap.size, 0, none⟩, grownCap w s.size 0 5, Lib.bytesWorld w 5 s, Lib.run_convert_string_bytes w _ _ 5 s Try.underlying9 Try.underlying24 Try.underlying5, ?_, ?_, rfl⟩
  · have hsz : s.data.toList.length = s.size := by simp
    refine ⟨_, _, by rw [hsz], by rw [hsz]; exact grownCap_ge w s.size 0 _, by have := grownCap_le_maxLen w s.size 0 5 (by simp only [maxLen]; omega); simpa [maxLen] using this, fun hp => ⟨w.heap.size, 0, rfl, by rw [Lib.bytesWorld_size]; omega, fun k u hu => ?_⟩⟩
    have hk : k < s.size := by rw [← hsz]; exact (List.getElem?_eq_some_iff.1 hu).1
    rw [Nat.zero_add, Lib.bytesWorld_cell w _ s k hk, List.getD_eq_getElem?_getD, hu]
    rfl
  · refine ⟨?_, ?_, ?_, by rw [Lib.bytesWorld_size]; omega, fun k hk => Lib.bytesWorld_at_old w _ s k hk⟩
    all_goals (simp [Lib.bytesWorld, World.freeze]; try rfl)

theorem u8_beq {c : UInt8} {d : UInt8} {n : Int} (hn : (d.toNat : Int) = n) : ((c.toNat : Int) == n) = decide (c = d) := by
  subst hn
  by_cases h : c = d
  · subst h; simp
  · have : (c.toNat : Int) ≠ (d.toNat : Int) := fun e => h (UInt8.toNat_inj.1 (by omega))
    rw [beq_eq_false_iff_ne.2 this]; simp [h]

theorem bcell {B : Nat} {W w1 : World} (hb : Below B W w1) : (∀ b o, b < B → w1.cell? ⟨b, o, none⟩ = W.cell? ⟨b, o, none⟩) ∧ (∀ b o, b < B → w1.frozen? ⟨b, o, none⟩ = W.frozen? ⟨b, o, none⟩) :=
  ⟨fun b o h => hb.cell (p := ⟨b, o, none⟩) h, fun b o h => hb.frozen (p := ⟨b, o, none⟩) h⟩

theorem take_snoc (s : ByteArray) (k : Nat) (h : k < s.size) : s.data.toList.take (k + 1) = s.data.toList.take k ++ [s[k]] := by
  rw [List.take_succ_eq_append_getElem (by simpa using h)]; rfl

end Go.Proofs.Ytecomnklofceaaa
/- Bytes: append of a text to a row that the call owns; slices of numbers, of texts, of whatever takes one cell, that read as a list. Program-bound by its types' names alone. -/
namespace Go.Proofs.Ytecomnklofceaaa
open Go.RowKit Go.ChangeShapes Go.WideShapes Go.ChangeAt Go.Deep
set_option linter.unusedVariables false

/-- append of a text to an owned row. -/
theorem wpl_app_str {w : World} {ops : Array Oper} {rest : List Oper} {o : Oper} {a : Act} {Q : Exit → Act → World → Prop} (hgd : o.guard = none) (s x : Operand)
    (ho : o.op = .call { callee := .builtin .append, args := #[s, x], argTypes := #[24, 9] })
    (base : Nat) (v : Value) (l : List UInt8) (r : ByteArray) (hs : a.eval s = v) (hx : a.eval x = .string r)
    (hown : OwnB w base v l) (hb : base ≤ w.heap.size) (hlen : l.length + r.size ≤ 1099511627776)
    (h : ∀ v' w', OwnB w' base v' (l ++ r.data.toList) → Below base w w' → wpList Try.prog ops Q rest (a.put o.dst v') w') :
    wpList Try.prog ops Q (o :: rest) a w := by
  obtain ⟨i, hi, hz, hsz, hby⟩ := info_parts u8_info
  refine Lib.wpList_append_own_string w hgd s x 24 9 ho base 5 i Try.underlying24 Try.underlying9 hi hz hsz hby v l.length (bv l) hs hown r hx (by simp only [maxLen]; omega) (by omega) hb ?_
  intro v' w' h1 h2 _
  refine h v' w' ?_ ((Below.refl base w).grown h2 hb (OwnB.base hown))
  have hl : r.data.toList.length = r.size := by simp
  unfold OwnB
  rw [bv_append, List.length_append, hl]
  exact h1

theorem wpl_app_bytes_b {W : World} {ops : Array Oper} {rest : List Oper} {o : Oper} {a : Act} {Q : Exit → Act → World → Prop} (hgd : o.guard = none) (s x : Operand)
    (ho : o.op = .call { callee := .builtin .append, args := #[s, x], argTypes := #[24, 24] })
    (base B : Nat) (v u : Value) (l r : List UInt8) (hs : a.eval s = v) (hx : a.eval x = u) (hown : OwnB W base v l) (hrd : RdB W B u r) (hb : base ≤ W.heap.size) (hlen : l.length + r.length ≤ 1099511627776)
    (h : ∀ v' w', OwnB w' base v' (l ++ r) → Below base W w' → wpList Try.prog ops Q rest (a.put o.dst v') w') :
    wpList Try.prog ops Q (o :: rest) a W :=
  wpl_app_bytes hgd s x ho base B v u l r hs hx hown hrd hb hlen fun v' w' h1 h2 _ => h v' w' h1 (h2.below hb (OwnB.base hown))

theorem OwnB.on {w w' : World} {base : Nat} {v : Value} {l : List UInt8} (h : OwnB w base v l) (hb : Below w.heap.size w w') : OwnB w' base v l := by
  refine ⟨h.1, ?_⟩
  rcases h.2 with h2 | ⟨g, cap, cur, e, hg, hc, h3⟩
  · exact .inl h2
  · refine .inr ⟨g, cap, cur, e, hg, ?_, h3⟩
    rw [hb.block g (Array.getElem?_eq_some_iff.1 hc).1]; exact hc
theorem OwnB.keep {w w' : World} {base : Nat} {v : Value} {l : List UInt8} {row : Option Nat} (h : OwnB w base v l) (hg : w.grownBy w' row) (hne : v.ownBlock = none ∨ v.ownBlock ≠ row) : OwnB w' base v l := World.ownsRow.kept h hg hne

/-- The value v is a slice, of elements of one cell each, that reads as l, in a block below B. -/
def RdV {α : Type} (f : α → Value) (w : World) (B : Nat) (v : Value) (l : List α) : Prop :=
  ∃ A c, v = .slice A l.length c ∧ l.length ≤ c ∧ c ≤ 9223372036854775807 ∧ (0 < l.length → ∃ b o, A = some ⟨b, o, none⟩ ∧ b < B ∧
    ∀ (k : Nat) (u : α), l[k]? = some u → w.cell? ⟨b, o + k, none⟩ = some (f u))

section
variable {α : Type} {f : α → Value}
theorem RdV.below {w w' : World} {B : Nat} {v : Value} {l : List α} (h : RdV f w B v l) (hb : Below B w w') : RdV f w' B v l := by
  obtain ⟨A, c, rfl, h1, h2, h3⟩ := h
  refine ⟨A, c, rfl, h1, h2, fun hp => ?_⟩
  obtain ⟨b, o, rfl, hB, hc⟩ := h3 hp
  exact ⟨b, o, rfl, hB, fun k p hk => (hb.cell (p := ⟨b, _, none⟩) hB).trans (hc k p hk)⟩
theorem RdV.more {w : World} {B B' : Nat} {v : Value} {l : List α} (h : RdV f w B v l) (hB : B ≤ B') : RdV f w B' v l := by
  obtain ⟨A, c, rfl, h1, h2, h3⟩ := h
  refine ⟨A, c, rfl, h1, h2, fun hp => ?_⟩
  obtain ⟨b, o, rfl, hb, hc⟩ := h3 hp
  exact ⟨b, o, rfl, by omega, hc⟩
theorem RdV.on {w w' : World} {v : Value} {l : List α} (h : RdV f w w.heap.size v l) (hb : Below w.heap.size w w') : RdV f w' w'.heap.size v l := (h.below hb).more hb.size
theorem RdV.nil (w : World) (B : Nat) : RdV f w B (.slice none 0 0) [] := ⟨none, 0, rfl, by simp, by omega, fun h => absurd h (by simp)⟩
theorem RdV.drew {w : World} {B : Nat} {v : Value} {l : List α} (h : RdV f w B v l) : RdV f w.drew B v l := h
/-- A literal. -/
theorem RdV.lit (w : World) (cs : Array Value) (t : TypeId) (l : List α) (n B : Nat) (h : cs = (l.map f).toArray) (hn : n = l.length) (hB : w.heap.size < B) (hl : l.length ≤ 1099511627776) :
    RdV f (w.alloc (.cells cs t)) B (.slice (some ⟨w.heap.size, 0, none⟩) n n) l := by
  subst h hn
  refine ⟨_, l.length, rfl, Nat.le_refl _, by omega, fun _ => ⟨_, _, rfl, hB, fun k u hk => ?_⟩⟩
  rw [cell_of_row _ _ _ _ _ (0, 0) (heap_alloc_new w _)]
  simp [hk]
end

/-- A slice of numbers; of texts. -/
def RdI : World → Nat → Value → List Int → Prop := RdV (fun n => .int .i64 n)
def RdS : World → Nat → Value → List ByteArray → Prop := RdV (fun s => .string s)

end Go.Proofs.Ytecomnklofceaaa
