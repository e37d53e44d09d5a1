/- Program-free laws: what append does to a row that the call owns, as a step of the walk and of a region whose order is open; a call by its contract as such a step. -/
import Derived.Test.YtlpakooogbaclaaBA
import Derived.Test.YtlpakooogbaclaaBE
import Derived.WalkKit
import Derived.Maps.AppendAt
import Derived.Deep.RegionLaw
import Derived.Deep.Draws
import Derived.ProofKit
import Derived.OpenShut
import Derived.Carry
import Derived.SizedLaws
import Derived.Deep.Slices
import Derived.Deep.Strs
import Derived.Test.YtlpakooogbaclaaRows
import Derived.Lib.Hide
import Derived.WalkLawsBesides
import Derived.Deep.QuietTactic
import Derived.BigQuiet
import Derived.Handy
import Derived.Laws.BitsAllLaws
import Derived.ChangeMaps5
import Derived.Laws.ResultCell
import Derived.Orders
import Derived.RegionTactic
import Derived.Below
import Derived.Laws.IdiomCopy
namespace Go.Proofs.Ytlpakooogbaclaa
open Go.RowKit
set_option linter.unusedVariables false


/-- What turned nothing of the old has grown any row. -/
theorem Grew.after_below {a b c : World} {v v' : Value} (h : Below a.heap.size a b) (k : Grew b c v v') (hv : ∀ g, v.ownBlock = some g → g < a.heap.size) : Grew a c v v' := by
  refine ⟨⟨k.grown.os.trans h.os, k.grown.tape.trans h.tape, k.grown.output.trans h.output, Nat.le_trans h.size k.grown.size, fun i hi hne => ?_⟩, ?_⟩
  · exact (k.grown.block i (Nat.lt_of_lt_of_le hi h.size) hne).trans (h.block i hi)
  · exact k.own.imp id fun ⟨g, e, hg⟩ => ⟨g, e, Nat.le_trans h.size hg⟩



section
variable {P : Program} {W : World} {base : Nat} {t ty e : TypeId} {i : TypeInfo} {z : Value} {size bytes : Nat}




variable {ops : Array Oper} {rest : List Oper} {o : Oper} {a : Act} {Q : Exit → Act → World → Prop} {K : Act → World → Prop} {E : Prop}


theorem step_appg (hgd : o.guard = none) (s x : Operand) (ho : o.op = .call { callee := .builtin .append, args := #[s, x], argTypes := #[t, t] })
    (ht : P.underlying t = some (.slice e)) (hinfo : (P.info? e).map (fun i => (i.zero, i.size, i.bytes)) = some (some z, size, bytes)) (hzs : z.cells.size = size) (hsz : 0 < size)
    (v : Value) (n : Nat) (xs : List Value) (g m c : Nat) (news : List Value) (hs : a.eval s = v) (hx : a.eval x = .slice (some ⟨g, 0, none⟩) m c) (hl : news.length = m * size)
    (hblk : W.heap[g]? = some (.cells news.toArray e (0, 0))) (h1 : ∀ u ∈ news, u.oneCell' = true) (hown : W.ownsRow base e size v n xs) (h63 : n + m ≤ 9223372036854775807) (hby : (n + m) * bytes ≤ 140737488355328) (hb : base ≤ W.heap.size)
    (h : ∀ v' w', w'.ownsRow base e size v' (n + m) (xs ++ news) → Grew W w' v v' → W.heap.size ≤ w'.heap.size → K (a.put o.dst v') w') :
    if Region.wanted o (yielded ops a.tmps) = true then Oper.wp P o a W K Q else E := by
  obtain ⟨v', w', hrun, h2, h3, h4⟩ := app_run (ty := o.type) ht hinfo hzs hsz v n xs hown g m c news hl hblk h1 h63 hby hb
  have hw : Region.wanted o (yielded ops a.tmps) = true := by simp [Region.wanted, hgd]
  rw [if_pos hw]
  unfold Oper.wp execOp
  simp only [ho, resolve, invoke, builtin, Sem.run_bind, Sem.run_pure, Result.andThen_ok, List.map_toArray, List.map_cons, List.map_nil, hs, hx, hrun]
  exact h v' w' h2 h3 h4


theorem step_call (hgd : o.guard = none) (f : FuncId) (xs : Array Operand) (ts : Array TypeId)
    (ho : o.op = .call { callee := .value (.func f), args := xs, argTypes := ts }) (vals : Array Value) (hv : xs.map a.eval = vals)
    (hcall : ∀ args w, (callFunc f args).run P w = .ok (.enter f args) w)
    (h : Calls P f vals W fun e w' => ∃ v, e = .returned v ∧ K (a.put o.dst v) w') :
    if Region.wanted o (yielded ops a.tmps) = true then Oper.wp P o a W K Q else E := by
  have hw : Region.wanted o (yielded ops a.tmps) = true := by simp [Region.wanted, hgd]
  rw [if_pos hw]
  obtain ⟨dst, op, type, pos, after, guard⟩ := o
  simp only at ho
  subst ho hv
  unfold Oper.wp
  rw [execOp_call_go, hcall, Oper.upon_enter]
  simp only [Array.empty_append, Array.append_empty]
  refine Calls.mono h fun e w' he => ?_
  obtain ⟨v, rfl, hk⟩ := he
  exact hk
end
end Go.Proofs.Ytlpakooogbaclaa
/- Program-free laws: append of nothing to a row that the call owns. -/
namespace Go.Proofs.Ytlpakooogbaclaa
open Go.RowKit
set_option linter.unusedVariables false

section
variable {P : Program} {W : World} {base : Nat} {t ty e : TypeId} {z : Value} {size bytes : Nat}
variable {ops : Array Oper} {rest : List Oper} {o : Oper} {a : Act} {Q : Exit → Act → World → Prop} {K : Act → World → Prop} {E : Prop}


end
end Go.Proofs.Ytlpakooogbaclaa
/- Program-free laws: from the walk of a law's function to its row. -/
namespace Go.Proofs.Ytlpakooogbaclaa
open Go.RowKit Go.ChangeShapes Go.WideShapes Go.ChangeAt
set_option linter.unusedVariables false

section
variable {H : Type} {enc : TypeId × Value → H} {P : Program}


end
end Go.Proofs.Ytlpakooogbaclaa
/- Endings that are equal; the program's own facts. -/
namespace Go.Proofs.Ytlpakooogbaclaa
open Go.RowKit Go.ChangeShapes Go.WideShapes Go.ChangeAt Go.Deep
set_option linter.unusedVariables false

theorem ret_str {a b : ByteArray} (h : a = b) : Ending.returned (.string a) = .returned (.string b) := by rw [h]

theorem ret_tup {a b : Array Value} (h : a = b) : Ending.returned (.tuple a) = .returned (.tuple b) := by rw [h]


/-- A cell of memory that was made just ahead, in a later world. -/
theorem made_cell {w w' : World} {cs : Array Value} {t : TypeId} (hb : Below (w.heap.size + 1) (w.alloc (.cells cs t)) w') (j : Nat) (u : Value) (hj : cs[j]? = some u) : w'.cell? ⟨w.heap.size, j, none⟩ = some u := by
  rw [hb.cell (p := ⟨w.heap.size, j, none⟩) (by simp), cell_of_row _ _ _ _ _ (0, 0) (heap_alloc_new w _), hj]
theorem made_frozen {w w' : World} {cs : Array Value} {t : TypeId} (hb : Below (w.heap.size + 1) (w.alloc (.cells cs t)) w') (j : Nat) : w'.frozen? ⟨w.heap.size, j, none⟩ = false := by
  rw [hb.frozen (p := ⟨w.heap.size, j, none⟩) (by simp)]
  unfold World.frozen?
  rw [heap_alloc_new w (.cells cs t)]
  simp
theorem cell_lt {w : World} {a : Addr} {v : Value} (h : w.cell? a = some v) : a.block < w.heap.size := by
  rcases Nat.lt_or_ge a.block w.heap.size with h' | h'
  · exact h'
  · simp [World.cell?, Array.getElem?_eq_none h'] at h
end Go.Proofs.Ytlpakooogbaclaa
/- Program-free: slices and rows of whatever elements, each of so many cells: that read as a list; that a call owns; append, stores. -/
namespace Go.Proofs.Ytlpakooogbaclaa
open Go.RowKit
set_option linter.unusedVariables false


section
variable {α : Type} (L : Lay α)

theorem Lay.all_nil : L.all [] = [] := rfl

end

section
variable {α : Type} {L : Lay α} {e : TypeId}





variable {P : Program}
end
end Go.Proofs.Ytlpakooogbaclaa
/- Program-free laws: a region whose order is open, walked once: operations that give the same in every later world are taken in the text's order; a call when nothing else is left to come up. -/
namespace Go.Proofs.Ytlpakooogbaclaa
open Go.RowKit
set_option linter.unusedVariables false

section
variable {P : Program} {ops : Array Oper} {Q : Exit → Act → World → Prop}

















end
end Go.Proofs.Ytlpakooogbaclaa
/- Program-free laws: a region whose order is open, walked once, where some of its operations (B) turn memory: what reads memory is taken first, in the worlds I that come up ahead of B; each of B waits for it. Moves and sums, which read no memory, are taken anywhere. -/
namespace Go.Proofs.Ytlpakooogbaclaa
open Go.RowKit
set_option linter.unusedVariables false

section
variable {P : Program} {ops : Array Oper} {Q : Exit → Act → World → Prop}









/-- One that is passed over. -/
theorem regk_skip {B : List Nat} {I : World → Prop} {w : World} (i d : Nat) {fuel : Nat} {listed : Array Bool} {T T' : Array Value} {ds : List Deferred} (hI : noB B listed = true → I w)
    (hiB : B.contains i = false) (hs : Region.noSelect ops = true) (hf : Region.free .any ops listed i = true) (hr : (Region.ready .any ops listed).contains i = true)
    (hQ : ∀ c a w, Q (.panic c) (a.put (some d) undef) w → Q (.panic c) a w)
    (hstep : ∀ o, ops[i]? = some o → o.dst = some d ∧ Region.wanted o (yielded ops T) = false)
    (hT : T.setIfInBounds d undef = T') (h : anyK P ops Q B I fuel (listed.setIfInBounds i true) ⟨T', ds⟩ w) : anyK P ops Q B I (fuel + 1) listed ⟨T, ds⟩ w := by
  have hi : ∃ o, ops[i]? = some o := by
    simp only [List.contains_iff_mem] at hr
    obtain ⟨_, o, ho, _⟩ := mem_ready.1 hr
    exact ⟨o, ho⟩
  obtain ⟨o, ho⟩ := hi
  obtain ⟨h1, h2⟩ := hstep o ho
  subst hT
  exact anyK_first0 ho (Region.noSelect_spec hs) hiB (by rw [h1]; exact hQ) fuel listed _ w hI (Region.free_spec ho hf) (by simpa using hr) (.inr ⟨h2, rfl⟩) (by rw [h1]; exact h)






end
end Go.Proofs.Ytlpakooogbaclaa
/- Program-free: append of a slice that reads as a list to a row that a call owns; copy of elements of so many cells; a row by its cells. -/
namespace Go.Proofs.Ytlpakooogbaclaa
open Go.RowKit
set_option linter.unusedVariables false

section
variable {α : Type} {L : Lay α} {e : TypeId} {P : Program}



/-- A block's cells, set one by one. -/
theorem heap_setCells (b : Nat) (t : TypeId) : ∀ (vs : List Value) (o : Nat) (w : World) (cur : Array Value), w.heap[b]? = some (.cells cur t (0, 0)) →
    ∃ cur', (w.setCells b o vs).heap[b]? = some (.cells cur' t (0, 0)) ∧ cur'.size = cur.size
  | [], _, w, cur, h => ⟨cur, h, rfl⟩
  | v :: r, o, w, cur, h => by
    obtain ⟨hlt, hk⟩ := Array.getElem?_eq_some_iff.1 h
    have hb : (w.setCell ⟨b, o, none⟩ v).heap[b]? = some (.cells (cur.setIfInBounds o v) t (0, 0)) := by
      show (w.heap.modify b _)[b]? = _
      rw [Array.getElem?_eq_getElem (by rw [Array.size_modify]; exact hlt), Array.getElem_modify_self, hk]
      rfl
    obtain ⟨cur', h1, h2⟩ := heap_setCells b t r (o + 1) (w.setCell ⟨b, o, none⟩ v) _ hb
    exact ⟨cur', h1, by rw [h2, Array.size_setIfInBounds]⟩
theorem grown_setCells (b : Nat) : ∀ (vs : List Value) (o : Nat) (w : World), w.grownBy (w.setCells b o vs) (some b)
  | [], _, w => World.grownBy.refl w _
  | v :: r, o, w => by
    refine World.grownBy.trans (b := w.setCell ⟨b, o, none⟩ v) ⟨rfl, rfl, rfl, Nat.le_of_eq (show w.heap.size = (w.heap.modify b _).size from by rw [Array.size_modify]), fun i hi hne => Below.heap_setCell w _ v i (fun e => hne (by rw [e]))⟩ (grown_setCells b r (o + 1) _)
/-- A row by its cells. -/
theorem OwnX.of_cells {w : World} {base g cap : Nat} {cur : Array Value} {l : List α} (hg : w.heap[g]? = some (.cells cur e (0, 0))) (hsz : cur.size = cap * L.sz) (hn : l.length ≤ cap) (hm : cap ≤ maxLen) (hb : base ≤ g)
    (hc : ∀ i u, (L.all l)[i]? = some u → w.cell? ⟨g, i, none⟩ = some u) : OwnX L e w base (.slice (some ⟨g, 0, none⟩) l.length cap) l := by
  refine ⟨L.all_length l, .inr ⟨g, cap, cur, rfl, hb, hg, hn, hm, hsz, ?_⟩⟩
  have hle : l.length * L.sz ≤ cur.size := by rw [hsz]; exact Nat.mul_le_mul_right _ hn
  apply List.ext_getElem?
  intro i
  rcases Nat.lt_or_ge i (l.length * L.sz) with hi | hi
  · have hil : i < (L.all l).length := by rw [L.all_length]; exact hi
    rw [List.getElem?_take, if_pos hi, List.getElem?_eq_getElem hil]
    have := hc i _ (List.getElem?_eq_getElem hil)
    rw [cell_of_row _ _ _ _ _ (0, 0) hg] at this
    rw [← this]
    simp
  · rw [List.getElem?_eq_none (by rw [List.length_take]; omega), List.getElem?_eq_none (by rw [L.all_length]; omega)]

/-- copy of elements of so many cells. -/
theorem run_copy_cellsK (w : World) (dT sT ty elem : TypeId) (b o dLen dCap : Nat) (a : Addr) (sLen sCap size : Nat) (cs : List Value)
    (hu : P.underlying dT = some (.slice elem)) (hs : (P.info? elem).map (·.size) = some size) (hn : cs.length = Nat.min sLen dLen * size)
    (hsrc : ∀ j v, cs[j]? = some v → w.cell? (a.add j) = some v) (hc : ∀ j, j < cs.length → (w.cell? ⟨b, o + j, none⟩).isSome = true) (hf : ∀ j, j < cs.length → w.frozen? ⟨b, o + j, none⟩ = false) (h1 : ∀ v ∈ cs, v.oneCell' = true) :
    (Builtin.copy_ #[dT, sT] ty #[.slice (some ⟨b, o, none⟩) dLen dCap, .slice (some a) sLen sCap]).run P w = .ok (goInt (Nat.min sLen dLen)) (w.setCells b o cs) := by
  have hl := run_loadCells_list (P := P) w a cs hsrc
  have hst := run_storeCells_cells (P := P) b o cs 0 w (by simpa using hc) (by simpa using hf) h1
  cases hq : P.info? elem with
  | none => simp [hq] at hs
  | some i =>
    have hi : i.size = size := by simpa [hq] using hs
    simp [Builtin.copy_, run_underlying hu, Builtin.lenOf, Builtin.firstCells, sizeOf, typeInfo, hq, hi, ← hn, hl, hst]
end
end Go.Proofs.Ytlpakooogbaclaa
