/- Endings that are equal; the program's own facts. -/
import Derived.Test.YtbdaflhmloodfaaRows
import Derived.Test.YtbdaflhmloodfaaBapp
import Derived.Test.YtbdaflhmloodfaaBlaw
import Derived.Lib.Hide
import Derived.WalkLawsBesides
import Derived.Deep.QuietTactic
import Derived.BigQuiet
import Derived.Handy
import Derived.Laws.BitsAllLaws
import Derived.ChangeMaps5
import Derived.Laws.ResultCell
namespace Go.Proofs.Ytbdaflhmloodfaa
open Go.RowKit Go.ChangeShapes Go.WideShapes Go.ChangeAt Go.Deep
set_option linter.unusedVariables false

theorem ret_int {k : IntKind} {a b : Int} (h : a = b) : Ending.returned (.int k a) = .returned (.int k b) := by rw [h]
theorem ret_bool {a b : Bool} (h : a = b) : Ending.returned (.bool a) = .returned (.bool b) := by rw [h]
theorem ret_str {a b : ByteArray} (h : a = b) : Ending.returned (.string a) = .returned (.string b) := by rw [h]

theorem ret_tup {a b : Array Value} (h : a = b) : Ending.returned (.tuple a) = .returned (.tuple b) := by rw [h]

theorem Try.own : ownKnob Try.prog.godebug = none := by kernel_rfl
theorem Try.laidOut : laidOutB Try.prog = true := by kernel_rfl

theorem alloc_below (w : World) (o : Obj) : Below w.heap.size w (w.alloc o) := (Below.refl _ w).alloc (Nat.le_refl _) _
theorem results_cell1 {fn : Func} {p : Tmp} {ty : TypeId} (h : fn.results = #[.cell p ty]) (tmps : Array Value) (P : Program) (w : World) :
    (results fn tmps).run P w = ((asAddr (tmps.getD p undef)).run P w).andThen fun a w₁ => (loadVar ty a).run P w₁ := by
  simp only [results, h]
  simp [Sem.run_bind, Result.andThen]
/-- A cell of memory that was made just ahead, in a later world. -/
theorem made_cell {w w' : World} {cs : Array Value} {t : TypeId} (hb : Below (w.heap.size + 1) (w.alloc (.cells cs t)) w') (j : Nat) (u : Value) (hj : cs[j]? = some u) : w'.cell? ⟨w.heap.size, j, none⟩ = some u := by
  rw [hb.cell (p := ⟨w.heap.size, j, none⟩) (by simp), cell_of_row _ _ _ _ _ (0, 0) (heap_alloc_new w _), hj]
theorem made_frozen {w w' : World} {cs : Array Value} {t : TypeId} (hb : Below (w.heap.size + 1) (w.alloc (.cells cs t)) w') (j : Nat) : w'.frozen? ⟨w.heap.size, j, none⟩ = false := by
  rw [hb.frozen (p := ⟨w.heap.size, j, none⟩) (by simp)]
  unfold World.frozen?
  rw [heap_alloc_new w (.cells cs t)]
  simp
/-- Block n is so many cells: a variable's box. -/
def Box (w : World) (n : Nat) (cs : Array Value) (t : TypeId) : Prop := w.heap[n]? = some (.cells cs t (0, 0))
theorem Box.lt {w : World} {n : Nat} {cs : Array Value} {t : TypeId} (h : Box w n cs t) : n < w.heap.size := (Array.getElem?_eq_some_iff.1 h).1
theorem Box.cell {w : World} {n : Nat} {cs : Array Value} {t : TypeId} (h : Box w n cs t) (j : Nat) (u : Value) (hj : cs[j]? = some u) : w.cell? ⟨n, j, none⟩ = some u := by
  rw [cell_of_row _ _ _ _ _ (0, 0) h, hj]
theorem Box.frozen {w : World} {n : Nat} {cs : Array Value} {t : TypeId} (h : Box w n cs t) (j : Nat) : w.frozen? ⟨n, j, none⟩ = false := by
  unfold World.frozen?
  rw [show w.heap[n]? = _ from h]
  simp
theorem Box.new (w : World) (cs : Array Value) (t : TypeId) (n : Nat) (hn : n = w.heap.size) : Box (w.alloc (.cells cs t)) n cs t := by subst hn; exact heap_alloc_new w _
theorem Box.alloc {w : World} {n : Nat} {cs : Array Value} {t : TypeId} (h : Box w n cs t) (o : Obj) : Box (w.alloc o) n cs t := (Below.heap_alloc w o n h.lt).trans h
theorem Box.on {w w' : World} {n B : Nat} {cs : Array Value} {t : TypeId} (h : Box w n cs t) (hb : Below B w w') (hn : n < B) : Box w' n cs t := (hb.block n hn).trans h
theorem Box.later {w w' : World} {n : Nat} {cs : Array Value} {t : TypeId} (h : Box w n cs t) (hb : Below w.heap.size w w') : Box w' n cs t := h.on hb h.lt
theorem Box.keep {w w' : World} {n : Nat} {cs : Array Value} {t : TypeId} {row : Option Nat} (h : Box w n cs t) (hg : w.grownBy w' row) (hne : some n ≠ row) : Box w' n cs t := (hg.block n h.lt hne).trans h
theorem Box.other {w : World} {n : Nat} {cs : Array Value} {t : TypeId} (h : Box w n cs t) (p : Addr) (u : Value) (hne : n ≠ p.block) : Box (w.setCell p u) n cs t := (Below.heap_setCell w p u n hne).trans h
theorem Box.set {w : World} {n : Nat} {cs : Array Value} {t : TypeId} (h : Box w n cs t) (j : Nat) (u : Value) : Box (w.setCell ⟨n, j, none⟩ u) n (cs.setIfInBounds j u) t := by
  obtain ⟨hlt, hk⟩ := Array.getElem?_eq_some_iff.1 h
  show (w.heap.modify n _)[n]? = _
  rw [Array.getElem?_eq_getElem (by rw [Array.size_modify]; exact hlt), Array.getElem_modify_self, hk]
  rfl
theorem Box.drewN {w : World} {n : Nat} {cs : Array Value} {t : TypeId} (h : Box w n cs t) (k : Nat) : Box (w.drewN k) n cs t := h
theorem wf_int {n : Int} (h : (Lit.int .i64 n).wf = true) : -9223372036854775808 ≤ n ∧ n ≤ 9223372036854775807 := by
  simpa [Lit.wf, IntKind.min, IntKind.max, IntKind.signed, IntKind.bits] using h
theorem wf_u8 {n : Int} (h : (Lit.int .u8 n).wf = true) : 0 ≤ n ∧ n ≤ 255 := by
  simpa [Lit.wf, IntKind.min, IntKind.max, IntKind.signed, IntKind.bits] using h
theorem cell_lt {w : World} {a : Addr} {v : Value} (h : w.cell? a = some v) : a.block < w.heap.size := by
  rcases Nat.lt_or_ge a.block w.heap.size with h' | h'
  · exact h'
  · simp [World.cell?, Array.getElem?_eq_none h'] at h
end Go.Proofs.Ytbdaflhmloodfaa
