/- Layer 6: a version read, by the document. -/
import Derived.Test.YtecomnklofceaaaRe
import Derived.Test.YtecomnklofceaaaBregf
namespace Go.Proofs.Ytecomnklofceaaa
open Go.RowKit
set_option linter.unusedVariables false

def qSt (m : List UInt8) (q : Nat) (e : Int) : Nat → Nat × Int
  | 0 => (q, e)
  | k + 1 => (stepQ m (qSt m q e k).1 (qSt m q e k).2).2
def qN (m : List UInt8) (q : Nat) (e : Int) (k : Nat) : Int := ((stepQ m (qSt m q e k).1 (qSt m q e k).2).1 : Nat)
def qNs (m : List UInt8) (q : Nat) (e : Int) (k : Nat) : List Int := (List.range k).map (qN m q e)
theorem qNs_succ (m : List UInt8) (q : Nat) (e : Int) (k : Nat) : qNs m q e (k + 1) = qNs m q e k ++ [qN m q e k] := by
  unfold qNs; rw [List.range_succ, List.map_append]; rfl
theorem qN_bd (m : List UInt8) (q : Nat) (e : Int) (k : Nat) : 0 ≤ qN m q e k ∧ qN m q e k < 4611686018427387904 := by
  have := stepQ_bd m (qSt m q e k).1 (qSt m q e k).2
  unfold qN; omega
def zeroV : Ver := ⟨⟨#[]⟩, 0, 0, 0, (0, 0), ⟨#[]⟩, false⟩
theorem RdQ.below {w w' : World} {g q B : Nat} {p : Value} {m : List UInt8} {e : Int} (h : RdQ w g p m q e) (hb : Below B w w') (hB : g < B) : RdQ w' g p m q e := by
  obtain ⟨h1, h2, h3, h4, h5, h6, hq, sl, h7, h8⟩ := h
  exact ⟨h1, Nat.lt_of_lt_of_le h2 hb.size, (hb.cell (p := ⟨g, 1, none⟩) hB).trans h3, (hb.cell (p := ⟨g, 2, none⟩) hB).trans h4, (hb.frozen (p := ⟨g, 1, none⟩) hB).trans h5, (hb.frozen (p := ⟨g, 2, none⟩) hB).trans h6, hq, sl, (hb.cell (p := ⟨g, 0, none⟩) hB).trans h7, h8.below (hb.mono (Nat.le_of_lt hB))⟩
theorem grown_then_below {a b c : World} {row : Option Nat} (h : a.grownBy b row) (k : Below a.heap.size b c) : a.grownBy c row :=
  ⟨k.os.trans h.os, k.tape.trans h.tape, k.output.trans h.output, Nat.le_trans h.size k.size, fun i hi hr => (k.block i hi).trans (h.block i hi hr)⟩

def intL : Lay Int := ⟨1, fun n => [.int .i64 n], fun _ => rfl, fun x u hu => by simp at hu; subst hu; rfl, by decide⟩
theorem int_info : (Try.prog.info? 3).map (fun i => (i.zero, i.size, i.bytes)) = some (some (.int .i64 0), 1, 8) := by kernel_rfl
abbrev OwnInt (w : World) (base : Nat) (v : Value) (l : List Int) : Prop := OwnX intL 3 w base v l

end Go.Proofs.Ytecomnklofceaaa
