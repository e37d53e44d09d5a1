/- Plain facts on lists of bytes: their order. -/
import Derived.Test.YtnioiojafnkmhaaRows
import Derived.Test.YtnioiojafnkmhaaBA
import Derived.Test.YtnioiojafnkmhaaBE
import Derived.WalkKit
import Derived.ProofKit
import Derived.Lib.Hide
import Derived.WalkLawsBesides
import Derived.Deep.QuietTactic
import Derived.BigQuiet
import Derived.Handy
import Derived.Laws.BitsAllLaws
import Derived.Deep.RegionWith
import Derived.Deep.DeepCutAuto
import Derived.Deep.RegionLaw
import Derived.Laws.BytesArg
import Derived.ChangeSlices
import Derived.Laws.Runes
import Derived.Lib.ConvBytes
import Derived.ChangeMaps5
import Derived.Lib.AppendStr
import Derived.Laws.StructEq
import Derived.Deep.Slices
import Derived.Deep.Fields
import Derived.Deep.Strs
import Derived.ChangeSame
import Derived.ChangeArms
import Derived.Lib.SmallJoins
namespace Go.Proofs.Ytnioiojafnkmhaa.Ord
open Go.RowKit

theorem ret_int {k : IntKind} {a b : Int} (h : a = b) : Ending.returned (.int k a) = .returned (.int k b) := by rw [h]
theorem ret_bool {a b : Bool} (h : a = b) : Ending.returned (.bool a) = .returned (.bool b) := by rw [h]

theorem less_irrefl (a : List UInt8) : Op.bytesLess a a = false := by
  induction a with
  | nil => rfl
  | cons x l ih => simp [Op.bytesLess, ih]
theorem less_asymm (a b : List UInt8) (h : Op.bytesLess a b = true) : Op.bytesLess b a = false := by
  induction a generalizing b with
  | nil => cases b <;> simp [Op.bytesLess] at h ⊢
  | cons x l ih =>
    cases b with
    | nil => simp [Op.bytesLess] at h
    | cons y m =>
      simp only [Op.bytesLess, Bool.or_eq_true, decide_eq_true_eq, Bool.and_eq_true, beq_iff_eq] at h
      rcases h with h | ⟨rfl, h⟩
      · have h2 : ¬ y < x := fun h3 => by rw [UInt8.lt_iff_toNat_lt] at h h3; omega
        have h3 : y ≠ x := by rintro rfl; rw [UInt8.lt_iff_toNat_lt] at h; omega
        simp [Op.bytesLess, h2, h3]
      · simp [Op.bytesLess, ih m h]
theorem less_total (a b : List UInt8) (h : Op.bytesLess a b = false) (hne : a ≠ b) : Op.bytesLess b a = true := by
  induction a generalizing b with
  | nil => cases b <;> simp [Op.bytesLess] at h hne ⊢
  | cons x l ih =>
    cases b with
    | nil => simp [Op.bytesLess]
    | cons y m =>
      simp only [Op.bytesLess, Bool.or_eq_false_iff, decide_eq_false_iff_not, Bool.and_eq_false_imp, beq_iff_eq] at h
      obtain ⟨h1, h2⟩ := h
      by_cases hxy : x = y
      · subst hxy
        simp [Op.bytesLess, ih m (h2 rfl) (fun e => hne (by rw [e]))]
      · have : y < x := by
          rw [UInt8.lt_iff_toNat_lt] at h1 ⊢
          have : x.toNat ≠ y.toNat := fun e => hxy (UInt8.toNat_inj.1 e)
          omega
        simp [Op.bytesLess, this]
end Go.Proofs.Ytnioiojafnkmhaa.Ord
/- Contracts of the leaf functions of layer 1: cmp.Compare at int and at string, the comparing of two parts, which tables there are. -/
namespace Go.Proofs.Ytnioiojafnkmhaa.Ord
open Go.RowKit
set_option linter.unusedVariables false

theorem nan_int (a : Int) (w : World) : Calls Try.prog 39 #[.int .i64 a] w fun e w' => e = .returned (.bool false) ∧ w = w' := by
  go_enter Try.func39, Try.ntmps39
  go_wp2
  go_ret
  exact ⟨rfl, rfl⟩

theorem nan_str (s : ByteArray) (w : World) : Calls Try.prog 38 #[.string s] w fun e w' => e = .returned (.bool false) ∧ w = w' := by
  go_enter Try.func38, Try.ntmps38
  go_wp2
  go_ret
  exact ⟨by simp, rfl⟩

def cmpInt (a b : Int) : Int := if a < b then -1 else if b < a then 1 else 0
def cmpStr (a b : List UInt8) : Int := if Op.bytesLess a b = true then -1 else if a = b then 0 else 1

set_option maxHeartbeats 400000 in
theorem cmp_int (a b : Int) (w : World) : Calls Try.prog 27 #[.int .i64 a, .int .i64 b] w fun e w' => e = .returned (.int .i64 (cmpInt a b)) ∧ w = w' := by
  go_enter Try.func27, Try.ntmps27
  go_wp2_with (first | (go_at_call 39; refine (nan_int _ _).mono ?_; rintro e w' ⟨rfl, rfl⟩))
  all_goals go_ret
  · exact ⟨ret_int (by unfold cmpInt; rw [if_pos (by omega)]), rfl⟩
  · exact ⟨ret_int (by unfold cmpInt; rw [if_neg (by omega), if_pos (by omega)]), rfl⟩
  · exact ⟨ret_int (by unfold cmpInt; rw [if_neg (by omega), if_neg (by omega)]), rfl⟩

set_option maxHeartbeats 400000 in
theorem cmp_str (a b : ByteArray) (w : World) : Calls Try.prog 26 #[.string a, .string b] w fun e w' => e = .returned (.int .i64 (cmpStr a.toList b.toList)) ∧ w = w' := by
  rcases h1 : Op.bytesLess a.toList b.toList with _ | _
  · rcases h2 : (a.toList == b.toList) with _ | _
    · have h3 : a.toList ≠ b.toList := by simpa using h2
      go_enter Try.func26, Try.ntmps26
      go_wp2_with (first | (go_at_call 38; refine (nan_str _ _).mono ?_; rintro e w' ⟨rfl, rfl⟩))
      go_ret
      exact ⟨by simp [cmpStr, h1, h3], rfl⟩
    · have h3 : a.toList = b.toList := by simpa using h2
      have hi := less_irrefl b.toList
      have H3 := Lib.hid h3
      clear h3
      go_enter Try.func26, Try.ntmps26
      go_wp2_with (first | (go_at_call 38; refine (nan_str _ _).mono ?_; rintro e w' ⟨rfl, rfl⟩))
      go_ret
      exact ⟨by simp [cmpStr, H3.out, hi], rfl⟩
  · go_enter Try.func26, Try.ntmps26
    go_wp2_with (first | (go_at_call 38; refine (nan_str _ _).mono ?_; rintro e w' ⟨rfl, rfl⟩))
    go_ret
    exact ⟨by simp [cmpStr, h1], rfl⟩

end Go.Proofs.Ytnioiojafnkmhaa.Ord
/- Layer 1: rows of bytes that a call owns, and what append does to them. -/
namespace Go.Proofs.Ytnioiojafnkmhaa.Ord
open Go.RowKit
set_option linter.unusedVariables false

end Go.Proofs.Ytnioiojafnkmhaa.Ord
/- Plain facts on numbers' bytes: a number and 2^63 more, as 8 bytes, the highest first. -/
namespace Go.Proofs.Ytnioiojafnkmhaa.Ord
open Go.RowKit

end Go.Proofs.Ytnioiojafnkmhaa.Ord
/- Layer 1: a number's bytes, put. -/
namespace Go.Proofs.Ytnioiojafnkmhaa.Ord
open Go.RowKit
set_option linter.unusedVariables false

end Go.Proofs.Ytnioiojafnkmhaa.Ord
/- Layer 1: a number's bytes and a text's, as the document's answer makes them. -/
namespace Go.Proofs.Ytnioiojafnkmhaa.Ord
open Go.RowKit
set_option linter.unusedVariables false

end Go.Proofs.Ytnioiojafnkmhaa.Ord
/- Contracts of layer 1: comparing parts (the document's answer), and tuples, the program's and the document's. -/
namespace Go.Proofs.Ytnioiojafnkmhaa.Ord
open Go.RowKit
set_option linter.unusedVariables false

end Go.Proofs.Ytnioiojafnkmhaa.Ord
/- Contracts of layer 1: tuples in memory; comparing tuples. -/
namespace Go.Proofs.Ytnioiojafnkmhaa.Ord
open Go.RowKit
set_option linter.unusedVariables false

end Go.Proofs.Ytnioiojafnkmhaa.Ord
/- Layer 1: steps of a region whose order is open: an append of a literal, a call by its contract. -/
namespace Go.Proofs.Ytnioiojafnkmhaa.Ord
open Go.RowKit
set_option linter.unusedVariables false

end Go.Proofs.Ytnioiojafnkmhaa.Ord
/- Layer 1: reading (plain): what the document's reading of bytes is. -/
namespace Go.Proofs.Ytnioiojafnkmhaa.Ord
open Go.RowKit

end Go.Proofs.Ytnioiojafnkmhaa.Ord
/- Contract of layer 1: the program's order of two tuples. -/
namespace Go.Proofs.Ytnioiojafnkmhaa.Ord
open Go.RowKit
set_option linter.unusedVariables false

end Go.Proofs.Ytnioiojafnkmhaa.Ord
/- Layer 1: bytes that are read; bytes as a text; Key. -/
namespace Go.Proofs.Ytnioiojafnkmhaa.Ord
open Go.RowKit
set_option linter.unusedVariables false

end Go.Proofs.Ytnioiojafnkmhaa.Ord
/- Layer 1: a number's bytes, read. -/
namespace Go.Proofs.Ytnioiojafnkmhaa.Ord
open Go.RowKit
set_option linter.unusedVariables false

end Go.Proofs.Ytnioiojafnkmhaa.Ord
/- Layer 1: a text's bytes, read, by a jump back to where the next one is looked at. -/
namespace Go.Proofs.Ytnioiojafnkmhaa.Ord
open Go.RowKit
set_option linter.unusedVariables false

end Go.Proofs.Ytnioiojafnkmhaa.Ord
/- Layer 1: a part's bytes, read. -/
namespace Go.Proofs.Ytnioiojafnkmhaa.Ord
open Go.RowKit
set_option linter.unusedVariables false

end Go.Proofs.Ytnioiojafnkmhaa.Ord
/- Layer 1: an argument that is a tuple, opened to its parts. -/
namespace Go.Proofs.Ytnioiojafnkmhaa.Ord
open Go.RowKit Go.ChangeShapes Go.WideShapes Go.ChangeAt Go.Deep
set_option linter.unusedVariables false

end Go.Proofs.Ytnioiojafnkmhaa.Ord
/- Layer 1: the cutting of a tuple, and whether two are the same. -/
namespace Go.Proofs.Ytnioiojafnkmhaa.Ord
open Go.RowKit
set_option linter.unusedVariables false

end Go.Proofs.Ytnioiojafnkmhaa.Ord
/- Layer 1: a tuple's bytes, read. -/
namespace Go.Proofs.Ytnioiojafnkmhaa.Ord
open Go.RowKit
set_option linter.unusedVariables false

end Go.Proofs.Ytnioiojafnkmhaa.Ord
/- Layer 1: a number's bytes, as the document's answer reads them. -/
namespace Go.Proofs.Ytnioiojafnkmhaa.Ord
open Go.RowKit
set_option linter.unusedVariables false

end Go.Proofs.Ytnioiojafnkmhaa.Ord
/- Layer 1: a tuple's bytes, as the document's answer reads them. -/
namespace Go.Proofs.Ytnioiojafnkmhaa.Ord
open Go.RowKit
set_option linter.unusedVariables false

end Go.Proofs.Ytnioiojafnkmhaa.Ord
/- Layer 1: whether two tuples are the same. -/
namespace Go.Proofs.Ytnioiojafnkmhaa.Ord
open Go.RowKit
set_option linter.unusedVariables false

end Go.Proofs.Ytnioiojafnkmhaa.Ord
/- Layer 1: bytes of tuples are in their order (plain). -/
namespace Go.Proofs.Ytnioiojafnkmhaa.Ord
open Go.RowKit

end Go.Proofs.Ytnioiojafnkmhaa.Ord
/- Layer 1: the order is turned round; a cut tuple can be written. -/
namespace Go.Proofs.Ytnioiojafnkmhaa.Ord
open Go.RowKit
set_option linter.unusedVariables false

end Go.Proofs.Ytnioiojafnkmhaa.Ord
/- Layer 1: an argument that is bytes, opened; its first 200. -/
namespace Go.Proofs.Ytnioiojafnkmhaa.Ord
open Go.RowKit Go.ChangeShapes Go.WideShapes Go.ChangeAt Go.Deep
set_option linter.unusedVariables false

end Go.Proofs.Ytnioiojafnkmhaa.Ord
/- Layer 1: what is written is read (plain). -/
namespace Go.Proofs.Ytnioiojafnkmhaa.Ord
open Go.RowKit

end Go.Proofs.Ytnioiojafnkmhaa.Ord
/- Layer 1: a tuple's bytes, as the document's answer makes them. -/
namespace Go.Proofs.Ytnioiojafnkmhaa.Ord
open Go.RowKit
set_option linter.unusedVariables false

end Go.Proofs.Ytnioiojafnkmhaa.Ord
/- Layer 1: a key's bytes, split: the program and the document's answer; the document's key. -/
namespace Go.Proofs.Ytnioiojafnkmhaa.Ord
open Go.RowKit
set_option linter.unusedVariables false

end Go.Proofs.Ytnioiojafnkmhaa.Ord
/- Layer 1: Split, the program's and the document's. -/
namespace Go.Proofs.Ytnioiojafnkmhaa.Ord
open Go.RowKit
set_option linter.unusedVariables false

end Go.Proofs.Ytnioiojafnkmhaa.Ord
/- Bytes: rows of them that a call owns; slices that read as them; append, slicing, texts; an argument that is bytes, opened. Program-bound by its types' names alone. -/
namespace Go.Proofs.Ytnioiojafnkmhaa
open Go.RowKit Go.ChangeShapes Go.WideShapes Go.ChangeAt Go.Deep
set_option linter.unusedVariables false

end Go.Proofs.Ytnioiojafnkmhaa
/- Bytes: append of a text to a row that the call owns; slices of numbers, of texts, of whatever takes one cell, that read as a list. Program-bound by its types' names alone. -/
namespace Go.Proofs.Ytnioiojafnkmhaa
open Go.RowKit Go.ChangeShapes Go.WideShapes Go.ChangeAt Go.Deep
set_option linter.unusedVariables false

/-- The value v is a slice, of elements of one cell each, that reads as l, in a block below B. -/
def RdV {α : Type} (f : α → Value) (w : World) (B : Nat) (v : Value) (l : List α) : Prop :=
  ∃ A c, v = .slice A l.length c ∧ l.length ≤ c ∧ c ≤ 9223372036854775807 ∧ (0 < l.length → ∃ b o, A = some ⟨b, o, none⟩ ∧ b < B ∧
    ∀ (k : Nat) (u : α), l[k]? = some u → w.cell? ⟨b, o + k, none⟩ = some (f u))

section
variable {α : Type} {f : α → Value}
theorem RdV.below {w w' : World} {B : Nat} {v : Value} {l : List α} (h : RdV f w B v l) (hb : Below B w w') : RdV f w' B v l := by
  obtain ⟨A, c, rfl, h1, h2, h3⟩ := h
  refine ⟨A, c, rfl, h1, h2, fun hp => ?_⟩
  obtain ⟨b, o, rfl, hB, hc⟩ := h3 hp
  exact ⟨b, o, rfl, hB, fun k p hk => (hb.cell (p := ⟨b, _, none⟩) hB).trans (hc k p hk)⟩
theorem RdV.more {w : World} {B B' : Nat} {v : Value} {l : List α} (h : RdV f w B v l) (hB : B ≤ B') : RdV f w B' v l := by
  obtain ⟨A, c, rfl, h1, h2, h3⟩ := h
  refine ⟨A, c, rfl, h1, h2, fun hp => ?_⟩
  obtain ⟨b, o, rfl, hb, hc⟩ := h3 hp
  exact ⟨b, o, rfl, by omega, hc⟩
theorem RdV.on {w w' : World} {v : Value} {l : List α} (h : RdV f w w.heap.size v l) (hb : Below w.heap.size w w') : RdV f w' w'.heap.size v l := (h.below hb).more hb.size
theorem RdV.nil (w : World) (B : Nat) : RdV f w B (.slice none 0 0) [] := ⟨none, 0, rfl, by simp, by omega, fun h => absurd h (by simp)⟩
theorem RdV.drew {w : World} {B : Nat} {v : Value} {l : List α} (h : RdV f w B v l) : RdV f w.drew B v l := h
/-- A literal. -/
theorem RdV.lit (w : World) (cs : Array Value) (t : TypeId) (l : List α) (n B : Nat) (h : cs = (l.map f).toArray) (hn : n = l.length) (hB : w.heap.size < B) (hl : l.length ≤ 1099511627776) :
    RdV f (w.alloc (.cells cs t)) B (.slice (some ⟨w.heap.size, 0, none⟩) n n) l := by
  subst h hn
  refine ⟨_, l.length, rfl, Nat.le_refl _, by omega, fun _ => ⟨_, _, rfl, hB, fun k u hk => ?_⟩⟩
  rw [cell_of_row _ _ _ _ _ (0, 0) (heap_alloc_new w _)]
  simp [hk]
end

/-- A slice of numbers; of texts. -/
def RdI : World → Nat → Value → List Int → Prop := RdV (fun n => .int .i64 n)

end Go.Proofs.Ytnioiojafnkmhaa
/- Plain facts on numbers' bytes, seven bits a byte. -/
namespace Go.Proofs.Ytnioiojafnkmhaa
open Go.RowKit

end Go.Proofs.Ytnioiojafnkmhaa
/- Layer 2: a number's bytes, put behind a row. -/
namespace Go.Proofs.Ytnioiojafnkmhaa
open Go.RowKit
set_option linter.unusedVariables false

end Go.Proofs.Ytnioiojafnkmhaa
/- Layer 2: a number's bytes, and a text's, as the document's answer makes them. -/
namespace Go.Proofs.Ytnioiojafnkmhaa
open Go.RowKit
set_option linter.unusedVariables false

end Go.Proofs.Ytnioiojafnkmhaa
/- Layer 2: numbers and texts, put behind bytes. -/
namespace Go.Proofs.Ytnioiojafnkmhaa
open Go.RowKit
set_option linter.unusedVariables false

end Go.Proofs.Ytnioiojafnkmhaa
/- Layer 2: numbers turned, and turned back; the document's examples. -/
namespace Go.Proofs.Ytnioiojafnkmhaa
open Go.RowKit
set_option linter.unusedVariables false

end Go.Proofs.Ytnioiojafnkmhaa
/- Layer 2: the document's examples. -/
namespace Go.Proofs.Ytnioiojafnkmhaa
open Go.RowKit
set_option linter.unusedVariables false

end Go.Proofs.Ytnioiojafnkmhaa
/- Layer 2: a number's bytes, read, by a jump back to its next byte. -/
namespace Go.Proofs.Ytnioiojafnkmhaa
open Go.RowKit
set_option linter.unusedVariables false

end Go.Proofs.Ytnioiojafnkmhaa
/- Plain facts on numbers' bytes: what is read is what was put; the document's way of reading. -/
namespace Go.Proofs.Ytnioiojafnkmhaa
open Go.RowKit

end Go.Proofs.Ytnioiojafnkmhaa
/- Layer 2: a reader. -/
namespace Go.Proofs.Ytnioiojafnkmhaa
open Go.RowKit
set_option linter.unusedVariables false

theorem grown_set {g : Nat} (w : World) (o : Nat) (v : Value) : w.grownBy (w.setCell ⟨g, o, none⟩ v) (some g) :=
  ⟨rfl, rfl, rfl, by simp [World.setCell], fun k _ hk => Below.heap_setCell _ _ _ _ (fun e => hk (by simp [e]))⟩

end Go.Proofs.Ytnioiojafnkmhaa
/- Layer 2: a text, read. -/
namespace Go.Proofs.Ytnioiojafnkmhaa
open Go.RowKit
set_option linter.unusedVariables false

end Go.Proofs.Ytnioiojafnkmhaa
/- Layer 4, plain facts: spans, pieces, and what the document tells of them. -/
namespace Go.Proofs.Ytnioiojafnkmhaa
open Go.RowKit
set_option linter.unusedVariables false

abbrev Sp := Int × Int

end Go.Proofs.Ytnioiojafnkmhaa
/- Layer 6: spans that may be, by the document and by the project (out of s05/XEa). -/
namespace Go.Proofs.Ytnioiojafnkmhaa
open Go.RowKit
set_option linter.unusedVariables false

end Go.Proofs.Ytnioiojafnkmhaa
/- Layer 6: the document's reader of chapter 2, whose index is anywhere, with an error or without: a number, what is left. Written by gen_ra.py. -/
namespace Go.Proofs.Ytnioiojafnkmhaa
open Go.RowKit
set_option linter.unusedVariables false

end Go.Proofs.Ytnioiojafnkmhaa
/- Layer 6: the document's reader of chapter 2 at any index: a text. -/
namespace Go.Proofs.Ytnioiojafnkmhaa
open Go.RowKit
set_option linter.unusedVariables false

end Go.Proofs.Ytnioiojafnkmhaa
/- Layer 6: versions: which may be, cut to few bytes, their bytes, by the document. -/
namespace Go.Proofs.Ytnioiojafnkmhaa
open Go.RowKit
set_option linter.unusedVariables false

structure Ver where
  key : ByteArray
  b : Int
  e : Int
  s : Int
  sp : Sp
  val : ByteArray
  gone : Bool
def verV (v : Ver) : Value := .agg #[.string v.key, .int .i64 v.b, .int .i64 v.e, .int .i64 v.s, .int .i64 v.sp.1, .int .i64 v.sp.2, .string v.val, .bool v.gone]
def cutV (v : Ver) : Ver := { v with key := if 110 < v.key.size then v.key.extract 0 110 else v.key, val := if 210 < v.val.size then v.val.extract 0 210 else v.val }

set_option maxHeartbeats 2000000 in
theorem ref6_cut (v : Ver) (w : World) :
    Calls Try.prog 23 #[verV v] w fun e w' => e = .returned (verV (cutV v)) ∧ Below w.heap.size w w' := by
  obtain ⟨k, b, e, s, ⟨x, y⟩, u, g⟩ := v
  unfold verV cutV
  simp only
  go_enter Try.func23, Try.ntmps23
  go_wp2_with fail
  all_goals
    first
      | refine bodyPost_ret (v := .agg #[.string (k.extract 0 110), .int .i64 b, .int .i64 e, .int .i64 s, .int .i64 x, .int .i64 y, .string (u.extract 0 210), .bool g]) ?_ rfl ⟨rfl, (alloc_below w _).trans ((alloc_below _ _).mono (by simp))⟩
      | refine bodyPost_ret (v := .agg #[.string (k.extract 0 110), .int .i64 b, .int .i64 e, .int .i64 s, .int .i64 x, .int .i64 y, .string u, .bool g]) ?_ rfl ⟨rfl, (alloc_below w _).trans ((alloc_below _ _).mono (by simp))⟩
      | refine bodyPost_ret (v := .agg #[.string k, .int .i64 b, .int .i64 e, .int .i64 s, .int .i64 x, .int .i64 y, .string (u.extract 0 210), .bool g]) ?_ rfl ⟨rfl, (alloc_below w _).trans ((alloc_below _ _).mono (by simp))⟩
      | refine bodyPost_ret (v := .agg #[.string k, .int .i64 b, .int .i64 e, .int .i64 s, .int .i64 x, .int .i64 y, .string u, .bool g]) ?_ rfl ⟨rfl, (alloc_below w _).trans ((alloc_below _ _).mono (by simp))⟩
    rw [results_cell1 rfl]
    go_simp

end Go.Proofs.Ytnioiojafnkmhaa
/- Layer 6: a version's bytes, by the document. -/
namespace Go.Proofs.Ytnioiojafnkmhaa
open Go.RowKit
set_option linter.unusedVariables false

end Go.Proofs.Ytnioiojafnkmhaa
/- Layer 6: lists of versions: are they the same, their bytes, by the document. -/
namespace Go.Proofs.Ytnioiojafnkmhaa
open Go.RowKit
set_option linter.unusedVariables false

def verL : Lay Ver := ⟨8, fun v => [.string v.key, .int .i64 v.b, .int .i64 v.e, .int .i64 v.s, .int .i64 v.sp.1, .int .i64 v.sp.2, .string v.val, .bool v.gone], fun _ => rfl, fun x u hu => by simp at hu; rcases hu with rfl | rfl | rfl | rfl | rfl | rfl | rfl | rfl <;> rfl, by decide⟩
theorem ver_info : (Try.prog.info? 33).map (fun i => (i.zero, i.size, i.bytes)) = some (some (.agg #[.string ⟨#[]⟩, .int .i64 0, .int .i64 0, .int .i64 0, .int .i64 0, .int .i64 0, .string ⟨#[]⟩, .bool false]), 8, 80) := by kernel_rfl
abbrev RdVr (w : World) (B : Nat) (v : Value) (l : List Ver) : Prop := RdX verL w B v l
abbrev OwnVr (w : World) (base : Nat) (v : Value) (l : List Ver) : Prop := OwnX verL 33 w base v l
theorem RdVr.here {w : World} {B : Nat} {A : Option Addr} {n c : Nat} {l : List Ver} (h : RdVr w B (.slice A n c) l) (k : Nat) (hk : k < l.length) : ∃ b o, A = some ⟨b, o, none⟩ ∧ b < B ∧
    w.cell? ⟨b, o + k * 8, none⟩ = some (.string l[k].key) ∧ w.cell? ⟨b, o + k * 8 + 1, none⟩ = some (.int .i64 l[k].b) ∧ w.cell? ⟨b, o + k * 8 + 2, none⟩ = some (.int .i64 l[k].e) ∧ w.cell? ⟨b, o + k * 8 + 3, none⟩ = some (.int .i64 l[k].s) ∧
    w.cell? ⟨b, o + k * 8 + 4, none⟩ = some (.int .i64 l[k].sp.1) ∧ w.cell? ⟨b, o + k * 8 + 5, none⟩ = some (.int .i64 l[k].sp.2) ∧ w.cell? ⟨b, o + k * 8 + 6, none⟩ = some (.string l[k].val) ∧ w.cell? ⟨b, o + k * 8 + 7, none⟩ = some (.bool l[k].gone) := by
  obtain ⟨b, o, rfl, hb, hc⟩ := h.at k hk
  exact ⟨b, o, rfl, hb, hc 0 _ rfl, hc 1 _ rfl, hc 2 _ rfl, hc 3 _ rfl, hc 4 _ rfl, hc 5 _ rfl, hc 6 _ rfl, hc 7 _ rfl⟩
theorem bytes_list6 (a b : ByteArray) : (a.toList = b.toList) ↔ a = b := by
  constructor
  · intro e
    rw [ByteArray.toList_eq, ByteArray.toList_eq] at e
    obtain ⟨⟨x⟩⟩ := a
    obtain ⟨⟨y⟩⟩ := b
    simp at e
    subst e
    rfl
  · intro e; rw [e]
theorem ver_neq_same (W : World) (a : Ver) : (binOp .neq 33 (verV a) (verV a)).run Try.prog W = .ok (.bool false) W := by
  unfold verV
  go_simp
theorem ver_neq_diff (W : World) (a b : Ver) (h : a ≠ b) : (binOp .neq 33 (verV a) (verV b)).run Try.prog W = .ok (.bool true) W := by
  obtain ⟨k1, b1, e1, s1, ⟨x1, y1⟩, u1, g1⟩ := a
  obtain ⟨k2, b2, e2, s2, ⟨x2, y2⟩, u2, g2⟩ := b
  unfold verV
  have h1 := bytes_list6 k1 k2
  have h2 := bytes_list6 u1 u2
  go_simp
  intro a1 a2 a3 a4 a5 a6 a7 a8
  subst a1 a2 a3 a4 a5 a6 a7 a8
  exact h rfl

set_option maxHeartbeats 4000000 in
theorem ref6_same (va vb : Value) (l m : List Ver) (w : World) (ha : RdVr w w.heap.size va l) (hb : RdVr w w.heap.size vb m) :
    Calls Try.prog 11 #[va, vb] w fun e w' => ∃ r : Bool, e = .returned (.bool r) ∧ (r = true ↔ l = m) ∧ Below w.heap.size w w' := by
  have HA := Lib.hid ha
  have HB := Lib.hid hb
  obtain ⟨A, ca, rfl, hla, hca, -⟩ := ha
  obtain ⟨B, cb, rfl, hlb, hcb, -⟩ := hb
  by_cases hlen : l.length = m.length
  · have z0 : ((l.length : Int) != (m.length : Int)) = false := by simp [bne, hlen]
    have HL := Lib.hid hlen
    go_enter Try.func11, Try.ntmps11
    clear hlen
    go_wp2_with fail
    go_loopw [5] (fun i wr => ∃ k : Nat, i = .int .i64 k ∧ k ≤ l.length ∧ l.take k = m.take k ∧ Below w.heap.size w wr) (fun i _ => l.length - (intOf i).toNat)
    case atStart => exact ⟨0, rfl, Nat.zero_le _, rfl, Below.refl _ _⟩
    case round =>
      obtain ⟨k, rfl, hk, ht, hbw⟩ := hrel
      have G := Lib.hid hbw
      have T := Lib.hid ht
      clear hbw ht
      by_cases hlt : k < l.length
      · have hltm : k < m.length := by have := HL.out; omega
        obtain ⟨ba, oa, rfl, hba, ca0, ca1, ca2, ca3, ca4, ca5, ca6, ca7⟩ := RdVr.here (HA.out.below G.out) k hlt
        obtain ⟨bb, ob, rfl, hbb, cb0, cb1, cb2, cb3, cb4, cb5, cb6, cb7⟩ := RdVr.here (HB.out.below G.out) k hltm
        have hs1 : l.take (k + 1) = l.take k ++ [l[k]] := List.take_succ_eq_append_getElem hlt
        have hs2 : m.take (k + 1) = m.take k ++ [m[k]] := List.take_succ_eq_append_getElem hltm
        have S1 := Lib.hid hs1
        have S2 := Lib.hid hs2
        have NE := Lib.hid (show l[k] ≠ m[k] → l ≠ m from fun h e => h (by subst e; rfl))
        clear hs1 hs2
        generalize l[k] = p at *
        generalize m[k] = q at *
        by_cases hpq : p = q
        · subst hpq
          have hne := fun W => ver_neq_same W p
          unfold verV at hne
          go_wp2_with fail
          go_quiet (fail)
          go_wp2_with fail
          go_roundw
          case rel => exact ⟨k + 1, by go_num, by omega, by rw [S1.out, S2.out, T.out], G.out.drewN _⟩
          case measure => simp [intOf]; omega
        · have hne := fun W => ver_neq_diff W p q hpq
          unfold verV at hne
          have LM := Lib.hid (NE.out hpq)
          clear hpq
          go_wp2_with fail
          go_quiet (fail)
          go_wp2_with fail
          go_ret
          exact ⟨_, rfl, ⟨(fun h => by cases h), fun h => absurd h LM.out⟩, G.out.drewN _⟩
      · have LM := Lib.hid (show l = m from by
          have h1 : l.take k = l := List.take_of_length_le (by omega)
          have h2 : m.take k = m := List.take_of_length_le (by have := HL.out; omega)
          rw [← h1, T.out, h2])
        go_wp2_with fail
        go_ret
        exact ⟨_, rfl, ⟨fun _ => LM.out, fun _ => rfl⟩, G.out⟩
  · have z0 : ((l.length : Int) != (m.length : Int)) = true := by simp [bne]; omega
    have LM := Lib.hid (show l ≠ m from fun e => hlen (by rw [e]))
    clear hlen
    go_enter Try.func11, Try.ntmps11
    go_wp2_with fail
    go_ret
    exact ⟨_, rfl, ⟨(fun h => by cases h), fun h => absurd h LM.out⟩, Below.refl _ _⟩

end Go.Proofs.Ytnioiojafnkmhaa
/- Layer 6: a version read, by the document. -/
namespace Go.Proofs.Ytnioiojafnkmhaa
open Go.RowKit
set_option linter.unusedVariables false

def zeroV : Ver := ⟨⟨#[]⟩, 0, 0, 0, (0, 0), ⟨#[]⟩, false⟩

end Go.Proofs.Ytnioiojafnkmhaa
/- Layer 6: which versions may be, by the project. -/
namespace Go.Proofs.Ytnioiojafnkmhaa
open Go.RowKit
set_option linter.unusedVariables false

end Go.Proofs.Ytnioiojafnkmhaa
/- Layer 6: plain facts: a version as it is read of bytes, one after the other; the document's way and the project's are the same; what is written is read. -/
namespace Go.Proofs.Ytnioiojafnkmhaa
open Go.RowKit
set_option linter.unusedVariables false

end Go.Proofs.Ytnioiojafnkmhaa
/- Layer 6: a version's bytes, by the project. -/
namespace Go.Proofs.Ytnioiojafnkmhaa
open Go.RowKit
set_option linter.unusedVariables false

end Go.Proofs.Ytnioiojafnkmhaa
/- Layer 6: a version read, by the project. -/
namespace Go.Proofs.Ytnioiojafnkmhaa
open Go.RowKit
set_option linter.unusedVariables false

end Go.Proofs.Ytnioiojafnkmhaa
/- Layer 6: versions' bytes, by the project. -/
namespace Go.Proofs.Ytnioiojafnkmhaa
open Go.RowKit
set_option linter.unusedVariables false

end Go.Proofs.Ytnioiojafnkmhaa
/- Layer 6: plain facts on the order of versions. -/
namespace Go.Proofs.Ytnioiojafnkmhaa
open Go.RowKit
set_option linter.unusedVariables false

/-- c tells an order: of each two, and of three. -/
structure Tells {α : Type} (c : α → α → Int) : Prop where
  anti : ∀ a b, c b a = - c a b
  trans : ∀ a b d, c a b ≤ 0 → c b d ≤ 0 → c a d ≤ 0
theorem Tells.refl {α : Type} {c : α → α → Int} (h : Tells c) (a : α) : c a a = 0 := by have := h.anti a a; omega
def lex (x y : Int) : Int := if x ≠ 0 then x else y
theorem Tells.lex {α : Type} {c d : α → α → Int} (h : Tells c) (k : Tells d) : Tells fun a b => lex (c a b) (d a b) := by
  refine ⟨fun a b => ?_, fun a b e h1 h2 => ?_⟩
  · simp only [Go.Proofs.Ytnioiojafnkmhaa.lex]
    rw [h.anti a b, k.anti a b]
    by_cases h0 : c a b = 0
    · simp [h0]
    · rw [if_pos (by omega), if_pos h0]
  · simp only [Go.Proofs.Ytnioiojafnkmhaa.lex] at h1 h2 ⊢
    have t1 := h.trans a b e
    have t2 := h.trans b e a
    have t3 := h.trans e a b
    have a1 := h.anti a b
    have a2 := h.anti b e
    have a3 := h.anti a e
    have t4 := k.trans a b e
    split at h1 <;> split at h2 <;> split <;> omega
theorem Tells.pull {α β : Type} {c : α → α → Int} (h : Tells c) (f : β → α) : Tells fun a b => c (f a) (f b) := ⟨fun a b => h.anti _ _, fun a b d => h.trans _ _ _⟩
theorem int_tells : Tells Ord.cmpInt := by
  refine ⟨fun a b => ?_, fun a b d => ?_⟩
  · unfold Ord.cmpInt; split <;> split <;> first | rfl | omega
  · unfold Ord.cmpInt; split <;> split <;> split <;> first | omega | (split <;> first | omega | (split <;> omega))
theorem cmpInt_zero {a b : Int} : Ord.cmpInt a b = 0 ↔ a = b := by
  unfold Ord.cmpInt; split
  · constructor <;> intro h <;> omega
  · split <;> constructor <;> intro h <;> omega
theorem less_trans (a b c : List UInt8) (h : Op.bytesLess a b = true) (k : Op.bytesLess b c = true) : Op.bytesLess a c = true := by
  induction a generalizing b c with
  | nil =>
    cases c with
    | nil => cases b <;> simp [Op.bytesLess] at k
    | cons z n => simp [Op.bytesLess]
  | cons x l ih =>
    cases b with
    | nil => simp [Op.bytesLess] at h
    | cons y m =>
      cases c with
      | nil => simp [Op.bytesLess] at k
      | cons z n =>
        simp only [Op.bytesLess, Bool.or_eq_true, decide_eq_true_eq, Bool.and_eq_true, beq_iff_eq] at h k ⊢
        rcases h with h | ⟨rfl, h⟩ <;> rcases k with k | ⟨rfl, k⟩
        · left; rw [UInt8.lt_iff_toNat_lt] at *; omega
        · left; exact h
        · left; exact k
        · right; exact ⟨rfl, ih _ _ h k⟩
theorem cmpStr_lt' {a b : List UInt8} (h : Op.bytesLess a b = true) : Ord.cmpStr a b = -1 := by simp [Ord.cmpStr, h]
theorem cmpStr_gt' {a b : List UInt8} (h : Op.bytesLess b a = true) : Ord.cmpStr a b = 1 := by
  have h1 := Ord.less_asymm _ _ h
  have h2 : a ≠ b := by rintro rfl; simp [Ord.less_irrefl] at h
  simp [Ord.cmpStr, h1, h2]
theorem cmpStr_eq' (a : List UInt8) : Ord.cmpStr a a = 0 := by simp [Ord.cmpStr, Ord.less_irrefl]
theorem str_three (a b : List UInt8) : (Op.bytesLess a b = true ∧ Ord.cmpStr a b = -1) ∨ (a = b ∧ Ord.cmpStr a b = 0) ∨ (Op.bytesLess b a = true ∧ Ord.cmpStr a b = 1) := by
  by_cases h : Op.bytesLess a b = true
  · exact .inl ⟨h, cmpStr_lt' h⟩
  · by_cases e : a = b
    · subst e; exact .inr (.inl ⟨rfl, cmpStr_eq' a⟩)
    · have := Ord.less_total a b (by simpa using h) e
      exact .inr (.inr ⟨this, cmpStr_gt' this⟩)
theorem cmpStr_zero {a b : List UInt8} : Ord.cmpStr a b = 0 ↔ a = b := by
  rcases str_three a b with ⟨h, e⟩ | ⟨h, e⟩ | ⟨h, e⟩
  · constructor
    · omega
    · rintro rfl; simp [Ord.less_irrefl] at h
  · simp [h, cmpStr_eq']
  · constructor
    · omega
    · rintro rfl; simp [Ord.less_irrefl] at h
theorem str_tells : Tells Ord.cmpStr := by
  refine ⟨fun a b => ?_, fun a b d h k => ?_⟩
  · rcases str_three a b with ⟨h, e⟩ | ⟨h, e⟩ | ⟨h, e⟩
    · rw [e, cmpStr_gt' h]; rfl
    · subst h; rw [e]; rfl
    · rw [e, cmpStr_lt' h]
  · rcases str_three a b with ⟨h1, e1⟩ | ⟨h1, e1⟩ | ⟨h1, e1⟩
    · rcases str_three b d with ⟨h2, e2⟩ | ⟨h2, e2⟩ | ⟨h2, e2⟩
      · rw [cmpStr_lt' (less_trans _ _ _ h1 h2)]; omega
      · subst h2; exact h
      · omega
    · subst h1; exact k
    · omega

def cmpV (a b : Ver) : Int := lex (Ord.cmpStr a.key.toList b.key.toList) (lex (Ord.cmpInt a.b b.b) (lex (Ord.cmpInt a.e b.e) (lex (Ord.cmpInt a.s b.s) (Ord.cmpInt a.sp.1 b.sp.1))))
theorem ver_tells : Tells cmpV := (str_tells.pull fun v : Ver => v.key.toList).lex ((int_tells.pull fun v : Ver => v.b).lex ((int_tells.pull fun v : Ver => v.e).lex ((int_tells.pull fun v : Ver => v.s).lex (int_tells.pull fun v : Ver => v.sp.1))))
theorem bytes_listR (a b : ByteArray) : (a.toList = b.toList) ↔ a = b := by
  constructor
  · intro e
    rw [ByteArray.toList_eq, ByteArray.toList_eq] at e
    obtain ⟨⟨x⟩⟩ := a
    obtain ⟨⟨y⟩⟩ := b
    simp at e
    subst e
    rfl
  · intro e; rw [e]

def lessV (a b : Ver) : Bool := if a.key ≠ b.key then Op.bytesLess a.key.toList b.key.toList else if a.b ≠ b.b then decide (a.b < b.b) else if a.e ≠ b.e then decide (a.e < b.e) else if a.s ≠ b.s then decide (a.s < b.s) else decide (a.sp.1 < b.sp.1)
theorem cmpInt_neg (a b : Int) : Ord.cmpInt a b < 0 ↔ a < b := by unfold Ord.cmpInt; split; simp_all; split <;> simp_all
theorem cmpStr_neg (a b : List UInt8) : Ord.cmpStr a b < 0 ↔ Op.bytesLess a b = true := by
  rcases str_three a b with ⟨h, e⟩ | ⟨h, e⟩ | ⟨h, e⟩
  · simp [h, e]
  · subst h; simp [e, Ord.less_irrefl]
  · simp [e, Ord.less_asymm _ _ h]
theorem lex_neg (x y : Int) : lex x y < 0 ↔ x < 0 ∨ (x = 0 ∧ y < 0) := by
  unfold lex
  by_cases h : x = 0
  · simp [h]
  · simp [h]
theorem lessV_iff (a b : Ver) : lessV a b = decide (cmpV a b < 0) := by
  rw [Bool.eq_iff_iff, decide_eq_true_iff]
  unfold lessV cmpV
  rw [lex_neg, lex_neg, lex_neg, lex_neg, cmpStr_neg, cmpStr_zero, cmpInt_neg, cmpInt_neg, cmpInt_neg, cmpInt_neg, cmpInt_zero, cmpInt_zero, cmpInt_zero, bytes_listR]
  by_cases h0 : a.key = b.key
  · rw [if_neg (fun h => h h0)]
    simp only [h0, Ord.less_irrefl, Bool.false_eq_true, false_or, true_and]
    by_cases h1 : a.b = b.b
    · rw [if_neg (fun h => h h1)]
      simp only [h1, Int.lt_irrefl, false_or, true_and]
      by_cases h2 : a.e = b.e
      · rw [if_neg (fun h => h h2)]
        simp only [h2, Int.lt_irrefl, false_or, true_and]
        by_cases h3 : a.s = b.s
        · rw [if_neg (fun h => h h3)]
          simp [h3]
        · rw [if_pos h3]; simp [h3]
      · rw [if_pos h2]; simp [h2]
    · rw [if_pos h1]; simp [h1]
  · rw [if_pos h0]; simp [h0]
def firstN (l : List Int) : Int := l.foldr lex 0
theorem firstN_five (a b c d e : Int) : firstN [a, b, c, d, e] = lex a (lex b (lex c (lex d e))) := by
  simp only [firstN, List.foldr]
  have : lex e 0 = e := by unfold lex; split <;> omega
  rw [this]
end Go.Proofs.Ytnioiojafnkmhaa
/- Layer 6: the order of versions, by the project and by the document. -/
namespace Go.Proofs.Ytnioiojafnkmhaa
open Go.RowKit
set_option linter.unusedVariables false

set_option maxHeartbeats 1000000 in
theorem row_first (va : Value) (l : List Int) (w : World) (ha : RdI w w.heap.size va l) (hl : l.length ≤ 1000000) :
    Calls Try.prog 25 #[va] w fun e w' => e = .returned (.int .i64 (firstN l)) ∧ Below w.heap.size w w' := by
  obtain ⟨A, c, rfl, hla, hc, hcell⟩ := ha
  go_enter Try.func25, Try.ntmps25
  go_wp2_with fail
  go_loopw [7] (fun i wr => ∃ k : Nat, i = .int .i64 k ∧ k ≤ l.length ∧ firstN l = firstN (l.drop k) ∧ Below w.heap.size w wr) (fun i _ => l.length - (intOf i).toNat)
  case atStart => exact ⟨0, rfl, Nat.zero_le _, rfl, Below.refl _ _⟩
  case round =>
    obtain ⟨k, rfl, hk, hf, hb⟩ := hrel
    have HF := Lib.hid hf
    have G := Lib.hid hb
    clear hf hb
    by_cases hlt : k < l.length
    · obtain ⟨b, o, rfl, hbb, hcl⟩ := hcell (by omega)
      have c1 : wr.cell? ⟨b, o + k, none⟩ = some (.int .i64 l[k]) := (G.out.cell (p := ⟨b, o + k, none⟩) hbb).trans (hcl k l[k] (List.getElem?_eq_getElem hlt))
      have HS := Lib.hid (show firstN (l.drop k) = lex l[k] (firstN (l.drop (k + 1))) from by rw [List.drop_eq_getElem_cons hlt]; rfl)
      clear hcl hcell
      generalize l[k] = x at *
      by_cases hx : x = 0
      · subst hx
        have HZ := Lib.hid (show firstN l = firstN (l.drop (k + 1)) from by rw [HF.out, HS.out]; rfl)
        go_wp2_with fail
        go_roundw
        case rel => exact ⟨k + 1, by go_num, by omega, HZ.out, G.out⟩
        case measure => simp [intOf]; omega
      · have hne : (x != 0) = true := by simpa [bne] using hx
        have HZ := Lib.hid (show firstN l = x from by rw [HF.out, HS.out]; exact if_pos hx)
        go_wp2_with fail
        go_ret
        exact ⟨ret_int HZ.out.symm, G.out⟩
    · have HZ := Lib.hid (show firstN l = 0 from by rw [HF.out, List.drop_of_length_le (by omega)]; rfl)
      go_wp2_with fail
      go_ret
      exact ⟨ret_int HZ.out.symm, G.out⟩

set_option maxHeartbeats 4000000 in
theorem row_compare (a b : Ver) (w : World) :
    Calls Try.prog 13 #[verV a, verV b] w fun e w' => e = .returned (.int .i64 (cmpV a b)) ∧ Below w.heap.size w w' := by
  have HC := Lib.hid (show cmpV a b = firstN [Ord.cmpStr a.key.toList b.key.toList, Ord.cmpInt a.b b.b, Ord.cmpInt a.e b.e, Ord.cmpInt a.s b.s, Ord.cmpInt a.sp.1 b.sp.1] from (firstN_five _ _ _ _ _).symm)
  have K0 := Lib.hid (fun w => Ord.cmp_str a.key b.key w)
  have K1 := Lib.hid (fun w => Ord.cmp_int a.b b.b w)
  have K2 := Lib.hid (fun w => Ord.cmp_int a.e b.e w)
  have K3 := Lib.hid (fun w => Ord.cmp_int a.s b.s w)
  have K4 := Lib.hid (fun w => Ord.cmp_int a.sp.1 b.sp.1 w)
  generalize cmpV a b = res at *
  generalize Ord.cmpStr a.key.toList b.key.toList = q0 at *
  generalize Ord.cmpInt a.b b.b = q1 at *
  generalize Ord.cmpInt a.e b.e = q2 at *
  generalize Ord.cmpInt a.s b.s = q3 at *
  generalize Ord.cmpInt a.sp.1 b.sp.1 = q4 at *
  obtain ⟨k1, b1, e1, s1, ⟨x1, y1⟩, u1, g1⟩ := a
  obtain ⟨k2, b2, e2, s2, ⟨x2, y2⟩, u2, g2⟩ := b
  unfold verV
  simp only at *
  have B1 := Lib.hid (Box.new w #[.string k1, .int .i64 b1, .int .i64 e1, .int .i64 s1, .int .i64 x1, .int .i64 y1, .string u1, .bool g1] 33 _ rfl)
  have B1 := Lib.hid (B1.out.alloc (.cells #[.string k2, .int .i64 b2, .int .i64 e2, .int .i64 s2, .int .i64 x2, .int .i64 y2, .string u2, .bool g2] 33))
  have B2 := Lib.hid (Box.new (w.alloc (.cells #[.string k1, .int .i64 b1, .int .i64 e1, .int .i64 s1, .int .i64 x1, .int .i64 y1, .string u1, .bool g1] 33)) #[.string k2, .int .i64 b2, .int .i64 e2, .int .i64 s2, .int .i64 x2, .int .i64 y2, .string u2, .bool g2] 33 _ rfl)
  have G := Lib.hid ((alloc_below w (.cells #[.string k1, .int .i64 b1, .int .i64 e1, .int .i64 s1, .int .i64 x1, .int .i64 y1, .string u1, .bool g1] 33)).trans ((alloc_below (w.alloc (.cells #[.string k1, .int .i64 b1, .int .i64 e1, .int .i64 s1, .int .i64 x1, .int .i64 y1, .string u1, .bool g1] 33)) (.cells #[.string k2, .int .i64 b2, .int .i64 e2, .int .i64 s2, .int .i64 x2, .int .i64 y2, .string u2, .bool g2] 33)).mono (by simp)))
  have hs1 : (w.alloc (.cells #[.string k1, .int .i64 b1, .int .i64 e1, .int .i64 s1, .int .i64 x1, .int .i64 y1, .string u1, .bool g1] 33)).heap.size = w.heap.size + 1 := by simp
  rw [hs1] at B2
  clear hs1
  go_enter Try.func13, Try.ntmps13
  go_wp2_with fail
  generalize (w.alloc (.cells #[.string k1, .int .i64 b1, .int .i64 e1, .int .i64 s1, .int .i64 x1, .int .i64 y1, .string u1, .bool g1] 33)).alloc (.cells #[.string k2, .int .i64 b2, .int .i64 e2, .int .i64 s2, .int .i64 x2, .int .i64 y2, .string u2, .bool g2] 33) = w0 at *
  have B1 := Lib.hid (show Box w0.drew w.heap.size #[.string k1, .int .i64 b1, .int .i64 e1, .int .i64 s1, .int .i64 x1, .int .i64 y1, .string u1, .bool g1] 33 from B1.out)
  have B2 := Lib.hid (show Box w0.drew (w.heap.size + 1) #[.string k2, .int .i64 b2, .int .i64 e2, .int .i64 s2, .int .i64 x2, .int .i64 y2, .string u2, .bool g2] 33 from B2.out)
  have G := Lib.hid G.out.drew
-- REGION A
  refine reg_start (by kernel_rfl) ?_
  refine reg_take2 0 5 (v := ?_) (T' := ?_) (Later.refl _) (by kernel_rfl) (by kernel_rfl) (by kernel_rfl) (fun _ _ _ h => h) (fun o ho => ?_) ?_ ?_
  rotate_left 2
  · cases ho
    refine ⟨rfl, rfl, fun W hW => ?_⟩
    go_simp; (try with_reducible rfl)
  · simp only [List.setIfInBounds_toArray, List.set_cons_succ, List.set_cons_zero]; exact rfl
  refine reg_take2 1 6 (v := ?_) (T' := ?_) (Later.refl _) (by kernel_rfl) (by kernel_rfl) (by kernel_rfl) (fun _ _ _ h => h) (fun o ho => ?_) ?_ ?_
  rotate_left 2
  · cases ho
    refine ⟨rfl, rfl, fun W hW => ?_⟩
    have BW := B1.out.later hW
    have c := BW.cell 0 (.string k1) rfl
    go_simp; (try with_reducible rfl)
  · simp only [List.setIfInBounds_toArray, List.set_cons_succ, List.set_cons_zero]; exact rfl
  refine reg_take2 2 7 (v := ?_) (T' := ?_) (Later.refl _) (by kernel_rfl) (by kernel_rfl) (by kernel_rfl) (fun _ _ _ h => h) (fun o ho => ?_) ?_ ?_
  rotate_left 2
  · cases ho
    refine ⟨rfl, rfl, fun W hW => ?_⟩
    go_simp; (try with_reducible rfl)
  · simp only [List.setIfInBounds_toArray, List.set_cons_succ, List.set_cons_zero]; exact rfl
  refine reg_take2 3 8 (v := ?_) (T' := ?_) (Later.refl _) (by kernel_rfl) (by kernel_rfl) (by kernel_rfl) (fun _ _ _ h => h) (fun o ho => ?_) ?_ ?_
  rotate_left 2
  · cases ho
    refine ⟨rfl, rfl, fun W hW => ?_⟩
    have BW := B2.out.later hW
    have c := BW.cell 0 (.string k2) rfl
    go_simp; (try with_reducible rfl)
  · simp only [List.setIfInBounds_toArray, List.set_cons_succ, List.set_cons_zero]; exact rfl
  refine reg_take2 5 10 (v := ?_) (T' := ?_) (Later.refl _) (by kernel_rfl) (by kernel_rfl) (by kernel_rfl) (fun _ _ _ h => h) (fun o ho => ?_) ?_ ?_
  rotate_left 2
  · cases ho
    refine ⟨rfl, rfl, fun W hW => ?_⟩
    go_simp; (try with_reducible rfl)
  · simp only [List.setIfInBounds_toArray, List.set_cons_succ, List.set_cons_zero]; exact rfl
  refine reg_take2 6 11 (v := ?_) (T' := ?_) (Later.refl _) (by kernel_rfl) (by kernel_rfl) (by kernel_rfl) (fun _ _ _ h => h) (fun o ho => ?_) ?_ ?_
  rotate_left 2
  · cases ho
    refine ⟨rfl, rfl, fun W hW => ?_⟩
    go_simp; (try with_reducible rfl)
  · simp only [List.setIfInBounds_toArray, List.set_cons_succ, List.set_cons_zero]; exact rfl
  refine reg_take2 7 12 (v := ?_) (T' := ?_) (Later.refl _) (by kernel_rfl) (by kernel_rfl) (by kernel_rfl) (fun _ _ _ h => h) (fun o ho => ?_) ?_ ?_
  rotate_left 2
  · cases ho
    refine ⟨rfl, rfl, fun W hW => ?_⟩
    have BW := B1.out.later hW
    have c := BW.cell 1 (.int .i64 b1) rfl
    go_simp; (try with_reducible rfl)
  · simp only [List.setIfInBounds_toArray, List.set_cons_succ, List.set_cons_zero]; exact rfl
  refine reg_take2 8 13 (v := ?_) (T' := ?_) (Later.refl _) (by kernel_rfl) (by kernel_rfl) (by kernel_rfl) (fun _ _ _ h => h) (fun o ho => ?_) ?_ ?_
  rotate_left 2
  · cases ho
    refine ⟨rfl, rfl, fun W hW => ?_⟩
    go_simp; (try with_reducible rfl)
  · simp only [List.setIfInBounds_toArray, List.set_cons_succ, List.set_cons_zero]; exact rfl
  refine reg_take2 9 14 (v := ?_) (T' := ?_) (Later.refl _) (by kernel_rfl) (by kernel_rfl) (by kernel_rfl) (fun _ _ _ h => h) (fun o ho => ?_) ?_ ?_
  rotate_left 2
  · cases ho
    refine ⟨rfl, rfl, fun W hW => ?_⟩
    go_simp; (try with_reducible rfl)
  · simp only [List.setIfInBounds_toArray, List.set_cons_succ, List.set_cons_zero]; exact rfl
  refine reg_take2 10 15 (v := ?_) (T' := ?_) (Later.refl _) (by kernel_rfl) (by kernel_rfl) (by kernel_rfl) (fun _ _ _ h => h) (fun o ho => ?_) ?_ ?_
  rotate_left 2
  · cases ho
    refine ⟨rfl, rfl, fun W hW => ?_⟩
    have BW := B2.out.later hW
    have c := BW.cell 1 (.int .i64 b2) rfl
    go_simp; (try with_reducible rfl)
  · simp only [List.setIfInBounds_toArray, List.set_cons_succ, List.set_cons_zero]; exact rfl
  refine reg_take2 12 17 (v := ?_) (T' := ?_) (Later.refl _) (by kernel_rfl) (by kernel_rfl) (by kernel_rfl) (fun _ _ _ h => h) (fun o ho => ?_) ?_ ?_
  rotate_left 2
  · cases ho
    refine ⟨rfl, rfl, fun W hW => ?_⟩
    go_simp; (try with_reducible rfl)
  · simp only [List.setIfInBounds_toArray, List.set_cons_succ, List.set_cons_zero]; exact rfl
  refine reg_take2 13 18 (v := ?_) (T' := ?_) (Later.refl _) (by kernel_rfl) (by kernel_rfl) (by kernel_rfl) (fun _ _ _ h => h) (fun o ho => ?_) ?_ ?_
  rotate_left 2
  · cases ho
    refine ⟨rfl, rfl, fun W hW => ?_⟩
    go_simp; (try with_reducible rfl)
  · simp only [List.setIfInBounds_toArray, List.set_cons_succ, List.set_cons_zero]; exact rfl
  refine reg_take2 14 19 (v := ?_) (T' := ?_) (Later.refl _) (by kernel_rfl) (by kernel_rfl) (by kernel_rfl) (fun _ _ _ h => h) (fun o ho => ?_) ?_ ?_
  rotate_left 2
  · cases ho
    refine ⟨rfl, rfl, fun W hW => ?_⟩
    have BW := B1.out.later hW
    have c := BW.cell 2 (.int .i64 e1) rfl
    go_simp; (try with_reducible rfl)
  · simp only [List.setIfInBounds_toArray, List.set_cons_succ, List.set_cons_zero]; exact rfl
  refine reg_take2 15 20 (v := ?_) (T' := ?_) (Later.refl _) (by kernel_rfl) (by kernel_rfl) (by kernel_rfl) (fun _ _ _ h => h) (fun o ho => ?_) ?_ ?_
  rotate_left 2
  · cases ho
    refine ⟨rfl, rfl, fun W hW => ?_⟩
    go_simp; (try with_reducible rfl)
  · simp only [List.setIfInBounds_toArray, List.set_cons_succ, List.set_cons_zero]; exact rfl
  refine reg_take2 16 21 (v := ?_) (T' := ?_) (Later.refl _) (by kernel_rfl) (by kernel_rfl) (by kernel_rfl) (fun _ _ _ h => h) (fun o ho => ?_) ?_ ?_
  rotate_left 2
  · cases ho
    refine ⟨rfl, rfl, fun W hW => ?_⟩
    go_simp; (try with_reducible rfl)
  · simp only [List.setIfInBounds_toArray, List.set_cons_succ, List.set_cons_zero]; exact rfl
  refine reg_take2 17 22 (v := ?_) (T' := ?_) (Later.refl _) (by kernel_rfl) (by kernel_rfl) (by kernel_rfl) (fun _ _ _ h => h) (fun o ho => ?_) ?_ ?_
  rotate_left 2
  · cases ho
    refine ⟨rfl, rfl, fun W hW => ?_⟩
    have BW := B2.out.later hW
    have c := BW.cell 2 (.int .i64 e2) rfl
    go_simp; (try with_reducible rfl)
  · simp only [List.setIfInBounds_toArray, List.set_cons_succ, List.set_cons_zero]; exact rfl
  refine reg_take2 19 24 (v := ?_) (T' := ?_) (Later.refl _) (by kernel_rfl) (by kernel_rfl) (by kernel_rfl) (fun _ _ _ h => h) (fun o ho => ?_) ?_ ?_
  rotate_left 2
  · cases ho
    refine ⟨rfl, rfl, fun W hW => ?_⟩
    go_simp; (try with_reducible rfl)
  · simp only [List.setIfInBounds_toArray, List.set_cons_succ, List.set_cons_zero]; exact rfl
  refine reg_take2 20 25 (v := ?_) (T' := ?_) (Later.refl _) (by kernel_rfl) (by kernel_rfl) (by kernel_rfl) (fun _ _ _ h => h) (fun o ho => ?_) ?_ ?_
  rotate_left 2
  · cases ho
    refine ⟨rfl, rfl, fun W hW => ?_⟩
    go_simp; (try with_reducible rfl)
  · simp only [List.setIfInBounds_toArray, List.set_cons_succ, List.set_cons_zero]; exact rfl
  refine reg_take2 21 26 (v := ?_) (T' := ?_) (Later.refl _) (by kernel_rfl) (by kernel_rfl) (by kernel_rfl) (fun _ _ _ h => h) (fun o ho => ?_) ?_ ?_
  rotate_left 2
  · cases ho
    refine ⟨rfl, rfl, fun W hW => ?_⟩
    have BW := B1.out.later hW
    have c := BW.cell 3 (.int .i64 s1) rfl
    go_simp; (try with_reducible rfl)
  · simp only [List.setIfInBounds_toArray, List.set_cons_succ, List.set_cons_zero]; exact rfl
  refine reg_take2 22 27 (v := ?_) (T' := ?_) (Later.refl _) (by kernel_rfl) (by kernel_rfl) (by kernel_rfl) (fun _ _ _ h => h) (fun o ho => ?_) ?_ ?_
  rotate_left 2
  · cases ho
    refine ⟨rfl, rfl, fun W hW => ?_⟩
    go_simp; (try with_reducible rfl)
  · simp only [List.setIfInBounds_toArray, List.set_cons_succ, List.set_cons_zero]; exact rfl
  refine reg_take2 23 28 (v := ?_) (T' := ?_) (Later.refl _) (by kernel_rfl) (by kernel_rfl) (by kernel_rfl) (fun _ _ _ h => h) (fun o ho => ?_) ?_ ?_
  rotate_left 2
  · cases ho
    refine ⟨rfl, rfl, fun W hW => ?_⟩
    go_simp; (try with_reducible rfl)
  · simp only [List.setIfInBounds_toArray, List.set_cons_succ, List.set_cons_zero]; exact rfl
  refine reg_take2 24 29 (v := ?_) (T' := ?_) (Later.refl _) (by kernel_rfl) (by kernel_rfl) (by kernel_rfl) (fun _ _ _ h => h) (fun o ho => ?_) ?_ ?_
  rotate_left 2
  · cases ho
    refine ⟨rfl, rfl, fun W hW => ?_⟩
    have BW := B2.out.later hW
    have c := BW.cell 3 (.int .i64 s2) rfl
    go_simp; (try with_reducible rfl)
  · simp only [List.setIfInBounds_toArray, List.set_cons_succ, List.set_cons_zero]; exact rfl
  refine reg_take2 26 31 (v := ?_) (T' := ?_) (Later.refl _) (by kernel_rfl) (by kernel_rfl) (by kernel_rfl) (fun _ _ _ h => h) (fun o ho => ?_) ?_ ?_
  rotate_left 2
  · cases ho
    refine ⟨rfl, rfl, fun W hW => ?_⟩
    go_simp; (try with_reducible rfl)
  · simp only [List.setIfInBounds_toArray, List.set_cons_succ, List.set_cons_zero]; exact rfl
  refine reg_take2 27 32 (v := ?_) (T' := ?_) (Later.refl _) (by kernel_rfl) (by kernel_rfl) (by kernel_rfl) (fun _ _ _ h => h) (fun o ho => ?_) ?_ ?_
  rotate_left 2
  · cases ho
    refine ⟨rfl, rfl, fun W hW => ?_⟩
    go_simp; (try with_reducible rfl)
  · simp only [List.setIfInBounds_toArray, List.set_cons_succ, List.set_cons_zero]; exact rfl
  refine reg_take2 28 33 (v := ?_) (T' := ?_) (Later.refl _) (by kernel_rfl) (by kernel_rfl) (by kernel_rfl) (fun _ _ _ h => h) (fun o ho => ?_) ?_ ?_
  rotate_left 2
  · cases ho
    refine ⟨rfl, rfl, fun W hW => ?_⟩
    have BW := B1.out.later hW
    have c := BW.cell 4 (.int .i64 x1) rfl
    go_simp; (try with_reducible rfl)
  · simp only [List.setIfInBounds_toArray, List.set_cons_succ, List.set_cons_zero]; exact rfl
  refine reg_take2 29 34 (v := ?_) (T' := ?_) (Later.refl _) (by kernel_rfl) (by kernel_rfl) (by kernel_rfl) (fun _ _ _ h => h) (fun o ho => ?_) ?_ ?_
  rotate_left 2
  · cases ho
    refine ⟨rfl, rfl, fun W hW => ?_⟩
    go_simp; (try with_reducible rfl)
  · simp only [List.setIfInBounds_toArray, List.set_cons_succ, List.set_cons_zero]; exact rfl
  refine reg_take2 30 35 (v := ?_) (T' := ?_) (Later.refl _) (by kernel_rfl) (by kernel_rfl) (by kernel_rfl) (fun _ _ _ h => h) (fun o ho => ?_) ?_ ?_
  rotate_left 2
  · cases ho
    refine ⟨rfl, rfl, fun W hW => ?_⟩
    go_simp; (try with_reducible rfl)
  · simp only [List.setIfInBounds_toArray, List.set_cons_succ, List.set_cons_zero]; exact rfl
  refine reg_take2 31 36 (v := ?_) (T' := ?_) (Later.refl _) (by kernel_rfl) (by kernel_rfl) (by kernel_rfl) (fun _ _ _ h => h) (fun o ho => ?_) ?_ ?_
  rotate_left 2
  · cases ho
    refine ⟨rfl, rfl, fun W hW => ?_⟩
    have BW := B2.out.later hW
    have c := BW.cell 4 (.int .i64 x2) rfl
    go_simp; (try with_reducible rfl)
  · simp only [List.setIfInBounds_toArray, List.set_cons_succ, List.set_cons_zero]; exact rfl
  refine reg_call2 4 9 (Later.refl _) (by kernel_rfl) 26 #[.string k1, .string k2] (fun o ho => by cases ho; exact ⟨rfl, rfl, fun W => by go_simp⟩) ?_
  refine (K0.out _).mono ?_
  rintro z y1 ⟨rfl, rfl⟩
  refine ⟨_, _, rfl, Later.refl _, (by simp only [List.setIfInBounds_toArray, List.set_cons_succ, List.set_cons_zero]; exact rfl), ?_⟩
  refine reg_call2 11 16 (Later.refl _) (by kernel_rfl) 27 #[.int .i64 b1, .int .i64 b2] (fun o ho => by cases ho; exact ⟨rfl, rfl, fun W => by go_simp⟩) ?_
  refine (K1.out _).mono ?_
  rintro z y1 ⟨rfl, rfl⟩
  refine ⟨_, _, rfl, Later.refl _, (by simp only [List.setIfInBounds_toArray, List.set_cons_succ, List.set_cons_zero]; exact rfl), ?_⟩
  refine reg_call2 18 23 (Later.refl _) (by kernel_rfl) 27 #[.int .i64 e1, .int .i64 e2] (fun o ho => by cases ho; exact ⟨rfl, rfl, fun W => by go_simp⟩) ?_
  refine (K2.out _).mono ?_
  rintro z y1 ⟨rfl, rfl⟩
  refine ⟨_, _, rfl, Later.refl _, (by simp only [List.setIfInBounds_toArray, List.set_cons_succ, List.set_cons_zero]; exact rfl), ?_⟩
  refine reg_call2 25 30 (Later.refl _) (by kernel_rfl) 27 #[.int .i64 s1, .int .i64 s2] (fun o ho => by cases ho; exact ⟨rfl, rfl, fun W => by go_simp⟩) ?_
  refine (K3.out _).mono ?_
  rintro z y1 ⟨rfl, rfl⟩
  refine ⟨_, _, rfl, Later.refl _, (by simp only [List.setIfInBounds_toArray, List.set_cons_succ, List.set_cons_zero]; exact rfl), ?_⟩
  refine reg_call2 32 37 (Later.refl _) (by kernel_rfl) 27 #[.int .i64 x1, .int .i64 x2] (fun o ho => by cases ho; exact ⟨rfl, rfl, fun W => by go_simp⟩) ?_
  refine (K4.out _).mono ?_
  rintro z y1 ⟨rfl, rfl⟩
  refine ⟨_, _, rfl, Later.refl _, (by simp only [List.setIfInBounds_toArray, List.set_cons_succ, List.set_cons_zero]; exact rfl), ?_⟩
  refine reg_make2 33 38 (v := ?_) (w' := ?_) (T' := ?_) (Later.refl _) (by kernel_rfl) (fun o ho => ?_) ?_ ?_ ?_
  rotate_left 3
  · cases ho
    refine ⟨rfl, rfl, ?_⟩
    go_simp; constructor <;> with_reducible rfl
  · exact Later.alloc _ _
  · simp only [List.setIfInBounds_toArray, List.set_cons_succ, List.set_cons_zero]; exact rfl
  refine reg_call2 34 39 (Later.refl _) (by kernel_rfl) 25 #[.slice (some ⟨w0.heap.size, 0, none⟩) 5 5] (fun o ho => by cases ho; exact ⟨rfl, rfl, fun W => by go_simp⟩) ?_
  refine (row_first _ [q0, q1, q2, q3, q4] _ (RdV.lit w0.drew _ _ [q0, q1, q2, q3, q4] 5 _ rfl rfl (by simp) (by simp)) (by simp)).mono ?_
  rintro z x3 ⟨rfl, hb3⟩
  have hb5 := (alloc_below w0.drew _).trans (hb3.mono (by simp))
  have G := Lib.hid (G.out.trans (hb5.mono G.out.size))
  refine ⟨_, _, rfl, hb3, (by simp only [List.setIfInBounds_toArray, List.set_cons_succ, List.set_cons_zero]; exact rfl), ?_⟩
  clear hb3 hb5
  refine reg_take2 35 4 (v := ?_) (T' := ?_) (Later.refl _) (by kernel_rfl) (by kernel_rfl) (by kernel_rfl) (fun _ _ _ h => h) (fun o ho => ?_) ?_ ?_
  rotate_left 2
  · cases ho
    refine ⟨rfl, rfl, fun W hW => ?_⟩
    go_simp; (try with_reducible rfl)
  · simp only [List.setIfInBounds_toArray, List.set_cons_succ, List.set_cons_zero]; exact rfl
  refine reg_done (by kernel_rfl) ?_
-- DONE A
  go_wp2_with fail
  go_ret
  exact ⟨ret_int HC.out.symm, G.out⟩

set_option maxHeartbeats 4000000 in
theorem ref6_less (a b : Ver) (w : World) :
    Calls Try.prog 32 #[verV a, verV b] w fun e w' => e = .returned (.bool (lessV a b)) ∧ Below w.heap.size w w' := by
  obtain ⟨k1, b1, e1, s1, ⟨x1, y1⟩, u1, g1⟩ := a
  obtain ⟨k2, b2, e2, s2, ⟨x2, y2⟩, u2, g2⟩ := b
  unfold verV lessV
  simp only
  obtain ⟨res, hres⟩ : ∃ res : Bool, res = (if k1 ≠ k2 then Op.bytesLess k1.toList k2.toList else if b1 ≠ b2 then decide (b1 < b2) else if e1 ≠ e2 then decide (e1 < e2) else if s1 ≠ s2 then decide (s1 < s2) else decide (x1 < x2)) := ⟨_, rfl⟩
  rw [← hres]
  have G := Lib.hid ((alloc_below w (.cells #[.string k1, .int .i64 b1, .int .i64 e1, .int .i64 s1, .int .i64 x1, .int .i64 y1, .string u1, .bool g1] 33)).trans ((alloc_below _ (.cells #[.string k2, .int .i64 b2, .int .i64 e2, .int .i64 s2, .int .i64 x2, .int .i64 y2, .string u2, .bool g2] 33)).mono (by simp)))
  by_cases hk : k1 = k2
  · rw [if_neg (fun h => h hk)] at hres
    by_cases hb : b1 = b2
    · rw [if_neg (fun h => h hb)] at hres
      by_cases he : e1 = e2
      · rw [if_neg (fun h => h he)] at hres
        by_cases hs : s1 = s2
        · rw [if_neg (fun h => h hs)] at hres
          subst hk hb he hs
          have HR := Lib.hid hres
          clear hres
          go_enter Try.func32, Try.ntmps32
          go_wp2
          all_goals go_ret
          all_goals exact ⟨ret_bool (by rw [HR.out]), G.out⟩
        · rw [if_pos hs] at hres
          subst hk hb he
          have hne : (s1 != s2) = true := by simpa [bne] using hs
          have HR := Lib.hid hres
          clear hres hs
          go_enter Try.func32, Try.ntmps32
          go_wp2
          all_goals go_ret
          all_goals exact ⟨ret_bool (by rw [HR.out]), G.out⟩
      · rw [if_pos he] at hres
        subst hk hb
        have hne : (e1 != e2) = true := by simpa [bne] using he
        have HR := Lib.hid hres
        clear hres he
        go_enter Try.func32, Try.ntmps32
        go_wp2
        all_goals go_ret
        all_goals exact ⟨ret_bool (by rw [HR.out]), G.out⟩
    · rw [if_pos hb] at hres
      subst hk
      have hne : (b1 != b2) = true := by simpa [bne] using hb
      have HR := Lib.hid hres
      clear hres hb
      go_enter Try.func32, Try.ntmps32
      go_wp2
      all_goals go_ret
      all_goals exact ⟨ret_bool (by rw [HR.out]), G.out⟩
  · rw [if_pos hk] at hres
    have hne : (k1.toList == k2.toList) = false := by rw [beq_eq_false_iff_ne]; exact fun e => hk ((bytes_listR _ _).1 e)
    have HR := Lib.hid hres
    clear hres hk
    go_enter Try.func32, Try.ntmps32
    go_wp2
    all_goals go_ret
    all_goals exact ⟨ret_bool (by rw [HR.out]), G.out⟩
end Go.Proofs.Ytnioiojafnkmhaa
/- Layer 6: the document's example; the first 500 bytes. -/
namespace Go.Proofs.Ytnioiojafnkmhaa
open Go.RowKit
set_option linter.unusedVariables false

end Go.Proofs.Ytnioiojafnkmhaa
/- Layer 6: arguments that are versions, slices of versions. -/
namespace Go.Proofs.Ytnioiojafnkmhaa
open Go.RowKit Go.ChangeShapes Go.WideShapes Go.Deep
set_option linter.unusedVariables false

/-- A version as an argument may be. -/
structure OkVer (v : Ver) : Prop where
  key : v.key.size ≤ 9223372036854775807
  val : v.val.size ≤ 9223372036854775807
  b : -9223372036854775808 ≤ v.b ∧ v.b ≤ 9223372036854775807
  e : -9223372036854775808 ≤ v.e ∧ v.e ≤ 9223372036854775807
  s : -9223372036854775808 ≤ v.s ∧ v.s ≤ 9223372036854775807
  x : -9223372036854775808 ≤ v.sp.1 ∧ v.sp.1 ≤ 9223372036854775807
  y : -9223372036854775808 ≤ v.sp.2 ∧ v.sp.2 ≤ 9223372036854775807

section
variable {H : Type} {enc : TypeId × Value → H} {w : World} {base : Nat} {spare : Nat → Bool} {held : Bool}
theorem cells_ver : Try.prog.cellsOf 33 = 8 := by kernel_rfl
theorem cells_stamp : Try.prog.cellsOf 29 = 3 := by kernel_rfl
theorem cells_spR : Try.prog.cellsOf 31 = 2 := by kernel_rfl
theorem cells_iR : Try.prog.cellsOf 3 = 1 := by kernel_rfl
theorem cells_sR : Try.prog.cellsOf 9 = 1 := by kernel_rfl
theorem cells_bR : Try.prog.cellsOf 4 = 1 := by kernel_rfl
theorem list8 {α : Type} {l : List α} (h : l.length = 8) : ∃ a b c d e f g i, l = [a, b, c, d, e, f, g, i] := by
  match l, h with
  | [a, b, c, d, e, f, g, i], _ => exact ⟨a, b, c, d, e, f, g, i, rfl⟩
theorem trod_struct5 {P : Program} {t : TypeId} {f0 f1 f2 f3 f4 : Field} {fuel : Nat} {cs : List Value} {x : DataW H × List MemPlace} (ht : P.underlying t = some (.struct #[f0, f1, f2, f3, f4])) (h : DataW.trod enc P w base spare held fuel t cs = some x) :
    ∃ y0 y1 y2 y3 y4 n, cs.length = P.cellsOf t ∧ DataW.trod enc P w base spare held n f0.type ((cs.drop f0.offset).take (P.cellsOf f0.type)) = some y0 ∧
      DataW.trod enc P w base spare held n f1.type ((cs.drop f1.offset).take (P.cellsOf f1.type)) = some y1 ∧ DataW.trod enc P w base spare held n f2.type ((cs.drop f2.offset).take (P.cellsOf f2.type)) = some y2 ∧
      DataW.trod enc P w base spare held n f3.type ((cs.drop f3.offset).take (P.cellsOf f3.type)) = some y3 ∧ DataW.trod enc P w base spare held n f4.type ((cs.drop f4.offset).take (P.cellsOf f4.type)) = some y4 := by
  obtain ⟨xs, n, _, rfl, hl, hlen, hf⟩ := DataW.trod_struct ht h
  match xs, hlen with
  | [y0, y1, y2, y3, y4], _ => exact ⟨y0, y1, y2, y3, y4, n, hl, by simpa using hf 0 f0 rfl, by simpa using hf 1 f1 rfl, by simpa using hf 2 f2 rfl, by simpa using hf 3 f3 rfl, by simpa using hf 4 f4 rfl⟩
set_option maxRecDepth 100000 in
theorem trod_stamp {fuel : Nat} {cs : List Value} {x : DataW H × List MemPlace} (h : DataW.trod enc Try.prog w base spare held fuel 29 cs = some x) : ∃ b e s : Int, cs = [.int .i64 b, .int .i64 e, .int .i64 s] ∧ (-9223372036854775808 ≤ b ∧ b ≤ 9223372036854775807) ∧ (-9223372036854775808 ≤ e ∧ e ≤ 9223372036854775807) ∧ (-9223372036854775808 ≤ s ∧ s ≤ 9223372036854775807) := by
  obtain ⟨y0, y1, y2, n, -, hl, h0, h1, h2⟩ := trod_struct3 Try.underlying29 h
  rw [cells_stamp] at hl
  match cs, hl with
  | [c0, c1, c2], _ =>
    simp only [cells_iR, List.drop_zero, List.take_succ_cons, List.take_zero, List.drop_succ_cons] at h0 h1 h2
    obtain ⟨a, e0, -, w0⟩ := DataW.trod_int Try.underlying3 h0
    obtain ⟨b, e1, -, w1⟩ := DataW.trod_int Try.underlying3 h1
    obtain ⟨c, e2, -, w2⟩ := DataW.trod_int Try.underlying3 h2
    cases e0
    cases e1
    cases e2
    exact ⟨a, b, c, rfl, wf_int w0, wf_int w1, wf_int w2⟩
set_option maxRecDepth 100000 in
theorem trod_spR {fuel : Nat} {cs : List Value} {x : DataW H × List MemPlace} (h : DataW.trod enc Try.prog w base spare held fuel 31 cs = some x) : ∃ a b : Int, cs = [.int .i64 a, .int .i64 b] ∧ (-9223372036854775808 ≤ a ∧ a ≤ 9223372036854775807) ∧ (-9223372036854775808 ≤ b ∧ b ≤ 9223372036854775807) := by
  obtain ⟨y0, y1, n, -, hl, h0, h1⟩ := trod_struct2 Try.underlying31 h
  rw [cells_spR] at hl
  match cs, hl with
  | [c0, c1], _ =>
    simp only [cells_iR, List.drop_zero, List.take_succ_cons, List.take_zero, List.drop_succ_cons] at h0 h1
    obtain ⟨a, e0, -, w0⟩ := DataW.trod_int Try.underlying3 h0
    obtain ⟨b, e1, -, w1⟩ := DataW.trod_int Try.underlying3 h1
    cases e0
    cases e1
    exact ⟨a, b, rfl, wf_int w0, wf_int w1⟩
set_option maxRecDepth 100000 in
theorem trod_ver {fuel : Nat} {cs : List Value} {x : DataW H × List MemPlace} (h : DataW.trod enc Try.prog w base spare held fuel 33 cs = some x) : ∃ v : Ver, cs = verL.enc v ∧ OkVer v := by
  obtain ⟨y0, y1, y2, y3, y4, n, hl, h0, h1, h2, h3, h4⟩ := trod_struct5 Try.underlying33 h
  rw [cells_ver] at hl
  obtain ⟨c0, c1, c2, c3, c4, c5, c6, c7, rfl⟩ := list8 hl
  simp only [cells_sR, cells_stamp, cells_spR, cells_bR, List.drop_zero, List.take_succ_cons, List.take_zero, List.drop_succ_cons] at h0 h1 h2 h3 h4
  obtain ⟨k, e0, -, w0⟩ := DataW.trod_string Try.underlying9 h0
  obtain ⟨b, e, s, e1, w1, w2, w3⟩ := trod_stamp h1
  obtain ⟨a, c, e2, w4, w5⟩ := trod_spR h2
  obtain ⟨u, e3, -, w6⟩ := DataW.trod_string Try.underlying9 h3
  obtain ⟨g, e4, -⟩ := DataW.trod_bool Try.underlying4 h4
  cases e0
  cases e1
  cases e2
  cases e3
  cases e4
  simp only [maxLen] at w0 w6
  exact ⟨⟨k, b, e, s, (a, c), u, g⟩, rfl, ⟨by omega, by omega, w1, w2, w3, w4, w5⟩⟩
end

section
variable {H : Type} {enc : TypeId × Value → H} {W : World} {v : Value} {d : DataW H} {p : List MemPlace} {r : Reach} {b0 : Nat}
set_option maxRecDepth 100000 in
theorem open_vers (hval : Value.okWide Try.prog W r b0 24 v) (h : DataW.Trod enc Try.prog W 0 (fun _ => true) true 24 v d p) (hlt : ∀ x ∈ p, x.block < W.heap.size) :
    ∃ l : List Ver, RdVr W W.heap.size v l ∧ ∀ x ∈ l, OkVer x := by
  obtain ⟨a0, len, cap, rfl⟩ := okWide_slice Try.underlying24 hval
  obtain ⟨fuel, hf⟩ := h
  rcases open_slice Try.underlying24 hf with ⟨hcs, hx⟩ | ⟨a, len', cap', m, n, D, Pl, hcs, _, hl, hm, hmm, hx, hi⟩
  · simp [Value.cells] at hcs
    obtain ⟨rfl, rfl, rfl⟩ := hcs
    exact ⟨[], RdX.nil _ _, by simp⟩
  · simp [Value.cells] at hcs
    obtain ⟨rfl, rfl, rfl⟩ := hcs
    simp only [Prod.mk.injEq] at hx
    obtain ⟨rfl, rfl⟩ := hx
    simp only [if_true] at hmm
    subst hmm
    have hel : ∀ i, i < m → ∃ x : Ver, (∀ (j : Nat) (u : Value), (verL.enc x)[j]? = some u → W.cell? (a.add (i * 8 + j)) = some u) ∧ OkVer x := by
      intro i him
      obtain ⟨cs', hc, ht⟩ := hi i him
      rw [cells_ver] at hc
      obtain ⟨x, rfl, h1⟩ := trod_ver ht
      obtain ⟨_, _, hat⟩ := World.cells?_some hc
      refine ⟨x, fun j u hj => ?_, h1⟩
      have hjl : j < 8 := by
        have h2 : j < (verL.enc x).length := (List.getElem?_eq_some_iff.1 hj).1
        exact h2
      have h3 := hat j hjl
      rw [Go.Deep.add_add] at h3
      rw [h3, hj]
    let f : Nat → Ver := fun i => if h : i < m then (hel i h).choose else ⟨⟨#[]⟩, 0, 0, 0, (0, 0), ⟨#[]⟩, false⟩
    have hfs : ∀ i, i < m → (∀ (j : Nat) (u : Value), (verL.enc (f i))[j]? = some u → W.cell? (a.add (i * 8 + j)) = some u) ∧ OkVer (f i) := by
      intro i h
      have := (hel i h).choose_spec
      simp only [f, dif_pos h]
      exact this
    refine ⟨(List.range len).map f, ⟨some a, m, by simp, by simp; omega, by simpa [maxLen] using hm, fun hp => ?_⟩, fun x hx => ?_⟩
    · have hp : 0 < len := by simpa using hp
      obtain ⟨b, off, spot⟩ := a
      have hspot : spot = none := by simpa [Addr.add] using World.cell?_spot ((hfs 0 (by omega)).1 0 _ rfl)
      subst hspot
      refine ⟨b, off, rfl, hlt (.cell b off) (by
        rw [cells_ver]
        exact List.mem_append_left _ (MemPlace.mem_row.2 ⟨0, by omega, by simp⟩)), fun k x hk j u hj => ?_⟩
      rw [List.getElem?_map] at hk
      obtain ⟨i, hki, rfl⟩ := Option.map_eq_some_iff.1 hk
      obtain ⟨hkl, hki⟩ := List.getElem?_eq_some_iff.1 hki
      simp at hkl hki
      subst hki
      have q0 := (hfs k (by omega)).1 j u hj
      simp only [addr_plain] at q0
      rw [Nat.add_assoc]
      exact q0
    · obtain ⟨i, hi2, rfl⟩ := List.mem_map.1 hx
      exact (hfs i (by have := List.mem_range.1 hi2; omega)).2
end
end Go.Proofs.Ytnioiojafnkmhaa
/- Layer 6: what the laws call: a version cut, two versions compared. -/
namespace Go.Proofs.Ytnioiojafnkmhaa
open Go.RowKit
set_option linter.unusedVariables false

theorem cut_key (v : Ver) : (cutV v).key.size ≤ 110 := by
  unfold cutV
  simp only
  split
  · rw [ByteArray.size_extract]; omega
  · omega
theorem ver_eql_same (W : World) (a : Ver) : (binOp .eql 33 (verV a) (verV a)).run Try.prog W = .ok (.bool true) W := by
  unfold verV
  go_simp
/-- A version stored in a box, cell by cell. -/
theorem box_put8 {w : World} {n : Nat} {t : TypeId} {a0 a1 a2 a3 a4 a5 a6 a7 b0 b1 b2 b3 b4 b5 b6 b7 : Value} (h : Box w n #[a0, a1, a2, a3, a4, a5, a6, a7] t) : Box ((((((((w.setCell ⟨n, 0, none⟩ b0).setCell ⟨n, 1, none⟩ b1).setCell ⟨n, 2, none⟩ b2).setCell ⟨n, 3, none⟩ b3).setCell ⟨n, 4, none⟩ b4).setCell ⟨n, 5, none⟩ b5).setCell ⟨n, 6, none⟩ b6).setCell ⟨n, 7, none⟩ b7) n #[b0, b1, b2, b3, b4, b5, b6, b7] t := by
  have h8 := ((((((((h.set 0 b0).set 1 b1).set 2 b2).set 3 b3).set 4 b4).set 5 b5).set 6 b6).set 7 b7)
  simp only [List.setIfInBounds_toArray, List.set_cons_succ, List.set_cons_zero] at h8
  exact h8
theorem below_put8 {w0 w : World} {B n : Nat} (b0 b1 b2 b3 b4 b5 b6 b7 : Value) (h : Below B w0 w) (hn : B ≤ n) : Below B w0 ((((((((w.setCell ⟨n, 0, none⟩ b0).setCell ⟨n, 1, none⟩ b1).setCell ⟨n, 2, none⟩ b2).setCell ⟨n, 3, none⟩ b3).setCell ⟨n, 4, none⟩ b4).setCell ⟨n, 5, none⟩ b5).setCell ⟨n, 6, none⟩ b6).setCell ⟨n, 7, none⟩ b7) := ((((((((h.setCell (p := ⟨n, 0, none⟩) hn b0).setCell (p := ⟨n, 1, none⟩) hn b1).setCell (p := ⟨n, 2, none⟩) hn b2).setCell (p := ⟨n, 3, none⟩) hn b3).setCell (p := ⟨n, 4, none⟩) hn b4).setCell (p := ⟨n, 5, none⟩) hn b5).setCell (p := ⟨n, 6, none⟩) hn b6).setCell (p := ⟨n, 7, none⟩) hn b7)
theorem grown_put8 (w : World) (n : Nat) (b0 b1 b2 b3 b4 b5 b6 b7 : Value) : w.grownBy ((((((((w.setCell ⟨n, 0, none⟩ b0).setCell ⟨n, 1, none⟩ b1).setCell ⟨n, 2, none⟩ b2).setCell ⟨n, 3, none⟩ b3).setCell ⟨n, 4, none⟩ b4).setCell ⟨n, 5, none⟩ b5).setCell ⟨n, 6, none⟩ b6).setCell ⟨n, 7, none⟩ b7) (some n) := ((((((((grown_set (g := n) w 0 b0).trans (grown_set (g := n) _ 1 b1)).trans (grown_set (g := n) _ 2 b2)).trans (grown_set (g := n) _ 3 b3)).trans (grown_set (g := n) _ 4 b4)).trans (grown_set (g := n) _ 5 b5)).trans (grown_set (g := n) _ 6 b6)).trans (grown_set (g := n) _ 7 b7))
end Go.Proofs.Ytnioiojafnkmhaa
/- Layer 8: what a block is, by the document. -/
namespace Go.Proofs.Ytnioiojafnkmhaa
open Go.RowKit
set_option linter.unusedVariables false

end Go.Proofs.Ytnioiojafnkmhaa
/- Layer 8: versions of which some are taken, in order: the document's Good and Sorted, as far as the laws ask. -/
namespace Go.Proofs.Ytnioiojafnkmhaa
open Go.RowKit
set_option linter.unusedVariables false

/-- The cells of the k-th version, by their names. -/
theorem RdVr.cells1 {w : World} {B b o n c : Nat} {l : List Ver} (h : RdVr w B (.slice (some ⟨b, o, none⟩) n c) l) (k : Nat) (hk : k < l.length) {kk uu : ByteArray} {bb ee ss xx yy : Int} {gg : Bool} (e : l[k] = ⟨kk, bb, ee, ss, (xx, yy), uu, gg⟩) : b < B ∧
    w.cell? ⟨b, o + k * 8, none⟩ = some (.string kk) ∧ w.cell? ⟨b, o + k * 8 + 1, none⟩ = some (.int .i64 bb) ∧ w.cell? ⟨b, o + k * 8 + 2, none⟩ = some (.int .i64 ee) ∧ w.cell? ⟨b, o + k * 8 + 3, none⟩ = some (.int .i64 ss) ∧
    w.cell? ⟨b, o + k * 8 + 4, none⟩ = some (.int .i64 xx) ∧ w.cell? ⟨b, o + k * 8 + 5, none⟩ = some (.int .i64 yy) ∧ w.cell? ⟨b, o + k * 8 + 6, none⟩ = some (.string uu) ∧ w.cell? ⟨b, o + k * 8 + 7, none⟩ = some (.bool gg) := by
  obtain ⟨b', o', e2, hb, c0, c1, c2, c3, c4, c5, c6, c7⟩ := h.here k hk
  injection e2 with e2
  injection e2 with e3 e4
  subst e3 e4
  rw [e] at c0 c1 c2 c3 c4 c5 c6 c7
  exact ⟨hb, c0, c1, c2, c3, c4, c5, c6, c7⟩
end Go.Proofs.Ytnioiojafnkmhaa
