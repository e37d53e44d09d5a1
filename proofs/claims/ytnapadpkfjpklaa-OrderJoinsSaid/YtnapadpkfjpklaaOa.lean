/- Contracts of the leaf functions of layer 1: cmp.Compare at int and at string, the comparing of two parts, which tables there are. -/
import Derived.Test.YtnapadpkfjpklaaOm
import Derived.WalkKit
import Derived.ProofKit
import Derived.Lib.Hide
import Derived.WalkLawsBesides
import Derived.Deep.QuietTactic
import Derived.BigQuiet
import Derived.Handy
namespace Go.Proofs.Ytnapadpkfjpklaa
open Go.RowKit
set_option linter.unusedVariables false

theorem nan_int (a : Int) (w : World) : Calls Try.prog 39 #[.int .i64 a] w fun e w' => e = .returned (.bool false) ∧ w = w' := by
  go_enter Try.func39, Try.ntmps39
  go_wp2
  go_ret
  exact ⟨rfl, rfl⟩

theorem nan_str (s : ByteArray) (w : World) : Calls Try.prog 40 #[.string s] w fun e w' => e = .returned (.bool false) ∧ w = w' := by
  go_enter Try.func40, Try.ntmps40
  go_wp2
  go_ret
  exact ⟨by simp, rfl⟩

def cmpInt (a b : Int) : Int := if a < b then -1 else if b < a then 1 else 0
def cmpStr (a b : List UInt8) : Int := if Op.bytesLess a b = true then -1 else if a = b then 0 else 1

set_option maxHeartbeats 400000 in
theorem cmp_int (a b : Int) (w : World) : Calls Try.prog 32 #[.int .i64 a, .int .i64 b] w fun e w' => e = .returned (.int .i64 (cmpInt a b)) ∧ w = w' := by
  go_enter Try.func32, Try.ntmps32
  go_wp2_with (first | (go_at_call 39; refine (nan_int _ _).mono ?_; rintro e w' ⟨rfl, rfl⟩))
  all_goals go_ret
  · exact ⟨ret_int (by unfold cmpInt; rw [if_pos (by omega)]), rfl⟩
  · exact ⟨ret_int (by unfold cmpInt; rw [if_neg (by omega), if_pos (by omega)]), rfl⟩
  · exact ⟨ret_int (by unfold cmpInt; rw [if_neg (by omega), if_neg (by omega)]), rfl⟩

set_option maxHeartbeats 400000 in
theorem cmp_str (a b : ByteArray) (w : World) : Calls Try.prog 38 #[.string a, .string b] w fun e w' => e = .returned (.int .i64 (cmpStr a.toList b.toList)) ∧ w = w' := by
  rcases h1 : Op.bytesLess a.toList b.toList with _ | _
  · rcases h2 : (a.toList == b.toList) with _ | _
    · have h3 : a.toList ≠ b.toList := by simpa using h2
      go_enter Try.func38, Try.ntmps38
      go_wp2_with (first | (go_at_call 40; refine (nan_str _ _).mono ?_; rintro e w' ⟨rfl, rfl⟩))
      go_ret
      exact ⟨by simp [cmpStr, h1, h3], rfl⟩
    · have h3 : a.toList = b.toList := by simpa using h2
      have hi := less_irrefl b.toList
      have H3 := Lib.hid h3
      clear h3
      go_enter Try.func38, Try.ntmps38
      go_wp2_with (first | (go_at_call 40; refine (nan_str _ _).mono ?_; rintro e w' ⟨rfl, rfl⟩))
      go_ret
      exact ⟨by simp [cmpStr, H3.out, hi], rfl⟩
  · go_enter Try.func38, Try.ntmps38
    go_wp2_with (first | (go_at_call 40; refine (nan_str _ _).mono ?_; rintro e w' ⟨rfl, rfl⟩))
    go_ret
    exact ⟨by simp [cmpStr, h1], rfl⟩

theorem table_any (n : Int) (w : World) : Calls Try.prog 34 #[.int .i64 n] w fun e w' => e = .returned (.bool (decide (0 ≤ n ∧ n < 4))) ∧ w = w' := by
  by_cases h : 0 ≤ n
  · go_enter Try.func34, Try.ntmps34
    go_wp2
    go_ret
    exact ⟨by simp [h], rfl⟩
  · have hd : decide (0 ≤ n) = false := by simpa using h
    go_enter Try.func34, Try.ntmps34
    go_wp2
    go_ret
    exact ⟨by simp [h], rfl⟩

/-- A part, as its value. -/
structure PartD where
  isText : Bool
  num : Int
  text : ByteArray

def PartD.v (p : PartD) : Value := .agg #[.bool p.isText, .int .i64 p.num, .string p.text]
def PartD.cells (p : PartD) : List Value := [.bool p.isText, .int .i64 p.num, .string p.text]

def cmpPart (a b : PartD) : Int :=
  if a.isText then (if b.isText then cmpStr a.text.toList b.text.toList else 1) else if b.isText then -1 else cmpInt a.num b.num

set_option maxHeartbeats 400000 in
theorem cmp_part (a b : PartD) (w : World) : Calls Try.prog 31 #[a.v, b.v] w fun e w' => e = .returned (.int .i64 (cmpPart a b)) ∧ Below w.heap.size w w' := by
  obtain ⟨ta, na, sa⟩ := a
  obtain ⟨tb, nb, sb⟩ := b
  unfold PartD.v cmpPart
  rcases ta with _ | _ <;> rcases tb with _ | _
  all_goals
    go_enter Try.func31, Try.ntmps31
    go_wp2_with (first | (go_at_call 32; refine (cmp_int _ _ _).mono ?_; rintro e w' ⟨rfl, rfl⟩) | (go_at_call 38; refine (cmp_str _ _ _).mono ?_; rintro e w' ⟨rfl, rfl⟩))
    go_ret
    exact ⟨rfl, by go_grown⟩
end Go.Proofs.Ytnapadpkfjpklaa
