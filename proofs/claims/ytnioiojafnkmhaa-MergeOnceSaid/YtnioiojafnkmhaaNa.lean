/- Layer 10, the project's: what an order tells, asked under a deferred recover. -/
import Derived.Test.YtnioiojafnkmhaaMk
import Derived.Defers
import Derived.Recover
import Derived.Laws.Externs
import Derived.Lib.Bytealg
namespace Go.Proofs.Ytnioiojafnkmhaa
open Go.RowKit
set_option linter.unusedVariables false

/-- A deferred closure that finds nothing to recover. -/
theorem catch_ver (p : Addr) (w : World) :
    CallsD Try.prog 43 #[.pointer (some p)] .returning w fun e u' w' => e = .returned (.tuple #[]) ∧ u' = .returning ∧ w' = w := by
  refine callsD_of_wpS Try.func43 rfl fun c₀ cs hu => ?_
  apply wpS_seq
  apply wpS_region
  simp [wpOpsS, go_sem, recoverD, hu, Try.ntmps43, Exit.thenS]
  refine wpS_cond (t := false) (by simp [Act.eval, Array.replicate]) ?_
  simp only [Bool.false_eq_true, if_false]
  refine wpS_of_wp (wp_skip ?_)
  cases c₀
  simp_all [bodyPostS, results, Try.results43]
set_option maxHeartbeats 1000000 in
theorem ask_ver (a b : Ver) (w : World) :
    Calls Try.prog 33 #[cmpF, verV a, verV b] w fun e w' => e = .returned (.int .i64 (cmpV a b)) ∧ Below w.heap.size w w' := by
  have hmf : ∀ (fn : Fn) (first cap : Array Value) (w : World), (Instr.makeFunc fn first cap).run Try.prog w = .ok (.func fn first cap) w := fun _ _ _ _ => rfl
  have K := Lib.hid (row_compare a b)
  generalize cmpV a b = res at *
  obtain ⟨k1, b1, e1, s1, ⟨x1, y1⟩, u1, g1⟩ := a
  obtain ⟨k2, b2, e2, s2, ⟨x2, y2⟩, u2, g2⟩ := b
  unfold verV at *
  simp only at *
  unfold cmpF
  have B1 := Lib.hid (Box.new ((w.alloc (.cells #[.string k1, .int .i64 b1, .int .i64 e1, .int .i64 s1, .int .i64 x1, .int .i64 y1, .string u1, .bool g1] 33)).alloc (.cells #[.string k2, .int .i64 b2, .int .i64 e2, .int .i64 s2, .int .i64 x2, .int .i64 y2, .string u2, .bool g2] 33)) #[.int .i64 0] 3 (w.heap.size + 1 + 1) (by simp))
  have G := Lib.hid ((((Below.refl _ w).alloc (Nat.le_refl _) (.cells #[.string k1, .int .i64 b1, .int .i64 e1, .int .i64 s1, .int .i64 x1, .int .i64 y1, .string u1, .bool g1] 33)).alloc (by simp) (.cells #[.string k2, .int .i64 b2, .int .i64 e2, .int .i64 s2, .int .i64 x2, .int .i64 y2, .string u2, .bool g2] 33)).alloc (by simp; omega) (.cells #[.int .i64 0] 3))
  go_enter_defers Try.func33, Try.ntmps33
  go_wp2_with fail
  refine (K.out _).mono ?_
  rintro z w1 ⟨rfl, hw1⟩
  have B2 := Lib.hid (B1.out.later hw1)
  have G1 := Lib.hid (G.out.trans (hw1.mono G.out.size))
  have c0 := B2.out.cell 0 _ rfl
  have f0 := B2.out.frozen 0
  clear hw1
  go_wp2_with fail
  refine leaves_cons (f := 43) (args := #[.pointer (some ⟨w.heap.size + 1 + 1, 0, none⟩)]) (by simp) (by simp [go_sem]) ?_
  refine (catch_ver _ _).mono ?_
  rintro e u' w2 ⟨rfl, rfl, rfl⟩
  have c1 := (B2.out.set 0 (.int .i64 res)).cell 0 _ rfl
  simp only [Leaves, settle]
  rw [results_cell1 (Try.results33)]
  go_simp
  exact G1.out.setCell (p := ⟨w.heap.size + 1 + 1, 0, none⟩) (by have := w.heap.size; simp only; omega) _
def cmpI : Value := .func (.func 27) #[] #[]
def cmpS : Value := .func (.func 31) #[] #[]
def cmpB (a b : ByteArray) : Int := Lib.compareBytes a.data.toList b.data.toList
theorem compareString (a b : ByteArray) (w : World) : Calls Try.prog 42 #[.string a, .string b] w fun e w' => e = .returned (.int .i64 (Lib.compareBytes a.data.toList b.data.toList)) ∧ w' = w := by
  go_enter Try.func42, Try.ntmps42
  go_wp2_with fail
  rw [run_callFunc_extern (P := Try.prog) (f := 54) Try.func54 (by kernel_rfl) (by kernel_rfl) (by kernel_rfl) (e := Extern.BytealgCompare.compare) (by kernel_rfl), Lib.run_compareString]
  simp only [Result.andThen]
  rw [Oper.upon_value]
  go_wp2_with fail
  go_ret
  exact ⟨rfl, rfl⟩
theorem compareStr (a b : ByteArray) (w : World) : Calls Try.prog 31 #[.string a, .string b] w fun e w' => e = .returned (.int .i64 (cmpB a b)) ∧ Below w.heap.size w w' := by
  go_enter Try.func31, Try.ntmps31
  go_wp2_with (go_at_call 42; refine (compareString _ _ _).mono ?_; rintro e w' ⟨rfl, rfl⟩)
  go_ret
  exact ⟨rfl, Below.refl _ _⟩
/-- A deferred closure that finds nothing to recover. -/
theorem catch_int (p : Addr) (w : World) :
    CallsD Try.prog 85 #[.pointer (some p)] .returning w fun e u' w' => e = .returned (.tuple #[]) ∧ u' = .returning ∧ w' = w := by
  refine callsD_of_wpS Try.func85 rfl fun c₀ cs hu => ?_
  apply wpS_seq
  apply wpS_region
  simp [wpOpsS, go_sem, recoverD, hu, Try.ntmps85, Exit.thenS]
  refine wpS_cond (t := false) (by simp [Act.eval, Array.replicate]) ?_
  simp only [Bool.false_eq_true, if_false]
  refine wpS_of_wp (wp_skip ?_)
  cases c₀
  simp_all [bodyPostS, results, Try.results85]
set_option maxHeartbeats 1000000 in
theorem ask_int (a b : Int) (w : World) :
    Calls Try.prog 84 #[cmpI, .int .i64 a, .int .i64 b] w fun e w' => e = .returned (.int .i64 (Ord.cmpInt a b)) ∧ Below w.heap.size w w' := by
  have hmf : ∀ (fn : Fn) (first cap : Array Value) (w : World), (Instr.makeFunc fn first cap).run Try.prog w = .ok (.func fn first cap) w := fun _ _ _ _ => rfl
  have K := Lib.hid (fun w => (Ord.cmp_int a b w).mono (fun e w' h => (show e = _ ∧ Below w.heap.size w w' from ⟨h.1, h.2 ▸ Below.refl _ _⟩)))
  generalize Ord.cmpInt a b = res at *
  unfold cmpI
  have B1 := Lib.hid (Box.new w #[.int .i64 0] 3 w.heap.size rfl)
  have G := Lib.hid ((Below.refl _ w).alloc (Nat.le_refl _) (.cells #[.int .i64 0] 3))
  go_enter_defers Try.func84, Try.ntmps84
  go_wp2_with fail
  refine (K.out _).mono ?_
  rintro z w1 ⟨rfl, hw1⟩
  have B2 := Lib.hid (B1.out.later hw1)
  have G1 := Lib.hid (G.out.trans (hw1.mono G.out.size))
  have c0 := B2.out.cell 0 _ rfl
  have f0 := B2.out.frozen 0
  clear hw1
  go_wp2_with fail
  refine leaves_cons (f := 85) (args := #[.pointer (some ⟨w.heap.size, 0, none⟩)]) (by simp) (by simp [go_sem]) ?_
  refine (catch_int _ _).mono ?_
  rintro e u' w2 ⟨rfl, rfl, rfl⟩
  have c1 := (B2.out.set 0 (.int .i64 res)).cell 0 _ rfl
  simp only [Leaves, settle]
  rw [results_cell1 (Try.results84)]
  go_simp
  exact G1.out.setCell (p := ⟨w.heap.size, 0, none⟩) (by have := w.heap.size; simp only; omega) _
/-- A deferred closure that finds nothing to recover. -/
theorem catch_str (p : Addr) (w : World) :
    CallsD Try.prog 91 #[.pointer (some p)] .returning w fun e u' w' => e = .returned (.tuple #[]) ∧ u' = .returning ∧ w' = w := by
  refine callsD_of_wpS Try.func91 rfl fun c₀ cs hu => ?_
  apply wpS_seq
  apply wpS_region
  simp [wpOpsS, go_sem, recoverD, hu, Try.ntmps91, Exit.thenS]
  refine wpS_cond (t := false) (by simp [Act.eval, Array.replicate]) ?_
  simp only [Bool.false_eq_true, if_false]
  refine wpS_of_wp (wp_skip ?_)
  cases c₀
  simp_all [bodyPostS, results, Try.results91]
set_option maxHeartbeats 1000000 in
theorem ask_str (a b : ByteArray) (w : World) :
    Calls Try.prog 90 #[cmpS, .string a, .string b] w fun e w' => e = .returned (.int .i64 (cmpB a b)) ∧ Below w.heap.size w w' := by
  have hmf : ∀ (fn : Fn) (first cap : Array Value) (w : World), (Instr.makeFunc fn first cap).run Try.prog w = .ok (.func fn first cap) w := fun _ _ _ _ => rfl
  have K := Lib.hid (fun w => compareStr a b w)
  generalize cmpB a b = res at *
  unfold cmpS
  have B1 := Lib.hid (Box.new w #[.int .i64 0] 3 w.heap.size rfl)
  have G := Lib.hid ((Below.refl _ w).alloc (Nat.le_refl _) (.cells #[.int .i64 0] 3))
  go_enter_defers Try.func90, Try.ntmps90
  go_wp2_with fail
  refine (K.out _).mono ?_
  rintro z w1 ⟨rfl, hw1⟩
  have B2 := Lib.hid (B1.out.later hw1)
  have G1 := Lib.hid (G.out.trans (hw1.mono G.out.size))
  have c0 := B2.out.cell 0 _ rfl
  have f0 := B2.out.frozen 0
  clear hw1
  go_wp2_with fail
  refine leaves_cons (f := 91) (args := #[.pointer (some ⟨w.heap.size, 0, none⟩)]) (by simp) (by simp [go_sem]) ?_
  refine (catch_str _ _).mono ?_
  rintro e u' w2 ⟨rfl, rfl, rfl⟩
  have c1 := (B2.out.set 0 (.int .i64 res)).cell 0 _ rfl
  simp only [Leaves, settle]
  rw [results_cell1 (Try.results90)]
  go_simp
  exact G1.out.setCell (p := ⟨w.heap.size, 0, none⟩) (by have := w.heap.size; simp only; omega) _

/-- A number tells an order. -/
structure CmpOf {α : Type} (cmp : α → α → Int) (lt : α → α → Bool) : Prop where
  neg : ∀ a b, decide (cmp a b < 0) = lt a b
  zero : ∀ a b, (cmp a b == 0) = (!lt a b && !lt b a)
theorem CmpOf.of {α : Type} {cmp : α → α → Int} {lt : α → α → Bool} (h : Ahead lt) (h1 : ∀ a b, decide (cmp a b < 0) = lt a b) (h2 : ∀ a b, decide (0 < cmp a b) = lt b a) : CmpOf cmp lt := by
  refine ⟨h1, fun a b => ?_⟩
  rw [← h1 a b, ← h2 a b]
  rcases Int.lt_trichotomy (cmp a b) 0 with h | h | h
  · simp [h, Int.ne_of_lt h]
  · simp [h]
  · simp [h, Int.ne_of_gt h]
theorem ver_cmp : CmpOf cmpV lessV := by
  refine CmpOf.of ver_ahead (fun a b => (lessV_iff a b).symm) (fun a b => ?_)
  rw [lessV_iff b a, Bool.eq_iff_iff, decide_eq_true_iff, decide_eq_true_iff]
  have := ver_tells.anti a b
  omega
theorem int_cmp : CmpOf Ord.cmpInt intLt := by
  refine CmpOf.of int_ahead (fun a b => ?_) (fun a b => ?_) <;> unfold Ord.cmpInt intLt <;> rw [Bool.eq_iff_iff, decide_eq_true_iff, decide_eq_true_iff]
  · split
    · simp_all
    · split <;> omega
  · split
    · constructor <;> intro <;> omega
    · split <;> omega
theorem compare_less : ∀ (a b : List UInt8), decide (Lib.compareBytes a b < 0) = Op.bytesLess a b
  | [], [] => by decide
  | [], _ :: _ => by simp [Lib.compareBytes, Op.bytesLess]
  | _ :: _, [] => by simp [Lib.compareBytes, Op.bytesLess]
  | a :: p, b :: q => by
    have ih := compare_less p q
    unfold Lib.compareBytes Op.bytesLess
    split
    · simp_all
    · split
      · rename_i h1 h2
        have : ¬ a = b := by rintro rfl; exact absurd h2 (by simp)
        simp_all
      · rename_i h1 h2
        have : a = b := UInt8.le_antisymm (UInt8.not_lt.1 h2) (UInt8.not_lt.1 h1)
        simp_all
theorem compare_anti : ∀ (a b : List UInt8), Lib.compareBytes a b = - Lib.compareBytes b a
  | [], [] => by decide
  | [], _ :: _ => by simp [Lib.compareBytes]
  | _ :: _, [] => by simp [Lib.compareBytes]
  | a :: p, b :: q => by
    have ih := compare_anti p q
    unfold Lib.compareBytes
    by_cases h1 : a < b
    · have h2 : ¬ b < a := UInt8.not_lt.2 (UInt8.le_of_lt h1)
      rw [if_pos h1, if_neg h2, if_pos h1]
    · by_cases h2 : b < a
      · rw [if_neg h1, if_pos h2, if_pos h2]; rfl
      · rw [if_neg h1, if_neg h2, if_neg h2, if_neg h1]; exact ih
theorem data_list (a : ByteArray) : a.data.toList = a.toList := (ByteArray.toList_eq a).symm
theorem str_cmp : CmpOf cmpB strLt := by
  refine CmpOf.of str_ahead (fun a b => ?_) (fun a b => ?_) <;> unfold cmpB strLt <;> rw [data_list, data_list]
  · exact compare_less _ _
  · rw [← compare_less, compare_anti b.toList a.toList]
    rw [Bool.eq_iff_iff, decide_eq_true_iff, decide_eq_true_iff]
    omega
end Go.Proofs.Ytnioiojafnkmhaa
