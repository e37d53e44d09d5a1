/- Layer 1: a number's bytes, as the document's answer reads them. -/
import Derived.Test.YtnapadpkfjpklaaOv
namespace Go.Proofs.Ytnapadpkfjpklaa
open Go.RowKit
set_option linter.unusedVariables false

theorem eight {l : List UInt8} (h : l.length = 8) : ∃ x0 x1 x2 x3 x4 x5 x6 x7, l = [x0, x1, x2, x3, x4, x5, x6, x7] := by
  match l, h with
  | [x0, x1, x2, x3, x4, x5, x6, x7], _ => exact ⟨x0, x1, x2, x3, x4, x5, x6, x7, rfl⟩

set_option maxHeartbeats 1600000 in
set_option maxRecDepth 1000000 in
theorem ref_value (B : Nat) (v : Value) (l : List UInt8) (w : World) (h : RdB w B v l) (h8 : l.length = 8) :
    Calls Try.prog 30 #[v] w fun e w' => e = .returned (.int .i64 (decNum l)) ∧ w = w' := by
  obtain ⟨x0, x1, x2, x3, x4, x5, x6, x7, rfl⟩ := eight h8
  obtain ⟨A, c, rfl, hlc, hc, hcell⟩ := h
  obtain ⟨b, o, rfl, hb, hcell⟩ := hcell (by simp)
  have c0 := hcell 0 x0 rfl
  have c1 := hcell 1 x1 rfl
  have c2 := hcell 2 x2 rfl
  have c3 := hcell 3 x3 rfl
  have c4 := hcell 4 x4 rfl
  have c5 := hcell 5 x5 rfl
  have c6 := hcell 6 x6 rfl
  have c7 := hcell 7 x7 rfl
  rw [Nat.add_zero] at c0
  have l0 := x0.toNat_lt
  have l1 := x1.toNat_lt
  have l2 := x2.toNat_lt
  have l3 := x3.toNat_lt
  have l4 := x4.toNat_lt
  have l5 := x5.toNat_lt
  have l6 := x6.toNat_lt
  have l7 := x7.toNat_lt
  have hd : decNum [x0, x1, x2, x3, x4, x5, x6, x7] = 256 * (256 * (256 * (256 * (256 * (256 * (256 * x0.toNat + x1.toNat) + x2.toNat) + x3.toNat) + x4.toNat) + x5.toNat) + x6.toNat) + x7.toNat - 9223372036854775808 := by
    simp only [decNum, List.foldl_cons, List.foldl_nil]; omega
  have HD := Lib.hid hd
  simp only [List.length_cons, List.length_nil] at *
  clear hcell hd h8
  by_cases hx : x0.toNat < 128
  · go_enter Try.func30, Try.ntmps30
    go_wp2
    go_rounds 8
    go_ret
    exact ⟨ret_int (by rw [HD.out]; omega), rfl⟩
  · have hx2 : decide ((x0.toNat : Int) < 128) = false := by simp; omega
    go_enter Try.func30, Try.ntmps30
    go_wp2
    go_rounds 8
    go_ret
    exact ⟨ret_int (by rw [HD.out]; omega), rfl⟩
end Go.Proofs.Ytnapadpkfjpklaa
