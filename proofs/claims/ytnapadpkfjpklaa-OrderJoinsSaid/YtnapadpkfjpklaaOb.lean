/- Contracts of layer 1: comparing parts (the document's answer), and tuples, the program's and the document's. -/
import Derived.Test.YtnapadpkfjpklaaOa
namespace Go.Proofs.Ytnapadpkfjpklaa
open Go.RowKit
set_option linter.unusedVariables false

theorem cmpStr_lt {a b : List UInt8} (h : Op.bytesLess a b = true) : cmpStr a b = -1 := by simp [cmpStr, h]
theorem cmpStr_gt {a b : List UInt8} (h : Op.bytesLess b a = true) : cmpStr a b = 1 := by
  have h1 := less_asymm _ _ h
  have h2 : a ≠ b := by rintro rfl; simp [less_irrefl] at h
  simp [cmpStr, h1, h2]
theorem cmpStr_eq (a : List UInt8) : cmpStr a a = 0 := by simp [cmpStr, less_irrefl]

set_option maxHeartbeats 400000 in
theorem ref_parts (a b : PartD) (w : World) : Calls Try.prog 33 #[a.v, b.v] w fun e w' => e = .returned (.int .i64 (cmpPart a b)) ∧ Below w.heap.size w w' := by
  obtain ⟨ta, na, sa⟩ := a
  obtain ⟨tb, nb, sb⟩ := b
  unfold PartD.v cmpPart
  rcases ta with _ | _ <;> rcases tb with _ | _
  · go_enter Try.func33, Try.ntmps33
    go_wp2
    all_goals
      go_ret
      exact ⟨ret_int (by first | (simp [cmpInt]; omega) | (simp [cmpInt, *]; omega) | simp [cmpInt, *]), by go_grown⟩
  · go_enter Try.func33, Try.ntmps33
    go_wp2
    go_ret
    exact ⟨rfl, by go_grown⟩
  · go_enter Try.func33, Try.ntmps33
    go_wp2
    go_ret
    exact ⟨rfl, by go_grown⟩
  · rcases h1 : Op.bytesLess sa.toList sb.toList with _ | _
    · rcases h2 : (sa.toList == sb.toList) with _ | _
      · have h3 : sa.toList ≠ sb.toList := by simpa using h2
        have h4 := cmpStr_gt (less_total _ _ h1 h3)
        go_enter Try.func33, Try.ntmps33
        go_wp2
        go_ret
        exact ⟨ret_int (by simp [h4]), by go_grown⟩
      · have h3 : sa.toList = sb.toList := by simpa using h2
        have hi := less_irrefl sb.toList
        have H3 := Lib.hid h3
        clear h3
        go_enter Try.func33, Try.ntmps33
        go_wp2
        go_ret
        exact ⟨ret_int (by simp [H3.out, cmpStr_eq]), by go_grown⟩
    · have h4 := cmpStr_lt h1
      go_enter Try.func33, Try.ntmps33
      go_wp2
      go_ret
      exact ⟨ret_int (by simp [h4]), by go_grown⟩
end Go.Proofs.Ytnapadpkfjpklaa
