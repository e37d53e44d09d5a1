/- Contract of layer 1: the program's order of two tuples. -/
import Derived.Test.YtnapadpkfjpklaaOc
namespace Go.Proofs.Ytnapadpkfjpklaa
open Go.RowKit
set_option linter.unusedVariables false

theorem cmpInt_lens {l m : List PartD} {k : Nat} (h : k = l.length ∨ k = m.length) (h1 : k ≤ l.length) (h2 : k ≤ m.length) :
    cmpParts (l.drop k) (m.drop k) = cmpInt l.length m.length := by
  unfold cmpInt
  by_cases h3 : k < l.length
  · rw [cmpParts_left h3 (by omega), if_neg (by omega), if_pos (by omega)]
  · by_cases h4 : k < m.length
    · rw [cmpParts_right (by omega) h4, if_pos (by omega)]
    · rw [cmpParts_none (by omega) (by omega), if_neg (by omega), if_neg (by omega)]

set_option maxHeartbeats 400000 in
theorem order_compare (va vb : Value) (l m : List PartD) (w : World) (ha : RdParts w w.heap.size va l) (hb : RdParts w w.heap.size vb m) :
    Calls Try.prog 19 #[va, vb] w fun e w' => e = .returned (.int .i64 (cmpParts l m)) ∧ Below w.heap.size w w' := by
  have hA := Lib.hid ha
  have hB := Lib.hid hb
  obtain ⟨A, ca, rfl, hla, hca, -⟩ := ha
  obtain ⟨B, cb, rfl, hlb, hcb, -⟩ := hb
  go_enter Try.func19, Try.ntmps19
  go_wp2
  all_goals
    go_loopw [12] (fun i wr => ∃ k : Nat, k ≤ l.length ∧ k ≤ m.length ∧ i = .int .i64 k ∧ cmpParts (l.drop k) (m.drop k) = cmpParts l m ∧ Below w.heap.size w wr) (fun i _ => l.length - (intOf i).toNat)
    case atStart => exact ⟨0, Nat.zero_le _, Nat.zero_le _, rfl, rfl, Below.refl _ _⟩
    case round =>
      obtain ⟨k, hk, hkm, rfl, hc, hbw⟩ := hrel
      by_cases h1 : k < l.length ∧ k < m.length
      · obtain ⟨h1, h2⟩ := h1
        obtain ⟨A', _, e1, _, _, hra⟩ := hA.out.below hbw
        obtain ⟨B', _, e2, _, _, hrb⟩ := hB.out.below hbw
        obtain ⟨ba, oa, rfl, hba, hra⟩ := hra (by omega)
        obtain ⟨bb, ob, rfl, hbb, hrb⟩ := hrb (by omega)
        cases e1
        cases e2
        obtain ⟨a0, a1, a2⟩ := hra k _ (List.getElem?_eq_getElem h1)
        obtain ⟨b0, b1, b2⟩ := hrb k _ (List.getElem?_eq_getElem h2)
        have HC := Lib.hid hc
        have HW := Lib.hid hbw
        have hcr := cmpParts_both h1 h2
        have HR := Lib.hid hcr
        clear hc hra hrb hbw hcr
        generalize hcp : cmpPart l[k] m[k] = c at HR
        have HCP := Lib.hid hcp
        clear hcp
        go_wp2_with fail
        go_region_with (go_at_call 31; refine (cmp_part l[k] m[k] _).mono ?_; rintro e w1 ⟨rfl, hb1⟩)
        all_goals
          have hb2 : Below w.heap.size w w1 := HW.out.drew.trans (hb1.mono HW.out.size)
          have HW2 := Lib.hid hb2
          clear hb1 hb2
          rw [HCP.out]
          by_cases hc0 : c = 0
          · subst hc0
            go_wp2
            go_roundw
            case rel => exact ⟨k + 1, by omega, by omega, by go_num, by rw [← HC.out, HR.out]; simp, HW2.out⟩
            case measure => simp [intOf]; omega
          · have hc1 : (c == 0) = false := by simpa using hc0
            go_wp2
            go_ret
            exact ⟨ret_int (by rw [← HC.out, HR.out, if_neg hc0]), HW2.out⟩
      · have h3 := cmpInt_lens (l := l) (m := m) (k := k) (by omega) hk hkm
        rw [hc] at h3
        have H3 := Lib.hid h3
        have HW := Lib.hid hbw
        clear hc hbw h3
        go_wp2_with (go_at_call 32; refine (cmp_int _ _ _).mono ?_; rintro e w' ⟨rfl, rfl⟩)
        go_ret
        exact ⟨ret_int H3.out.symm, HW.out⟩
end Go.Proofs.Ytnapadpkfjpklaa
