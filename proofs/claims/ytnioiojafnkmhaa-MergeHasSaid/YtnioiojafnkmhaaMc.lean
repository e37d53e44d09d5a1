/- Layer 10: sorted lists of versions merged, by the document. -/
import Derived.Test.YtnioiojafnkmhaaTc
import Derived.Test.YtnioiojafnkmhaaBxx
namespace Go.Proofs.Ytnioiojafnkmhaa
open Go.RowKit
set_option linter.unusedVariables false

theorem flat_take {α : Type} (ls : List (List α)) (k : Nat) (hk : k < ls.length) : (ls.take (k + 1)).flatten = (ls.take k).flatten ++ ls[k] := by
  rw [List.take_succ_eq_append_getElem hk, List.flatten_append, List.flatten_cons, List.flatten_nil, List.append_nil]
theorem flat_len {α : Type} (ls : List (List α)) (k : Nat) (hk : k < ls.length) : (ls.take k).flatten.length + ls[k].length ≤ ls.flatten.length := by
  have h := congrArg List.length (flat_take ls k hk)
  rw [List.length_append] at h
  rw [← h]
  conv => rhs; rw [← List.take_append_drop (k + 1) ls, List.flatten_append, List.length_append]
  omega

set_option maxHeartbeats 4000000 in
set_option maxRecDepth 100000 in
theorem ref10_versions (va : Value) (ls : List (List Ver)) (w : World) (ha : RdXX verL w w.heap.size va ls) (hl : ls.flatten.length ≤ 1000) :
    Calls Try.prog 10 #[va] w fun e w' => ∃ v', e = .returned v' ∧ OwnVr w' w.heap.size v' (sortR lessV ls.flatten) ∧ Below w.heap.size w w' := by
  have HA := Lib.hid ha
  have HL := Lib.hid hl
  obtain ⟨A, ca, rfl, hla, hca⟩ := ha.form
  clear ha hl
  go_enter Try.func10, Try.ntmps10
  go_wp2_with fail
  go_loopw [3, 4] (fun x i wr => ∃ k : Nat, i = .int .i64 k ∧ k ≤ ls.length ∧ OwnVr wr w.heap.size x (ls.take k).flatten ∧ Below w.heap.size w wr) (fun _ i _ => ls.length - (intOf i).toNat)
  case atStart => exact ⟨0, rfl, Nat.zero_le _, OwnX.nil _ _, Below.refl _ _⟩
  case round =>
    obtain ⟨k, rfl, hk, ho, hbw⟩ := hrel
    rename World => wo
    have O := Lib.hid ho
    have G := Lib.hid hbw
    clear ho hbw
    by_cases hlt : k < ls.length
    · have zl : decide ((k : Int) < (ls.length : Int)) = true := by simp; omega
      obtain ⟨b, o, a1, m1, rfl, hbb, c0, r1⟩ := (HA.out.below G.out).at k hlt
      have R1 := Lib.hid r1
      have FT := Lib.hid (flat_take ls k hlt)
      have FL := Lib.hid (Nat.le_trans (flat_len ls k hlt) HL.out)
      have hal := Lib.hid (show (ls.take k).flatten.length + ls[k].length ≤ 1000000000 from by have := FL.out; omega)
      clear r1 hbb
      go_wp2_with (at_builtin; refine wpl_appX_rd rfl (.tmp 11) (.tmp 15) rfl Try.underlying24 ver_info rfl w.heap.size w.heap.size _ _ (ls.take k).flatten ls[k] rfl rfl O.out R1.out G.out.size hal.out (by decide) ?_; intro v5 w5 ho5 hg5 hb5)
      have OZ := Lib.hid (show OwnVr w5 w.heap.size v5 (ls.take (k + 1)).flatten from by rw [FT.out]; exact ho5)
      have GZ := Lib.hid (G.out.trans hb5)
      clear ho5 hg5 hb5
      go_roundw
      case rel => exact ⟨k + 1, by go_num, by omega, OZ.out, GZ.out⟩
      case measure => simp [intOf]; omega
    · have zl : decide ((k : Int) < (ls.length : Int)) = false := by rw [decide_eq_false_iff_not]; omega
      have hke : k = ls.length := by omega
      rw [hke, List.take_length] at O
      go_wp2_with fail
      refine (ref6_sorted _ ls.flatten _ O.out.rd HL.out).mono ?_
      rintro z w1 ⟨v1, rfl, ho1, hb1⟩
      have O1 := Lib.hid (OwnX.mono ho1 G.out.size)
      have G1 := Lib.hid (G.out.trans (hb1.mono G.out.size))
      clear ho1 hb1
      go_wp2_with fail
      go_ret
      exact ⟨_, rfl, O1.out, G1.out⟩
end Go.Proofs.Ytnioiojafnkmhaa
