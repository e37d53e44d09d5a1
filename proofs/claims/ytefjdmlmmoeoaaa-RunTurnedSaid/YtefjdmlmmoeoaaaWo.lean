/- Layer 9: Len, All, by the project. -/
import Derived.Test.YtefjdmlmmoeoaaaWf
import Derived.Lib.AppendZerosOnto
namespace Go.Proofs.Ytefjdmlmmoeoaaa
open Go.RowKit
set_option linter.unusedVariables false

theorem seen_len (l : List Ver) (k : Nat) (h : k < many8 l) : min (8 * (k + 1)) l.length = min (8 * k) l.length + (pc8 l k).length := by
  have := many8_lt h
  have := pc8_len l k
  omega

set_option maxRecDepth 100000 in
theorem run_len (p : Value) (l : List Ver) (base : Nat) (w : World) (hp : RunAt w base p l) (hl : l.length ≤ 20000) :
    Calls Try.prog 15 #[p] w fun e w' => e = .returned (.int .i64 l.length) ∧ Below w.heap.size w w' := by
  obtain ⟨nr, vb, rfl, hbx, -, hv⟩ := hp
  have c0 := hbx.cell 0 vb rfl
  have HPL := Lib.hid (pcs8_len l)
  have HMM := Lib.hid (show many8 l = (l.length + 7) / 8 from rfl)
  have hmm : many8 l ≤ 3000 := by unfold many8; omega
  obtain ⟨A, ca, rfl⟩ := hv.form
  rw [HPL.out] at hv c0
  have HAT := Lib.hid (show ∀ h : Nat, h < many8 l → ∃ g u, A = some ⟨g, 0, none⟩ ∧ w.cell? ⟨g, h, none⟩ = some u ∧ RdVr w w.heap.size u (pc8 l h) from fun h hh => by
    obtain ⟨g, c, eA, hg, hcl⟩ := hv.here (by rw [HPL.out]; omega)
    obtain ⟨u, cu, ou⟩ := hcl h (by rw [HPL.out]; exact hh)
    rw [pcs8_at] at ou
    injection eA with eA1 eA2 eA3
    exact ⟨g, u, eA1, cu, ou.rd⟩)
  have HSL := Lib.hid (fun k h => seen_len l k h)
  generalize many8 l = MN at *
  clear hbx hv
  go_enter Try.func15, Try.ntmps15
  go_wp2_with fail
  go_loopw [3, 11] (fun x i wr => ∃ k n : Nat, i = .int .i64 k ∧ x = .int .i64 n ∧ k ≤ MN ∧ n = min (8 * k) l.length ∧ wr = w) (fun _ i _ => MN - (intOf i).toNat)
  case atStart => exact ⟨0, 0, rfl, rfl, Nat.zero_le _, by rw [Nat.mul_zero, Nat.zero_min], rfl⟩
  case round =>
    obtain ⟨k, n, rfl, rfl, hk, hn, rfl⟩ := hrel
    have HN := Lib.hid hn
    have hnl : n ≤ 20000 := by omega
    clear hn
    by_cases hlt : k < MN
    · have zl : decide ((k : Int) < (MN : Int)) = true := by simp; omega
      have zl2 : decide (k < MN) = true := by simp; omega
      obtain ⟨g, u, rfl, cu, ru⟩ := HAT.out k hlt
      obtain ⟨Ap, cp, ep, -⟩ := ru
      subst ep
      have hs := HSL.out k hlt
      obtain ⟨m, hm⟩ : ∃ m, m = (pc8 l k).length := ⟨_, rfl⟩
      rw [← hm] at hs cu
      have hmb : m ≤ 20000 := by omega
      have HS := Lib.hid (show n + m = min (8 * (k + 1)) l.length from by rw [HN.out]; omega)
      have hw : IntKind.i64.wrap ((n : Int) + (m : Int)) = (n : Int) + (m : Int) := by rw [IntKind.wrap_i64]; omega
      clear hs hm
      go_wp2_with fail
      go_roundw
      case rel => exact ⟨k + 1, n + m, by go_num, by go_num, hlt, HS.out, trivial⟩
      case measure => simp [intOf]; omega
    · have hke : k = MN := by omega
      subst hke
      have zl : decide ((k : Int) < (k : Int)) = false := by simp
      have HE := Lib.hid (show n = l.length from by rw [HN.out]; have := HMM.out; omega)
      go_wp2_with fail
      go_ret
      exact ⟨ret_int (by rw [HE.out]), Below.refl _ _⟩

theorem grow_nil (n : Nat) (w : World) (hn : n ≤ 20000) :
    Calls Try.prog 60 #[.slice none 0 0, .int .i64 n] w fun e w' => ∃ v', e = .returned v' ∧ OwnVr w' w.heap.size v' [] ∧ Below w.heap.size w w' := by
  have z0 : decide ((n : Int) < 0) = false := by rw [decide_eq_false_iff_not]; omega
  have hw : IntKind.i64.wrap (n : Int) = (n : Int) := by rw [IntKind.wrap_i64]; omega
  rcases Nat.eq_zero_or_pos n with h0 | h0
  · subst h0
    go_enter Try.func60, Try.ntmps60
    go_wp2_with fail
    go_ret
    exact ⟨_, rfl, OwnX.nil _ _, Below.refl _ _⟩
  · have z1 : decide ((0 : Int) < (n : Int)) = true := by simp; omega
    have z2 : decide (0 < n) = true := by simp; omega
    obtain ⟨i0, hi0, hz0, hzs, hzb⟩ := info_parts ver_info
    have hz := fun ty => Lib.run_append_nil_zeros w 22 3 ty 42 i0 _ .i64 .i64 Try.underlying22 Try.underlying3 hi0 hz0 n h0 (by omega) (by omega) (by rw [hzb]; omega)
    have hGn : n ≤ grownCap w n 0 42 := grownCap_ge w _ _ _
    have hGm : grownCap w n 0 42 ≤ maxLen := grownCap_le_maxLen w _ _ _ (by unfold maxLen; omega)
    generalize grownCap w n 0 42 = G at *
    have hG63 : G ≤ 9223372036854775807 := by simpa [maxLen] using hGm
    obtain ⟨ROW, hROW⟩ : ∃ ROW : Array Value, ROW = Builtin.zeroCells (Value.agg #[.string ⟨#[]⟩, .int .i64 0, .int .i64 0, .int .i64 0, .int .i64 0, .int .i64 0, .string ⟨#[]⟩, .bool false]).cells n ++ Builtin.zeroCells (Value.agg #[.string ⟨#[]⟩, .int .i64 0, .int .i64 0, .int .i64 0, .int .i64 0, .int .i64 0, .string ⟨#[]⟩, .bool false]).cells (G - n) := ⟨_, rfl⟩
    rw [← hROW] at hz
    have hRs : ROW.size = G * 8 := by
      rw [hROW]
      simp [Builtin.zeroCells, Value.cells]
      omega
    have OW := Lib.hid (show OwnVr (w.drew.alloc (.cells ROW 42)) w.heap.size (.slice (some ⟨w.heap.size, 0, none⟩) 0 G) [] from ⟨rfl, .inr ⟨w.heap.size, G, ROW, rfl, Nat.le_refl _, heap_alloc_new w.drew _, Nat.zero_le _, hGm, hRs, by simp [Lay.all]⟩⟩)
    have HZ := Lib.hid hz
    have hB : Below w.heap.size w (w.drew.alloc (.cells ROW 42)) := (show Below w.heap.size w w.drew from (Below.refl _ w).drewN 1).alloc (Nat.le_refl _) _
    have GB := Lib.hid hB
    clear hz hROW hRs hB hi0 hz0 hzs hzb
    go_enter Try.func60, Try.ntmps60
    go_wp2_with (at_builtin; refine Lib.wpList_append_run _ rfl (.tmp 20) (.tmp 21) 22 3 rfl _ _ rfl rfl _ _ (HZ.out _) ?_; generalize w.drew.alloc (.cells ROW 42) = W1 at *)
    go_ret
    refine ⟨_, rfl, ?_, GB.out⟩
    exact OW.out
end Go.Proofs.Ytefjdmlmmoeoaaa
