/- Layer 9: Concat, All, by the project. -/
import Derived.Test.YtefjdmlmmoeoaaaWo
namespace Go.Proofs.Ytefjdmlmmoeoaaa
open Go.RowKit
set_option linter.unusedVariables false

set_option maxHeartbeats 4000000 in
set_option maxRecDepth 100000 in
theorem run_concat (vb : Value) (l : List Ver) (base : Nat) (w : World) (hv : OwnNV w base vb (pcs8 l)) (hl : l.length ≤ 20000) :
    Calls Try.prog 35 #[vb] w fun e w' => ∃ v', e = .returned v' ∧ OwnVr w' w.heap.size v' l ∧ Below w.heap.size w w' := by
  have HPL := Lib.hid (pcs8_len l)
  have HMM := Lib.hid (show many8 l = (l.length + 7) / 8 from rfl)
  have hmm : many8 l ≤ 3000 := by unfold many8; omega
  obtain ⟨A, ca, rfl⟩ := hv.form
  rw [HPL.out] at hv ⊢
  have HAT := Lib.hid (show ∀ W, Below w.heap.size w W → ∀ h : Nat, h < many8 l → ∃ g u, A = some ⟨g, 0, none⟩ ∧ W.cell? ⟨g, h, none⟩ = some u ∧ RdVr W w.heap.size u (pc8 l h) from fun W hW h hh => by
    obtain ⟨g, c, eA, hg, hcl⟩ := hv.here (by rw [HPL.out]; omega)
    obtain ⟨u, cu, ou⟩ := hcl h (by rw [HPL.out]; exact hh)
    rw [pcs8_at] at ou
    injection eA with eA1 eA2 eA3
    exact ⟨g, u, eA1, (hW.cell (p := ⟨g, h, none⟩) hg).trans cu, ou.rd.below hW⟩)
  have HSL := Lib.hid (fun k h => seen_len l k h)
  have HTS := Lib.hid (show ∀ k, l.take (8 * (k + 1)) = l.take (8 * k) ++ pc8 l k from fun k => by unfold pc8; rw [show 8 * (k + 1) = 8 * k + 8 from by omega, List.take_add])
  have HTE := Lib.hid (show l.take (8 * many8 l) = l from List.take_of_length_le (by rw [HMM.out]; omega))
  have HTL := Lib.hid (show ∀ k, (l.take (8 * k)).length ≤ 20000 from fun k => by rw [List.length_take]; omega)
  have HPC := Lib.hid (show ∀ k, (pc8 l k).length ≤ 20000 from fun k => by rw [pc8_len]; omega)
  generalize many8 l = MN at *
  clear hv
  go_enter Try.func35, Try.ntmps35
  go_wp2_with fail
  go_loopw [3, 11] (fun x i wr => ∃ k n : Nat, i = .int .i64 k ∧ x = .int .i64 n ∧ k ≤ MN ∧ n = min (8 * k) l.length ∧ wr = w) (fun _ i _ => MN - (intOf i).toNat)
  case atStart => exact ⟨0, 0, rfl, rfl, Nat.zero_le _, by rw [Nat.mul_zero, Nat.zero_min], rfl⟩
  case round =>
    obtain ⟨k, n, rfl, rfl, hk, hn, hwr⟩ := hrel
    obtain rfl : w = wr := hwr.symm
    have HN := Lib.hid hn
    have hnl : n ≤ 20000 := by omega
    clear hn
    by_cases hlt : k < MN
    · have zl : decide ((k : Int) < (MN : Int)) = true := by simp; omega
      have zl2 : decide (k < MN) = true := by simp; omega
      obtain ⟨g, u, rfl, cu, ru⟩ := HAT.out _ (Below.refl _ _) k hlt
      obtain ⟨Ap, cp, ep, -⟩ := ru
      subst ep
      have hs := HSL.out k hlt
      obtain ⟨m, hm⟩ : ∃ m, m = (pc8 l k).length := ⟨_, rfl⟩
      rw [← hm] at hs cu
      have hmb : m ≤ 20000 := by omega
      have HS := Lib.hid (show n + m = min (8 * (k + 1)) l.length from by rw [HN.out]; omega)
      have hw : IntKind.i64.wrap ((n : Int) + (m : Int)) = (n : Int) + (m : Int) := by rw [IntKind.wrap_i64]; omega
      have zn : decide ((n : Int) + (m : Int) < 0) = false := by rw [decide_eq_false_iff_not]; omega
      clear hs hm
      go_wp2_with fail
      go_roundw
      case rel => exact ⟨k + 1, n + m, by go_num, by go_num, hlt, HS.out, trivial⟩
      case measure => simp [intOf]; omega
    · have hke : k = MN := by omega
      subst hke
      have zl : decide ((k : Int) < (k : Int)) = false := by simp
      go_wp2_with fail
      refine (grow_nil n _ hnl).mono ?_
      rintro z w1 ⟨v1, rfl, ho1, hb1⟩
      go_wp2_with fail
      clear hlt hnl HN
      go_loopw [6, 27] (fun x i wq => ∃ j : Nat, i = .int .i64 j ∧ j ≤ k ∧ OwnVr wq w.heap.size x (l.take (8 * j)) ∧ Below w.heap.size w wq) (fun _ i _ => k - (intOf i).toNat)
      case atStart => exact ⟨0, rfl, Nat.zero_le _, ho1, hb1⟩
      case round =>
        obtain ⟨j, rfl, hj, ho, hbw⟩ := hrel
        have O := Lib.hid ho
        have G := Lib.hid hbw
        obtain ⟨OA, oc, eo, -⟩ := ho.rd
        subst eo
        clear ho hbw
        by_cases hlt : j < k
        · have zl : decide ((j : Int) < (k : Int)) = true := by simp; omega
          have zl2 : decide (j < k) = true := by simp; omega
          obtain ⟨g, u, rfl, cu, ru⟩ := HAT.out _ G.out j hlt
          have RU := Lib.hid ru
          obtain ⟨Ap, cp, ep, -⟩ := ru
          subst ep
          have TS := Lib.hid (HTS.out j)
          have hpl := HPC.out j
          have htl := HTL.out j
          have hal := Lib.hid (show (l.take (8 * j)).length + (pc8 l j).length ≤ 1000000000 from by omega)
          clear hpl htl
          generalize l.take (8 * j) = TK at *
          generalize pc8 l j = PC at *
          have hsz := Lib.hid G.out.size
          go_wp2_with (at_builtin; refine wpl_appX_rd rfl (.tmp 31) (.tmp 32) rfl Try.underlying22 ver_info rfl w.heap.size _ _ _ TK PC rfl rfl O.out RU.out hsz.out hal.out (by decide) ?_; intro v5 w5 ho5 hg5 hb5)
          have OZ := Lib.hid (show OwnVr w5 w.heap.size v5 (l.take (8 * (j + 1))) from by rw [TS.out]; exact ho5)
          have GZ := Lib.hid (G.out.trans hb5)
          clear ho5 hg5 hb5
          go_roundw
          case rel => exact ⟨j + 1, by go_num, by omega, OZ.out, GZ.out⟩
          case measure => simp [intOf]; omega
        · obtain rfl : j = k := by omega
          have zl : decide ((j : Int) < (j : Int)) = false := by simp
          go_wp2_with fail
          go_ret
          exact ⟨_, rfl, by have := O.out; rw [HTE.out] at this ⊢; exact this, G.out⟩

set_option maxRecDepth 100000 in
theorem run_all (p : Value) (l : List Ver) (base : Nat) (w : World) (hp : RunAt w base p l) (hl : l.length ≤ 20000) :
    Calls Try.prog 13 #[p] w fun e w' => ∃ v', e = .returned v' ∧ OwnVr w' w.heap.size v' l ∧ Below w.heap.size w w' := by
  obtain ⟨nr, vb, rfl, hbx, -, hv⟩ := hp
  have c0 := hbx.cell 0 vb rfl
  have CC := Lib.hid (fun base w h => run_concat vb l base w h hl)
  have HV := Lib.hid hv
  obtain ⟨A, ca, rfl⟩ := hv.form
  generalize (pcs8 l).length = MN at *
  clear hbx hv
  go_enter Try.func13, Try.ntmps13
  go_wp2_with fail
  refine (CC.out _ _ HV.out).mono ?_
  rintro z w1 ⟨v1, rfl, ho1, hb1⟩
  have O := Lib.hid ho1
  have G := Lib.hid hb1
  obtain ⟨OA, oc, eo, -⟩ := ho1.rd
  subst eo
  clear ho1 hb1
  go_wp2_with fail
  go_ret
  exact ⟨_, rfl, O.out, G.out⟩
end Go.Proofs.Ytefjdmlmmoeoaaa
