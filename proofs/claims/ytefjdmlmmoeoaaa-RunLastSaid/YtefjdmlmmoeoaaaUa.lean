/- Layer 8: how many bytes two texts have in common, found by a jump back to the next byte; a mark; by the project. -/
import Derived.Test.YtefjdmlmmoeoaaaTe
import Derived.BigQuiet
namespace Go.Proofs.Ytefjdmlmmoeoaaa
open Go.RowKit
set_option linter.unusedVariables false

set_option maxHeartbeats 3200000 in
set_option maxRecDepth 1000000 in
theorem blk_common (a b : ByteArray) (w : World) (ha : a.size ≤ 1000000) :
    Calls Try.prog 88 #[.string a, .string b] w fun e w' => e = .returned (.int .i64 (com a b)) ∧ Below w.heap.size w w' := by
  have hcl := com_le a b
  have CLT := Lib.hid (fun n h h1 h2 => com_lt (a := a) (b := b) (n := n) h h1 h2)
  have CEN := Lib.hid (fun n h h1 h2 => com_end (a := a) (b := b) (n := n) h h1 h2)
  generalize com a b = c at *
  go_enter Try.func88, Try.ntmps88
  go_wp2
  refine wp_scope_jumps 0 (fun a' w' => ∃ (j : Nat) (u6 u7 u8 u9 u10 u11 u12 u13 u14 u15 u16 u17 u18 u19 u20 u21 u22 u23 u24 u25 u26 u27 : Value), (j ≤ c ∧ Below w.heap.size w w') ∧ a' = { tmps := #[.string a, .string b, undef, undef, .int .i64 0, .int .i64 j, u6, u7, u8, u9, u10, u11, u12, u13, u14, u15, u16, u17, u18, u19, u20, u21, u22, u23, u24, u25, u26, u27], defers := [] })
    (fun a' _ => c - (intOf (a'.tmps.getD 5 undef)).toNat) rfl ?first ?pass
  case' first =>
    go_wp2
    go_step3
    simp only [Exit.then]
    rename_i K hK
    refine hK _ _ ?_
    clear hK K
    refine (?_ : ∀ (j : Nat) (u6 u7 u8 u9 u10 u11 u12 u13 u14 u15 u16 u17 u18 u19 u20 u21 u22 u23 u24 u25 u26 u27 : Value) (w' : World), (j ≤ c ∧ Below w.heap.size w w') → Code.wp Try.prog _ _ { tmps := #[.string a, .string b, undef, undef, .int .i64 0, .int .i64 (j : Int), u6, u7, u8, u9, u10, u11, u12, u13, u14, u15, u16, u17, u18, u19, u20, u21, u22, u23, u24, u25, u26, u27], defers := [] } w') 0 undef undef undef undef undef undef undef undef undef undef undef undef undef undef undef undef undef undef undef undef undef undef w ⟨Nat.zero_le _, Below.refl _ _⟩
    intro j u6 u7 u8 u9 u10 u11 u12 u13 u14 u15 u16 u17 u18 u19 u20 u21 u22 u23 u24 u25 u26 u27 w' hf
  case' pass =>
    rintro a' w' ⟨j, u6, u7, u8, u9, u10, u11, u12, u13, u14, u15, u16, u17, u18, u19, u20, u21, u22, u23, u24, u25, u26, u27, hf, rfl⟩
  all_goals
    obtain ⟨hj, hb⟩ := hf
    have G := Lib.hid hb
    clear hb
    by_cases hjc : j < c
    · have hja : j < a.size := by omega
      have hjb : j < b.size := by omega
      have hcc := CLT.out j hjc hja hjb
      have z1 : decide ((j : Int) < (a.size : Int)) = true := by simp; omega
      have z2 : decide ((j : Int) < (b.size : Int)) = true := by simp; omega
      generalize hq : b[j] = q at *
      go_wp2_with fail
      go_quiet (fail)
      have G2 := Lib.hid (G.out.drewN nq)
      go_wp2_with fail
      rw [show ((j : Int) + 1) = ((j + 1 : Nat) : Int) from by omega]
      go_step3
      first
        | exact ⟨rfl, j + 1, _, _, _, _, _, _, _, _, _, _, _, _, _, _, _, _, _, _, _, _, _, _, ⟨by omega, G2.out⟩, rfl⟩
        | exact ⟨rfl, ⟨j + 1, _, _, _, _, _, _, _, _, _, _, _, _, _, _, _, _, _, _, _, _, _, _, ⟨by omega, G2.out⟩, rfl⟩, by simp [intOf]; omega⟩
    · have hje : j = c := by omega
      subst hje
      by_cases hja : j < a.size
      · have z1 : decide ((j : Int) < (a.size : Int)) = true := by simp; omega
        have z11 : decide (j < a.size) = true := by simp; omega
        by_cases hjb : j < b.size
        · have z2 : decide ((j : Int) < (b.size : Int)) = true := by simp; omega
          have z21 : decide (j < b.size) = true := by simp; omega
          have hcc := CEN.out j rfl hja hjb
          generalize hq : b[j] = q at *
          generalize hq2 : a[j] = q2 at *
          have z3 : ((q2.toNat : Int) == (q.toNat : Int)) = false := by
            rw [beq_eq_false_iff_ne]; intro e; exact hcc (UInt8.toNat_inj.1 (by omega))
          have z4 : (q2.toNat == q.toNat) = false := by
            rw [beq_eq_false_iff_ne]; intro e; exact hcc (UInt8.toNat_inj.1 e)
          have z5 : (q2 == q) = false := by rw [beq_eq_false_iff_ne]; exact hcc
          clear hcc
          go_wp2_with fail
          go_quiet (fail)
          have G2 := Lib.hid (G.out.drewN nq)
          go_wp2_with fail
          simp only [Exit.jump]
          go_wp2_with fail
          go_ret
          exact ⟨rfl, G2.out⟩
        · have z2 : decide ((j : Int) < (b.size : Int)) = false := by rw [decide_eq_false_iff_not]; omega
          have z21 : decide (j < b.size) = false := by rw [decide_eq_false_iff_not]; omega
          go_wp2_with fail
          go_quiet (fail)
          have G2 := Lib.hid (G.out.drewN nq)
          go_wp2_with fail
          simp only [Exit.jump]
          go_wp2_with fail
          go_ret
          exact ⟨rfl, G2.out⟩
      · have z1 : decide ((j : Int) < (a.size : Int)) = false := by rw [decide_eq_false_iff_not]; omega
        have z11 : decide (j < a.size) = false := by rw [decide_eq_false_iff_not]; omega
        go_wp2_with fail
        go_quiet (fail)
        have G2 := Lib.hid (G.out.drewN nq)
        go_wp2_with fail
        simp only [Exit.jump]
        go_wp2_with fail
        go_ret
        exact ⟨rfl, G2.out⟩

theorem blk_mark (v : Ver) (w : World) :
    Calls Try.prog 89 #[verV v] w fun e w' => e = .returned (.int .i64 (if v.gone = true then 1 else 0)) ∧ Below w.heap.size w w' := by
  obtain ⟨k, b, e, s, ⟨x, y⟩, u, g⟩ := v
  unfold verV
  simp only
  go_enter Try.func89, Try.ntmps89
  cases g
  all_goals
    go_wp2_with fail
    go_ret
    exact ⟨rfl, alloc_below w _⟩
end Go.Proofs.Ytefjdmlmmoeoaaa
