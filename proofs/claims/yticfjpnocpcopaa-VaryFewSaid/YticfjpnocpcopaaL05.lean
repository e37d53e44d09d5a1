/- VaryFew: for every two numbers (from 0 on) a number's bytes are as many as its sevens of bits, and a greater one has no fewer. No conditions. -/
import Derived.Test.YticfjpnocpcopaaVe
import Derived.ChangeMaps5
namespace Go.Proofs.Yticfjpnocpcopaa.L05
open Go.RowKit Go.ChangeShapes Go.WideShapes Go.ChangeAt
set_option linter.unusedVariables false

theorem few_mono (a : Nat) : ∀ b, a ≤ b → (encN a).length ≤ (encN b).length := by
  induction a using Nat.strongRecOn with
  | ind a ih =>
    intro b hb
    by_cases ha : a < 128
    · rw [encN_lt ha]; exact encN_pos b
    · rw [encN_ge ha, encN_ge (n := b) (by omega), List.length_cons, List.length_cons]
      have := ih (a / 128) (by omega) (b / 128) (Nat.div_le_div_right hb)
      omega

/-- One number, put behind nothing. -/
theorem put_one (n : Nat) (w : World) (hn : n < 9223372036854775808) :
    Calls Try.prog 11 #[.slice none 0 0, .slice (some ⟨w.heap.size, 0, none⟩) 1 1] (w.alloc (.cells #[.int .i64 n] 3)) fun e w' => ∃ A c, e = .returned (.slice A (encN n).length c) ∧ Below w.heap.size w w' := by
  refine (put_lit _ [] [(n : Int)] _ 1 w rfl rfl (RdB.nil _ _) (by simp) (by simp; omega) (by simp)).mono ?_
  rintro e w' ⟨v', rfl, ho, hb⟩
  have he : ([] : List UInt8) ++ encNs [(n : Int)] = encN n := by simp [encNs]
  rw [he] at ho
  obtain ⟨A, c, rfl, _⟩ := ho.rd
  exact ⟨A, c, rfl, hb⟩

set_option maxHeartbeats 1000000 in
set_option maxRecDepth 100000 in
theorem core (A B : Int) (a b : Nat) (w : World) (ha : a < 9223372036854775808) (hb : b < 9223372036854775808) (A1 : -9223372036854775808 ≤ A) (B1 : -9223372036854775808 ≤ B) (hA : A = if A < 0 then A else a) (hA2 : A < 0 → (a : Int) = -(A + 1)) (hB : B = if B < 0 then B else b) (hB2 : B < 0 → (b : Int) = -(B + 1)) :
    Calls Try.prog 7 #[.int .i64 A, .int .i64 B] w fun e w' => e = .returned (.bool true) ∧ Below w.heap.size w w' := by
  have hm := Lib.hid (few_mono a b)
  have h9 := encN_nine a ha
  have hp := encN_pos a
  have h9b := encN_nine b hb
  have hpb := encN_pos b
  have HX : ∃ X, X = (encN a).length := ⟨_, rfl⟩
  obtain ⟨X, hX⟩ := HX
  have HY : ∃ Y, Y = (encN b).length := ⟨_, rfl⟩
  obtain ⟨Y, hY⟩ := HY
  rw [← hX] at hm h9 hp
  rw [← hY] at hm h9b hpb
  have HX := Lib.hid hX
  have HY := Lib.hid hY
  clear hX hY
  by_cases hA0 : A < 0 <;> by_cases hB0 : B < 0
  all_goals
    first
      | (have HA3 := Lib.hid (hA2 hA0); clear hA2 hA)
      | (rw [if_neg hA0] at hA; subst hA; clear hA2)
    first
      | (have HB3 := Lib.hid (hB2 hB0); clear hB2 hB)
      | (rw [if_neg hB0] at hB; subst hB; clear hB2)
  all_goals
    go_enter Try.func7, Try.ntmps7
    go_wp2_with fail
    try simp only [← HA3.out]
    try simp only [← HB3.out]
    go_loopw [5, 6] (fun n k wr => ∃ j m : Nat, k = .int .i64 j ∧ n = .int .i64 m ∧ j < 9223372036854775808 ∧ m + (encN j).length = X + 1 ∧ wr = w) (fun _ k _ => (intOf k).toNat)
    case atStart => exact ⟨a, 1, rfl, rfl, ha, by rw [HX.out]; omega, by first | rfl | trivial⟩
    case round =>
      obtain ⟨j, m, rfl, rfl, hj, hmj, rfl⟩ := hrel
      by_cases h128 : j < 128
      · rw [encN_lt h128, List.length_singleton] at hmj
        have hmX : m = X := by omega
        subst hmX
        clear hmj
        by_cases hab : b < a
        · go_wp2_with fail
          refine (put_one a _ ha).mono ?_
          rintro e w1 ⟨A1, c1, rfl, hb1⟩
          rw [← HX.out]
          have H1 := Lib.hid hb1
          clear hb1
          go_wp2_with fail
          refine (put_one b _ hb).mono ?_
          rintro e w2 ⟨A2, c2, rfl, hb2⟩
          rw [← HY.out]
          have H2 := Lib.hid (H1.out.trans (hb2.mono H1.out.size))
          clear hb2
          go_wp2_with fail
          refine (lives_any _).mono ?_
          rintro e w3 ⟨rfl, hb3⟩
          have H3 := Lib.hid (H2.out.trans (hb3.mono H2.out.size))
          clear hb3
          go_wp2_with fail
          go_ret
          exact ⟨rfl, H3.out⟩
        · have hXY := hm.out (by omega)
          go_wp2_with fail
          refine (put_one a _ ha).mono ?_
          rintro e w1 ⟨A1, c1, rfl, hb1⟩
          rw [← HX.out]
          have H1 := Lib.hid hb1
          clear hb1
          go_wp2_with fail
          refine (put_one b _ hb).mono ?_
          rintro e w2 ⟨A2, c2, rfl, hb2⟩
          rw [← HY.out]
          have H2 := Lib.hid (H1.out.trans (hb2.mono H1.out.size))
          clear hb2
          go_wp2_with fail
          refine (lives_any _).mono ?_
          rintro e w3 ⟨rfl, hb3⟩
          have H3 := Lib.hid (H2.out.trans (hb3.mono H2.out.size))
          clear hb3
          go_wp2_with fail
          go_ret
          exact ⟨rfl, H3.out⟩
      · rw [encN_ge h128, List.length_cons] at hmj
        have hp2 := encN_pos (j / 128)
        have HM := Lib.hid (show (m + 1) + (encN (j / 128)).length = X + 1 from by omega)
        have hm9 : m ≤ 9 := by omega
        clear hmj hp2
        go_wp2
        go_roundw
        case rel => exact ⟨j / 128, m + 1, by go_num, by go_num, by omega, HM.out, by first | rfl | trivial⟩
        case measure => simp [intOf]; omega

theorem walk (A B : Int) (w : World) (hA : -9223372036854775808 ≤ A ∧ A ≤ 9223372036854775807) (hB : -9223372036854775808 ≤ B ∧ B ≤ 9223372036854775807) :
    Calls Try.prog 7 #[.int .i64 A, .int .i64 B] w fun e w' => e = .returned (.bool true) ∧ Below w.heap.size w w' :=
  core A B (if A < 0 then -(A + 1) else A).toNat (if B < 0 then -(B + 1) else B).toNat w (by split <;> omega) (by split <;> omega) hA.1 hB.1 (by split <;> omega) (by intro h; rw [if_pos h]; omega) (by split <;> omega) (by intro h; rw [if_pos h]; omega)
-- END
set_option maxRecDepth 100000 in
theorem lifted (os : Os) (started : os.Started) (H : Type) (enc : TypeId × Value → H) :
    ReturnsInHanded {} Try.checked os 7 .any (Rows.varyFewSpec.pre6 enc Try.prog Try.f7 Rows.varyFewRow.domain false) (Rows.varyFewSpec.post enc Try.prog Try.f7 false true false false) := by
  refine returnsInHanded_of_change (C := Try.checked) Try.own started (by kernel_rfl) Try.func7
    (ChangeSpec.witness6 (enc := enc) (C := Try.checked) false ⟨#[], #[.int .i64 0, .int .i64 0], []⟩ 8 (by kernel_rfl) (by kernel_rfl) (by kernel_rfl) (by kernel_rfl)) ?_
  intro W base args ds gs before hval0 hW _ _
  have hval : ∀ (j : Nat) t v, Try.f7.params[j]? = some t → args[j]? = some v → Value.okWide Try.prog W .any base t v := hval0
  have hW' := hW
  obtain ⟨p, q, hA0, hV, rfl, _, _⟩ := hW
  have hA : DataW.TrodAll enc Try.prog W 0 (fun _ => true) true Try.f7.params.toList args.toList ds p := hA0
  rw [Try.params7] at hA hval
  obtain ⟨v0, v1, d0, d1, p0, p1, rfl, rfl, rfl, h0, h1⟩ := trodAll_two hA
  obtain ⟨rfl, rfl⟩ := trodVars_none hV
  obtain ⟨a0, rfl, rfl, rfl, w0⟩ := open_int Try.underlying3 (hval 0 _ v0 rfl rfl) h0
  have w0 := wf_int w0
  obtain ⟨a1, rfl, rfl, rfl, w1⟩ := open_int Try.underlying3 (hval 1 _ v1 rfl rfl) h1
  have w1 := wf_int w1
  refine (walk a0 a1 W w0 w1).mono fun e W' ⟨he, hb⟩ => ⟨_, he, ?_⟩
  exact law_post Try.laidOut (by decide +kernel) rfl Try.underlying4 rfl hW' rfl hb

theorem holds : Rows.VaryFewSaid :=
  OpenClaim.holds_of_wide 7 Try.f7 rfl rfl rfl rfl rfl rfl rfl ⟨rfl, rfl, rfl, rfl, rfl⟩ rfl rfl rfl rfl rfl (by kernel_rfl) Try.func7 (by kernel_rfl)
    (of_decide_eq_true (by kernel_rfl)) (by unfold Func.isWrapper; first | (rw [if_pos (by decide +kernel)]; kernel_rfl) | (rw [if_neg (by decide +kernel)]; exact ⟨rfl, rfl⟩))
    (fun os started H enc _ => lifted os started H enc)
end Go.Proofs.Yticfjpnocpcopaa.L05
