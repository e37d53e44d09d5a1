/- VaryTurns: for every number what it is turned to, and turned back, is the document's, and turned back is itself where it can be turned. No conditions. -/
import Derived.Test.YticfjpnocpcopaaVe
import Derived.ChangeMaps5
namespace Go.Proofs.Yticfjpnocpcopaa.L02
open Go.RowKit Go.ChangeShapes Go.WideShapes Go.ChangeAt
set_option linter.unusedVariables false

set_option maxHeartbeats 1000000 in
theorem walk (n : Int) (w : World) (hn : -9223372036854775808 ≤ n ∧ n ≤ 9223372036854775807) :
    Calls Try.prog 4 #[.int .i64 n] w fun e w' => e = .returned (.bool true) ∧ Below w.heap.size w w' := by
  obtain ⟨h1, h2⟩ := hn
  have ht := turn_bd n
  have hbt := Lib.hid (back_turn n)
  generalize hT : turnI n = t at *
  have HT := Lib.hid hT
  clear hT
  obtain ⟨t1, t2⟩ := ht
  by_cases hm : -2305843009213693952 ≤ n ∧ n ≤ 2305843009213693951
  · obtain ⟨m1, m2⟩ := hm
    have hb : (backI t == n) = true := by simpa using hbt.out m1 m2
    clear hbt
    go_enter Try.func4, Try.ntmps4
    go_wp2_with (first
      | (go_at_call 15; refine (vary_turn n _ h1 h2).mono ?_; rw [HT.out]; rintro e w1 ⟨rfl, rfl⟩)
      | (go_at_call 16; refine (ref_turn n _ h1 h2).mono ?_; rw [HT.out]; rintro e w1 ⟨rfl, rfl⟩)
      | (go_at_call 17; refine (vary_back _ _ ?_ ?_).mono ?_; rotate_left 2; rintro e w1 ⟨rfl, rfl⟩)
      | (go_at_call 18; refine (ref_back _ _ ?_ ?_).mono ?_; rotate_left 2; rintro e w1 ⟨rfl, rfl⟩)
      | (go_at_call 14; refine (lives_any _).mono ?_; rintro e w1 ⟨rfl, hb1⟩))
    · go_ret
      exact ⟨rfl, hb1⟩
    all_goals omega
  · have hm1 : (decide (-2305843009213693952 ≤ n) && decide (n ≤ 2305843009213693951)) = false := by simp; omega
    clear hbt
    have hm2 : n < -2305843009213693952 ∨ 2305843009213693951 < n := by omega
    clear hm hm1
    rcases hm2 with hm | hm
    · go_enter Try.func4, Try.ntmps4
      go_wp2_with (first
        | (go_at_call 15; refine (vary_turn n _ h1 h2).mono ?_; rw [HT.out]; rintro e w1 ⟨rfl, rfl⟩)
        | (go_at_call 16; refine (ref_turn n _ h1 h2).mono ?_; rw [HT.out]; rintro e w1 ⟨rfl, rfl⟩)
        | (go_at_call 17; refine (vary_back _ _ ?_ ?_).mono ?_; rotate_left 2; rintro e w1 ⟨rfl, rfl⟩)
        | (go_at_call 18; refine (ref_back _ _ ?_ ?_).mono ?_; rotate_left 2; rintro e w1 ⟨rfl, rfl⟩)
        | (go_at_call 14; refine (lives_any _).mono ?_; rintro e w1 ⟨rfl, hb1⟩))
      · go_ret
        exact ⟨rfl, hb1⟩
      all_goals omega
    · go_enter Try.func4, Try.ntmps4
      go_wp2_with (first
        | (go_at_call 15; refine (vary_turn n _ h1 h2).mono ?_; rw [HT.out]; rintro e w1 ⟨rfl, rfl⟩)
        | (go_at_call 16; refine (ref_turn n _ h1 h2).mono ?_; rw [HT.out]; rintro e w1 ⟨rfl, rfl⟩)
        | (go_at_call 17; refine (vary_back _ _ ?_ ?_).mono ?_; rotate_left 2; rintro e w1 ⟨rfl, rfl⟩)
        | (go_at_call 18; refine (ref_back _ _ ?_ ?_).mono ?_; rotate_left 2; rintro e w1 ⟨rfl, rfl⟩)
        | (go_at_call 14; refine (lives_any _).mono ?_; rintro e w1 ⟨rfl, hb1⟩))
      · go_ret
        exact ⟨rfl, hb1⟩
      all_goals omega
-- END
set_option maxRecDepth 100000 in
theorem lifted (os : Os) (started : os.Started) (H : Type) (enc : TypeId × Value → H) :
    ReturnsInHanded {} Try.checked os 4 .any (Rows.varyTurnsSpec.pre6 enc Try.prog Try.f4 Rows.varyTurnsRow.domain false) (Rows.varyTurnsSpec.post enc Try.prog Try.f4 false true false false) := by
  refine returnsInHanded_of_change (C := Try.checked) Try.own started (by kernel_rfl) Try.func4
    (ChangeSpec.witness6 (enc := enc) (C := Try.checked) false ⟨#[], #[.int .i64 0], []⟩ 8 (by kernel_rfl) (by kernel_rfl) (by kernel_rfl) (by kernel_rfl)) ?_
  intro W base args ds gs before hval0 hW _ _
  have hval : ∀ (j : Nat) t v, Try.f4.params[j]? = some t → args[j]? = some v → Value.okWide Try.prog W .any base t v := hval0
  have hW' := hW
  obtain ⟨p, q, hA0, hV, rfl, _, _⟩ := hW
  have hA : DataW.TrodAll enc Try.prog W 0 (fun _ => true) true Try.f4.params.toList args.toList ds p := hA0
  rw [Try.params4] at hA hval
  obtain ⟨v0, d0, rfl, rfl, h0⟩ := trodAll_one hA
  obtain ⟨rfl, rfl⟩ := trodVars_none hV
  obtain ⟨a0, rfl, rfl, rfl, w0⟩ := open_int Try.underlying3 (hval 0 _ v0 rfl rfl) h0
  have w0 := wf_int w0
  refine (walk a0 W w0).mono fun e W' ⟨he, hb⟩ => ⟨_, he, ?_⟩
  exact law_post Try.laidOut (by decide +kernel) rfl Try.underlying4 rfl hW' rfl hb

theorem holds : Rows.VaryTurnsSaid :=
  OpenClaim.holds_of_wide 4 Try.f4 rfl rfl rfl rfl rfl rfl rfl ⟨rfl, rfl, rfl, rfl, rfl⟩ rfl rfl rfl rfl rfl (by kernel_rfl) Try.func4 (by kernel_rfl)
    (of_decide_eq_true (by kernel_rfl)) (by unfold Func.isWrapper; first | (rw [if_pos (by decide +kernel)]; kernel_rfl) | (rw [if_neg (by decide +kernel)]; exact ⟨rfl, rfl⟩))
    (fun os started H enc _ => lifted os started H enc)
end Go.Proofs.Yticfjpnocpcopaa.L02
