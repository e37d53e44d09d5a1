/- RowOrders: for any two versions the program's order is the document's, and turned round it is its negative. No conditions. -/
import Derived.Test.YtmchiebpijnpiaaRp
import Derived.Test.YtmchiebpijnpiaaRq
import Derived.Test.YtmchiebpijnpiaaRr
namespace Go.Proofs.Ytmchiebpijnpiaa.L05
open Go.RowKit Go.ChangeShapes Go.WideShapes Go.ChangeAt
set_option linter.unusedVariables false

set_option maxHeartbeats 4000000 in
theorem walk (a b : Ver) (w : World) :
    Calls Try.prog 7 #[verV a, verV b] w fun e w' => e = .returned (.bool true) ∧ Below w.heap.size w w' := by
  have L1 := Lib.hid (fun w => ref6_less a b w)
  have L2 := Lib.hid (fun w => ref6_less b a w)
  have C1 := Lib.hid (fun w => row_compare a b w)
  have C2 := Lib.hid (fun w => row_compare b a w)
  rw [lessV_iff] at L1 L2
  have h3 := cmpV_three a b
  rw [ver_tells.anti a b] at L2 C2
  generalize cmpV a b = c at *
  obtain ⟨k1, b1, e1, s1, ⟨x1, y1⟩, u1, g1⟩ := a
  obtain ⟨k2, b2, e2, s2, ⟨x2, y2⟩, u2, g2⟩ := b
  unfold verV at L1 L2 C1 C2 ⊢
  simp only at L1 L2 C1 C2 ⊢
  have B1 := Lib.hid (Box.new w #[.string k1, .int .i64 b1, .int .i64 e1, .int .i64 s1, .int .i64 x1, .int .i64 y1, .string u1, .bool g1] 27 _ rfl)
  have B1 := Lib.hid (B1.out.alloc (.cells #[.string k2, .int .i64 b2, .int .i64 e2, .int .i64 s2, .int .i64 x2, .int .i64 y2, .string u2, .bool g2] 27))
  have B2 := Lib.hid (Box.new (w.alloc (.cells #[.string k1, .int .i64 b1, .int .i64 e1, .int .i64 s1, .int .i64 x1, .int .i64 y1, .string u1, .bool g1] 27)) #[.string k2, .int .i64 b2, .int .i64 e2, .int .i64 s2, .int .i64 x2, .int .i64 y2, .string u2, .bool g2] 27 _ rfl)
  have G := Lib.hid ((alloc_below w (.cells #[.string k1, .int .i64 b1, .int .i64 e1, .int .i64 s1, .int .i64 x1, .int .i64 y1, .string u1, .bool g1] 27)).trans ((alloc_below (w.alloc (.cells #[.string k1, .int .i64 b1, .int .i64 e1, .int .i64 s1, .int .i64 x1, .int .i64 y1, .string u1, .bool g1] 27)) (.cells #[.string k2, .int .i64 b2, .int .i64 e2, .int .i64 s2, .int .i64 x2, .int .i64 y2, .string u2, .bool g2] 27)).mono (by simp)))
  have hs1 : (w.alloc (.cells #[.string k1, .int .i64 b1, .int .i64 e1, .int .i64 s1, .int .i64 x1, .int .i64 y1, .string u1, .bool g1] 27)).heap.size = w.heap.size + 1 := by simp
  rw [hs1] at B2
  clear hs1
  rcases h3 with h3 | h3 | h3
  all_goals
    subst h3
    simp only [Int.neg_neg, Int.reduceNeg, Int.reduceLT, decide_true, decide_false, Int.neg_zero, Int.lt_irrefl] at L1 L2 C1 C2
    go_enter Try.func7, Try.ntmps7
    go_wp2_with fail
    generalize (w.alloc (.cells #[.string k1, .int .i64 b1, .int .i64 e1, .int .i64 s1, .int .i64 x1, .int .i64 y1, .string u1, .bool g1] 27)).alloc (.cells #[.string k2, .int .i64 b2, .int .i64 e2, .int .i64 s2, .int .i64 x2, .int .i64 y2, .string u2, .bool g2] 27) = w0 at *
    have c10 := B1.out.cell 0 (.string k1) rfl
    have c11 := B1.out.cell 1 (.int .i64 b1) rfl
    have c12 := B1.out.cell 2 (.int .i64 e1) rfl
    have c13 := B1.out.cell 3 (.int .i64 s1) rfl
    have c14 := B1.out.cell 4 (.int .i64 x1) rfl
    have c15 := B1.out.cell 5 (.int .i64 y1) rfl
    have c16 := B1.out.cell 6 (.string u1) rfl
    have c17 := B1.out.cell 7 (.bool g1) rfl
    have c20 := B2.out.cell 0 (.string k2) rfl
    have c21 := B2.out.cell 1 (.int .i64 b2) rfl
    have c22 := B2.out.cell 2 (.int .i64 e2) rfl
    have c23 := B2.out.cell 3 (.int .i64 s2) rfl
    have c24 := B2.out.cell 4 (.int .i64 x2) rfl
    have c25 := B2.out.cell 5 (.int .i64 y2) rfl
    have c26 := B2.out.cell 6 (.string u2) rfl
    have c27 := B2.out.cell 7 (.bool g2) rfl
    go_wp2_with fail
    refine (L1.out _).mono ?_
    rintro z w1 ⟨rfl, hb⟩
    have B1 := Lib.hid (B1.out.later hb)
    have B2 := Lib.hid (B2.out.later hb)
    have G := Lib.hid (G.out.trans (hb.mono G.out.size))
    clear hb c10 c11 c12 c13 c14 c15 c16 c17 c20 c21 c22 c23 c24 c25 c26 c27
    have c10 := B1.out.cell 0 (.string k1) rfl
    have c11 := B1.out.cell 1 (.int .i64 b1) rfl
    have c12 := B1.out.cell 2 (.int .i64 e1) rfl
    have c13 := B1.out.cell 3 (.int .i64 s1) rfl
    have c14 := B1.out.cell 4 (.int .i64 x1) rfl
    have c15 := B1.out.cell 5 (.int .i64 y1) rfl
    have c16 := B1.out.cell 6 (.string u1) rfl
    have c17 := B1.out.cell 7 (.bool g1) rfl
    have c20 := B2.out.cell 0 (.string k2) rfl
    have c21 := B2.out.cell 1 (.int .i64 b2) rfl
    have c22 := B2.out.cell 2 (.int .i64 e2) rfl
    have c23 := B2.out.cell 3 (.int .i64 s2) rfl
    have c24 := B2.out.cell 4 (.int .i64 x2) rfl
    have c25 := B2.out.cell 5 (.int .i64 y2) rfl
    have c26 := B2.out.cell 6 (.string u2) rfl
    have c27 := B2.out.cell 7 (.bool g2) rfl
    go_wp2_with fail
    refine (L2.out _).mono ?_
    rintro z w1 ⟨rfl, hb⟩
    have B1 := Lib.hid (B1.out.later hb)
    have B2 := Lib.hid (B2.out.later hb)
    have G := Lib.hid (G.out.trans (hb.mono G.out.size))
    clear hb c10 c11 c12 c13 c14 c15 c16 c17 c20 c21 c22 c23 c24 c25 c26 c27
    have c10 := B1.out.cell 0 (.string k1) rfl
    have c11 := B1.out.cell 1 (.int .i64 b1) rfl
    have c12 := B1.out.cell 2 (.int .i64 e1) rfl
    have c13 := B1.out.cell 3 (.int .i64 s1) rfl
    have c14 := B1.out.cell 4 (.int .i64 x1) rfl
    have c15 := B1.out.cell 5 (.int .i64 y1) rfl
    have c16 := B1.out.cell 6 (.string u1) rfl
    have c17 := B1.out.cell 7 (.bool g1) rfl
    have c20 := B2.out.cell 0 (.string k2) rfl
    have c21 := B2.out.cell 1 (.int .i64 b2) rfl
    have c22 := B2.out.cell 2 (.int .i64 e2) rfl
    have c23 := B2.out.cell 3 (.int .i64 s2) rfl
    have c24 := B2.out.cell 4 (.int .i64 x2) rfl
    have c25 := B2.out.cell 5 (.int .i64 y2) rfl
    have c26 := B2.out.cell 6 (.string u2) rfl
    have c27 := B2.out.cell 7 (.bool g2) rfl
    go_wp2_with fail
    refine (C1.out _).mono ?_
    rintro z w1 ⟨rfl, hb⟩
    have B1 := Lib.hid (B1.out.later hb)
    have B2 := Lib.hid (B2.out.later hb)
    have G := Lib.hid (G.out.trans (hb.mono G.out.size))
    clear hb c10 c11 c12 c13 c14 c15 c16 c17 c20 c21 c22 c23 c24 c25 c26 c27
    have c10 := B1.out.cell 0 (.string k1) rfl
    have c11 := B1.out.cell 1 (.int .i64 b1) rfl
    have c12 := B1.out.cell 2 (.int .i64 e1) rfl
    have c13 := B1.out.cell 3 (.int .i64 s1) rfl
    have c14 := B1.out.cell 4 (.int .i64 x1) rfl
    have c15 := B1.out.cell 5 (.int .i64 y1) rfl
    have c16 := B1.out.cell 6 (.string u1) rfl
    have c17 := B1.out.cell 7 (.bool g1) rfl
    have c20 := B2.out.cell 0 (.string k2) rfl
    have c21 := B2.out.cell 1 (.int .i64 b2) rfl
    have c22 := B2.out.cell 2 (.int .i64 e2) rfl
    have c23 := B2.out.cell 3 (.int .i64 s2) rfl
    have c24 := B2.out.cell 4 (.int .i64 x2) rfl
    have c25 := B2.out.cell 5 (.int .i64 y2) rfl
    have c26 := B2.out.cell 6 (.string u2) rfl
    have c27 := B2.out.cell 7 (.bool g2) rfl
    go_wp2_with fail
    refine (C2.out _).mono ?_
    rintro z w1 ⟨rfl, hb⟩
    have G := Lib.hid (G.out.trans (hb.mono G.out.size))
    clear hb c10 c11 c12 c13 c14 c15 c16 c17 c20 c21 c22 c23 c24 c25 c26 c27
    go_wp2_with fail
    refine (lives_any _).mono ?_
    rintro z w5 ⟨rfl, hb5⟩
    have G := Lib.hid (G.out.trans (hb5.mono G.out.size))
    clear hb5
    go_wp2_with fail
    go_ret
    exact ⟨rfl, G.out⟩
-- END
set_option maxRecDepth 100000 in
theorem lifted (os : Os) (started : os.Started) (H : Type) (enc : TypeId × Value → H) :
    ReturnsInHanded {} Try.checked os 7 .any (Rows.rowOrdersSpec.pre6 enc Try.prog Try.f7 Rows.rowOrdersRow.domain false) (Rows.rowOrdersSpec.post enc Try.prog Try.f7 false true false false) := by
  refine returnsInHanded_of_change (C := Try.checked) Try.own started (by kernel_rfl) Try.func7
    (ChangeSpec.witness6 (enc := enc) (C := Try.checked) false ⟨#[], #[.agg #[.string ⟨#[]⟩, .int .i64 0, .int .i64 0, .int .i64 0, .int .i64 0, .int .i64 0, .string ⟨#[]⟩, .bool false], .agg #[.string ⟨#[]⟩, .int .i64 0, .int .i64 0, .int .i64 0, .int .i64 0, .int .i64 0, .string ⟨#[]⟩, .bool false]], []⟩ 8 (by kernel_rfl) (by kernel_rfl) (by kernel_rfl) (by kernel_rfl)) ?_
  intro W base args ds gs before hval0 hW _ _
  have hval : ∀ (j : Nat) t v, Try.f7.params[j]? = some t → args[j]? = some v → Value.okWide Try.prog W .any base t v := hval0
  have hW' := hW
  obtain ⟨p, q, hA0, hV, rfl, _, _⟩ := hW
  have hA : DataW.TrodAll enc Try.prog W 0 (fun _ => true) true Try.f7.params.toList args.toList ds p := hA0
  rw [Try.params7] at hA hval
  obtain ⟨v0, v1, d0, d1, p0, p1, rfl, rfl, rfl, h0, h1⟩ := trodAll_two hA
  obtain ⟨rfl, rfl⟩ := trodVars_none hV
  obtain ⟨a0, rfl, w0⟩ := open_ver (hval 0 _ v0 rfl rfl) h0
  obtain ⟨a1, rfl, w1⟩ := open_ver (hval 1 _ v1 rfl rfl) h1
  refine (walk a0 a1 _).mono fun e W' ⟨he, hb⟩ => ⟨_, he, ?_⟩
  exact law_post Try.laidOut (by decide +kernel) rfl Try.underlying4 rfl hW' rfl hb

theorem holds : Rows.RowOrdersSaid :=
  OpenClaim.holds_of_wide 7 Try.f7 rfl rfl rfl rfl rfl rfl rfl ⟨rfl, rfl, rfl, rfl, rfl⟩ rfl rfl rfl rfl rfl (by kernel_rfl) Try.func7 (by kernel_rfl)
    (of_decide_eq_true (by kernel_rfl)) (by unfold Func.isWrapper; first | (rw [if_pos (by decide +kernel)]; kernel_rfl) | (rw [if_neg (by decide +kernel)]; exact ⟨rfl, rfl⟩))
    (fun os started H enc _ => lifted os started H enc)
end Go.Proofs.Ytmchiebpijnpiaa.L05
