/- MergeOnce: of versions that are alike in their order the last one alone is left: any versions (the first 30, sorted). No conditions. -/
import Derived.Test.YtnioiojafnkmhaaNk
import Derived.Test.YtnioiojafnkmhaaMo
import Derived.ChangeMaps5
namespace Go.Proofs.Ytnioiojafnkmhaa.L04
open Go.RowKit Go.ChangeShapes Go.WideShapes Go.ChangeAt
set_option linter.unusedVariables false

set_option maxHeartbeats 8000000 in
set_option maxRecDepth 100000 in
theorem walk0 (KN : NumK) (KO : OnceK) (v : Value) (l : List Ver) (w : World) (h : RdVr w w.heap.size v l) :
    Calls Try.prog 6 #[v] w fun e w' => e = .returned (.bool true) ∧ Below w.heap.size w w' := by
  have R := Lib.hid h
  have LV := Lib.hid (law10_lives KN)
  have KO := Lib.hid KO
  clear KN
  obtain ⟨A, ca, rfl, hla, hca, -⟩ := h
  go_enter Try.func6, Try.ntmps6
  have hml : (l.take 30).length ≤ 30 := by rw [List.length_take]; omega
  rcases Nat.lt_or_ge 30 l.length with hg | hg
  case' inl =>
    have z1 : decide ((30 : Int) < (l.length : Int)) = true := by simp; omega
    have z2 : decide (30 < l.length) = true := by simp; omega
    obtain ⟨A1, cc1, h1, rm⟩ := slX_head R.out Try.underlying24 ver_size 30 (30 : Int) rfl (by omega)
    have RM := Lib.hid rm
    clear rm
  case' inr =>
    have z1 : decide ((30 : Int) < (l.length : Int)) = false := by rw [decide_eq_false_iff_not]; omega
    have z2 : decide (30 < l.length) = false := by rw [decide_eq_false_iff_not]; omega
    have RM := Lib.hid (show RdVr w w.heap.size (.slice A l.length ca) (l.take 30) from by rw [List.take_of_length_le hg]; exact R.out)
  all_goals
    generalize l.take 30 = M at *
    have HM := Lib.hid hml
    clear hml
    go_wp2_with fail
    refine (ref6_sorted _ M _ RM.out (Nat.le_trans HM.out (by decide))).mono ?_
    rintro z w1 ⟨v1, rfl, ho1, hb1⟩
    have O1 := Lib.hid ho1
    have G := Lib.hid hb1
    have HL := Lib.hid (show (sortR lessV M).length ≤ 1000 from by rw [sortR_len]; exact Nat.le_trans HM.out (by decide))
    obtain ⟨A2, c2, e2, -⟩ := ho1.rd
    subst e2
    clear ho1 hb1
    go_wp2_with fail
    refine (KO.out _ (sortR lessV M) _ O1.out.rd HL.out).mono ?_
    rintro z w2 ⟨v2, rfl, ho2, hb2⟩
    have O2 := Lib.hid ho2
    have O1 := Lib.hid (O1.out.on hb2)
    have G := Lib.hid (G.out.trans (hb2.mono G.out.size))
    obtain ⟨A3, c3, e3, -⟩ := ho2.rd
    subst e3
    clear ho2 hb2
    go_wp2_with fail
    refine (ref10_once _ (sortR lessV M) _ O1.out.rd HL.out).mono ?_
    rintro z w3 ⟨v3, rfl, ho3, hb3⟩
    have O3 := Lib.hid ho3
    have O2 := Lib.hid (O2.out.on hb3)
    have G := Lib.hid (G.out.trans (hb3.mono G.out.size))
    obtain ⟨A4, c4, e4, -⟩ := ho3.rd
    subst e4
    clear ho3 hb3
    go_wp2_with fail
    refine (ref6_same _ _ _ _ _ O2.out.rd O3.out.rd).mono ?_
    rintro z w4 ⟨r, rfl, hr, hb4⟩
    obtain rfl : r = true := hr.2 rfl
    have G := Lib.hid (G.out.trans (hb4.mono G.out.size))
    clear hb4 hr
    go_wp2_with fail
    refine (LV.out _).mono ?_
    rintro z w8 ⟨rfl, hb⟩
    have G := Lib.hid (G.out.trans (hb.mono G.out.size))
    clear hb
    go_wp2_with fail
    go_ret
    exact ⟨rfl, G.out⟩
-- END
set_option maxRecDepth 100000 in
theorem lifted (os : Os) (started : os.Started) (H : Type) (enc : TypeId × Value → H) :
    ReturnsInHanded {} Try.checked os 6 .any (Rows.mergeOnceSpec.pre6 enc Try.prog Try.f6 Rows.mergeOnceRow.domain false) (Rows.mergeOnceSpec.post enc Try.prog Try.f6 false true false false) := by
  refine returnsInHanded_of_change (C := Try.checked) Try.own started (by kernel_rfl) Try.func6
    (ChangeSpec.witness6 (enc := enc) (C := Try.checked) false ⟨#[], #[.slice none 0 0], []⟩ 8 (by kernel_rfl) (by kernel_rfl) (by kernel_rfl) (by kernel_rfl)) ?_
  intro W base args ds gs before hval0 hW _ _
  have hval : ∀ (j : Nat) t v, Try.f6.params[j]? = some t → args[j]? = some v → Value.okWide Try.prog W .any base t v := hval0
  have hW' := hW
  obtain ⟨p, q, hA0, hV, rfl, _, _⟩ := hW
  have hA : DataW.TrodAll enc Try.prog W 0 (fun _ => true) true Try.f6.params.toList args.toList ds p := hA0
  rw [Try.params6] at hA hval
  obtain ⟨v0, d0, rfl, rfl, h0⟩ := trodAll_one hA
  obtain ⟨rfl, rfl⟩ := trodVars_none hV
  have hlt : ∀ x ∈ p, x.block < W.heap.size := fun x hx => by simpa using hW'.lt x (by simpa using hx)
  obtain ⟨a0, r0, b0⟩ := open_vers (hval 0 _ v0 rfl rfl) h0 (fun x hx => by simpa using hlt x (by simp [hx]))
  refine (walk0 num_k once_k v0 a0 _ r0).mono fun e W' ⟨he, hb⟩ => ⟨_, he, ?_⟩
  exact law_post Try.laidOut (by decide +kernel) rfl Try.underlying4 rfl hW' rfl hb

theorem holds : Rows.MergeOnceSaid :=
  OpenClaim.holds_of_wide 6 Try.f6 rfl rfl rfl rfl rfl rfl rfl ⟨rfl, rfl, rfl, rfl, rfl⟩ rfl rfl rfl rfl rfl (by kernel_rfl) Try.func6 (by kernel_rfl)
    (of_decide_eq_true (by kernel_rfl)) (by unfold Func.isWrapper; first | (rw [if_pos (by decide +kernel)]; kernel_rfl) | (rw [if_neg (by decide +kernel)]; exact ⟨rfl, rfl⟩))
    (fun os started H enc _ => lifted os started H enc)
end Go.Proofs.Ytnioiojafnkmhaa.L04
