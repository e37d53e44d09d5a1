/- ViewOrders: what a path sees of versions, in which order, and the last stamp, is the document's: any versions (the first 20, few bytes), any path (the first 5 legs). -/
import Derived.Test.YtlpakooogbaclaaGk
import Derived.Test.YtlpakooogbaclaaYk
namespace Go.Proofs.Ytlpakooogbaclaa.L01
open Go.RowKit Go.ChangeShapes Go.WideShapes Go.ChangeAt
set_option linter.unusedVariables false

set_option maxHeartbeats 4000000 in
set_option maxRecDepth 100000 in
theorem walk0 (K : ViF) (va vp : Value) (l : List Ver) (p : List (Int × Int)) (w : World) (ha : RdVr w w.heap.size va l) (hp : RdX lgL w w.heap.size vp p) (hl : ∀ v ∈ l, OkVer v) (hg : ∀ g ∈ p, inG g.1 ∧ inG g.2) :
    Calls Try.prog 3 #[va, vp] w fun z w' => z = .returned (.bool true) ∧ Below w.heap.size w w' := by
  have CU := Lib.hid (law14_cut va vp l p w ha hp)
  have OK := Lib.hid (ok_cut hl hg)
  have K := Lib.hid K
  obtain ⟨A, ca, rfl, -⟩ := ha
  obtain ⟨Ap, cp, rfl, -⟩ := hp
  generalize cutVs l = cl at *
  generalize cutG p = cg at *
  clear hl hg
  go_enter Try.func3, Try.ntmps3
  go_wp2_with fail
  refine CU.out.mono ?_
  rintro z w1 ⟨v1, q1, rfl, ho, hq, hb⟩
  have RV := Lib.hid ho.rd
  have RP := Lib.hid (hq.more hb.size)
  have G := Lib.hid hb
  obtain ⟨A1, c1, rfl, -⟩ := ho.rd
  obtain ⟨A2, c2, rfl, -⟩ := hq
  have OR := Lib.hid (K.out.order w1 _ _ cl cg RV.out RP.out OK.out)
  clear ho hb CU
  go_wp2_with fail
  refine OR.out.mono ?_
  rintro z w2 ⟨v2, rfl, ho, hb⟩
  have R2 := Lib.hid ho.rd
  have RV := Lib.hid (RV.out.on hb)
  have RP := Lib.hid (RP.out.on hb)
  have G := Lib.hid (G.out.trans (hb.mono G.out.size))
  have DO := Lib.hid (ref14_order _ _ cl cg w2 w2.heap.size w2.heap.size RV.out (Nat.le_refl _) RP.out (Nat.le_refl _) (Nat.le_trans OK.out.l20 (by decide)) (Nat.le_trans OK.out.p5 (by decide)))
  clear ho hb OR
  go_wp2_with fail
  refine DO.out.mono ?_
  rintro z w3 ⟨v3, rfl, ho, hb⟩
  have R3 := Lib.hid ho.rd
  have R2 := Lib.hid (R2.out.on hb)
  have RV := Lib.hid (RV.out.on hb)
  have RP := Lib.hid (RP.out.on hb)
  have G := Lib.hid (G.out.trans (hb.mono G.out.size))
  have SA := Lib.hid (ref6_same _ _ _ _ w3 R2.out R3.out)
  clear ho hb DO
  go_wp2_with fail
  refine SA.out.mono ?_
  rintro z w4 ⟨r, rfl, hr, hb⟩
  obtain rfl : r = true := hr.2 trivial
  have RV := Lib.hid (RV.out.on hb)
  have RP := Lib.hid (RP.out.on hb)
  have G := Lib.hid (G.out.trans (hb.mono G.out.size))
  have LA := Lib.hid (K.out.last w4 _ _ cl cg RV.out RP.out OK.out)
  clear hr hb SA
  go_wp2_with fail
  refine LA.out.mono ?_
  rintro z w5 ⟨rfl, hb⟩
  have RV := Lib.hid (RV.out.on hb)
  have RP := Lib.hid (RP.out.on hb)
  have G := Lib.hid (G.out.trans (hb.mono G.out.size))
  have LD := Lib.hid (ref14_last _ _ cl cg w5 w5.heap.size w5.heap.size RV.out (Nat.le_refl _) RP.out (Nat.le_refl _) (Nat.le_trans OK.out.l20 (by decide)) (Nat.le_trans OK.out.p5 (by decide)))
  clear hb LA
  generalize lastS (orderV cl cg) = sv at *
  obtain ⟨s1, s2, s3⟩ := sv
  unfold stV at LD ⊢
  simp only at LD ⊢
  go_wp2_with fail
  refine LD.out.mono ?_
  rintro z w6 ⟨rfl, hb⟩
  have G := Lib.hid (G.out.trans (hb.mono G.out.size))
  clear hb LD
  go_wp2_with fail
  refine (law14_lives K.out _).mono ?_
  rintro z w7 ⟨rfl, hb⟩
  have G := Lib.hid (G.out.trans (hb.mono G.out.size))
  clear hb
  go_wp2_with fail
  go_ret
  exact ⟨rfl, G.out⟩
-- END
set_option maxRecDepth 100000 in
theorem lifted (os : Os) (started : os.Started) (H : Type) (enc : TypeId × Value → H) :
    ReturnsInHanded {} Try.checked os 3 .any (Rows.viewOrdersSpec.pre6 enc Try.prog Try.f3 Rows.viewOrdersRow.domain false) (Rows.viewOrdersSpec.post enc Try.prog Try.f3 false true false false) := by
  refine returnsInHanded_of_change (C := Try.checked) Try.own started (by kernel_rfl) Try.func3
    (ChangeSpec.witness6 (enc := enc) (C := Try.checked) false ⟨#[], #[.slice none 0 0, .slice none 0 0], []⟩ 8 (by kernel_rfl) (by kernel_rfl) (by kernel_rfl) (by kernel_rfl)) ?_
  intro W base args ds gs before hval0 hW _ _
  have hval : ∀ (j : Nat) t v, Try.f3.params[j]? = some t → args[j]? = some v → Value.okWide Try.prog W .any base t v := hval0
  have hW' := hW
  obtain ⟨p, q, hA0, hV, rfl, _, _⟩ := hW
  have hA : DataW.TrodAll enc Try.prog W 0 (fun _ => true) true Try.f3.params.toList args.toList ds p := hA0
  rw [Try.params3] at hA hval
  obtain ⟨v0, v1, d0, d1, p0, p1, rfl, rfl, rfl, h0, h1⟩ := trodAll_two hA
  obtain ⟨rfl, rfl⟩ := trodVars_none hV
  have hlt := fun x hx => hW'.lt x hx
  obtain ⟨a0, r0, b0⟩ := open_vers (hval 0 _ v0 rfl rfl) h0 (fun x hx => by simpa using hlt x (by simp [hx]))
  obtain ⟨a1, r1, b1⟩ := open_lgs (hval 1 _ v1 rfl rfl) h1 (fun x hx => by simpa using hlt x (by simp [hx]))
  refine (walk0 vi_k v0 v1 a0 a1 _ r0 r1 b0 b1).mono fun e W' ⟨he, hb⟩ => ⟨_, he, ?_⟩
  exact law_post Try.laidOut (by decide +kernel) rfl Try.underlying4 rfl hW' rfl hb

theorem holds : Rows.ViewOrdersSaid :=
  OpenClaim.holds_of_wide 3 Try.f3 rfl rfl rfl rfl rfl rfl rfl ⟨rfl, rfl, rfl, rfl, rfl⟩ rfl rfl rfl rfl rfl (by kernel_rfl) Try.func3 (by kernel_rfl)
    (of_decide_eq_true (by kernel_rfl)) (by unfold Func.isWrapper; first | (rw [if_pos (by decide +kernel)]; kernel_rfl) | (rw [if_neg (by decide +kernel)]; exact ⟨rfl, rfl⟩))
    (fun os started H enc _ => lifted os started H enc)
end Go.Proofs.Ytlpakooogbaclaa.L01
