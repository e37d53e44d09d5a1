/- ViewUnseen: what a path does not see changes nothing: any versions (the first 20, few bytes), any path (the first 5 legs), any time. -/
import Derived.Test.YtlpakooogbaclaaGk
import Derived.Test.YtlpakooogbaclaaYk
namespace Go.Proofs.Ytlpakooogbaclaa.L05
open Go.RowKit Go.ChangeShapes Go.WideShapes Go.ChangeAt
set_option linter.unusedVariables false

set_option maxHeartbeats 8000000 in
set_option maxRecDepth 100000 in
theorem walk0 (K : ViF) (va vp : Value) (l : List Ver) (p : List (Int × Int)) (t : Int) (w : World) (ha : RdVr w w.heap.size va l) (hp : RdX lgL w w.heap.size vp p) (hl : ∀ v ∈ l, OkVer v) (hg : ∀ g ∈ p, inG g.1 ∧ inG g.2) (ht : inG t) :
    Calls Try.prog 7 #[va, vp, .int .i64 t] w fun z w' => z = .returned (.bool true) ∧ Below w.heap.size w w' := by
  have CU := Lib.hid (law14_cut va vp l p w ha hp)
  have OK := Lib.hid (ok_cut hl hg)
  have K := Lib.hid K
  have HT := Lib.hid ht
  obtain ⟨A, ca, rfl, -⟩ := ha
  obtain ⟨Ap, cp, rfl, -⟩ := hp
  generalize cutVs l = cl at *
  generalize cutG p = cg at *
  clear hl hg ht
  go_enter Try.func7, Try.ntmps7
  go_wp2_with fail
  refine CU.out.mono ?_
  rintro z w1 ⟨v1, q1, rfl, ho, hq, hb⟩
  have RV := Lib.hid ho.rd
  have RP := Lib.hid (hq.more hb.size)
  have G := Lib.hid hb
  obtain ⟨A1, c1, rfl, -⟩ := ho.rd
  obtain ⟨A2, c2, rfl, -⟩ := hq
  clear ho hb CU
  have OA := Lib.hid (order_again cl cg)
  have OKO := Lib.hid OK.out.order
  obtain ⟨gv, hgv⟩ : ∃ gv, getV (orderV cl cg) t = gv := ⟨_, rfl⟩
  obtain ⟨gs, gb⟩ := gv
  have CC := Lib.hid (K.out.order w1 _ _ cl cg RV.out RP.out OK.out)
  go_wp2_with fail
  refine CC.out.mono ?_
  rintro z w2 ⟨v2, rfl, ho, hb⟩
  obtain ⟨A3, c3, rfl, -⟩ := ho.rd
  have R2 := Lib.hid ho.rd
  have RV := Lib.hid (RV.out.on hb)
  have RP := Lib.hid (RP.out.on hb)
  have G := Lib.hid (G.out.trans (hb.mono G.out.size))
  clear hb CC ho
  have CC := Lib.hid (K.out.get w2 _ _ cl cg t RV.out RP.out OK.out HT.out)
  rw [hgv] at CC
  go_wp2_with fail
  refine CC.out.mono ?_
  rintro z w3 ⟨rfl, hb⟩
  have R2 := Lib.hid (R2.out.on hb)
  have RV := Lib.hid (RV.out.on hb)
  have RP := Lib.hid (RP.out.on hb)
  have G := Lib.hid (G.out.trans (hb.mono G.out.size))
  clear hb CC
  have CC := Lib.hid (K.out.get w3 _ _ _ cg t R2.out RP.out OKO.out HT.out)
  rw [OA.out, hgv] at CC
  go_wp2_with fail
  refine CC.out.mono ?_
  rintro z w4 ⟨rfl, hb⟩
  have R2 := Lib.hid (R2.out.on hb)
  have RV := Lib.hid (RV.out.on hb)
  have RP := Lib.hid (RP.out.on hb)
  have G := Lib.hid (G.out.trans (hb.mono G.out.size))
  clear hb CC
  have CC := Lib.hid (K.out.state w4 _ _ cl cg RV.out RP.out OK.out)
  go_wp2_with fail
  refine CC.out.mono ?_
  rintro z w5 ⟨v3, rfl, ho, hb⟩
  have R3 := Lib.hid ho.rd
  have R2 := Lib.hid (R2.out.on hb)
  have RV := Lib.hid (RV.out.on hb)
  have RP := Lib.hid (RP.out.on hb)
  have G := Lib.hid (G.out.trans (hb.mono G.out.size))
  clear hb CC ho
  have CC := Lib.hid (K.out.state w5 _ _ _ cg R2.out RP.out OKO.out)
  rw [OA.out] at CC
  go_wp2_with fail
  refine CC.out.mono ?_
  rintro z w6 ⟨v4, rfl, ho, hb⟩
  have R4 := Lib.hid ho.rd
  have R2 := Lib.hid (R2.out.on hb)
  have R3 := Lib.hid (R3.out.on hb)
  have RV := Lib.hid (RV.out.on hb)
  have RP := Lib.hid (RP.out.on hb)
  have G := Lib.hid (G.out.trans (hb.mono G.out.size))
  clear hb CC ho
  have CC := Lib.hid (ref_same _ _ _ _ w6 R3.out R4.out)
  go_wp2_with fail
  refine CC.out.mono ?_
  rintro z w7 ⟨rfl, hb⟩
  have R2 := Lib.hid (R2.out.on hb)
  have R3 := Lib.hid (R3.out.on hb)
  have R4 := Lib.hid (R4.out.on hb)
  have RV := Lib.hid (RV.out.on hb)
  have RP := Lib.hid (RP.out.on hb)
  have G := Lib.hid (G.out.trans (hb.mono G.out.size))
  clear hb CC
  simp only [decide_true]
  go_wp2_with fail
  refine (law14_lives K.out _).mono ?_
  rintro z wz ⟨rfl, hb⟩
  have G := Lib.hid (G.out.trans (hb.mono G.out.size))
  clear hb
  go_wp2_with fail
  go_ret
  exact ⟨rfl, G.out⟩
-- END
set_option maxRecDepth 100000 in
theorem lifted (os : Os) (started : os.Started) (H : Type) (enc : TypeId × Value → H) :
    ReturnsInHanded {} Try.checked os 7 .any (Rows.viewUnseenSpec.pre6 enc Try.prog Try.f7 Rows.viewUnseenRow.domain false) (Rows.viewUnseenSpec.post enc Try.prog Try.f7 false true false false) := by
  refine returnsInHanded_of_change (C := Try.checked) Try.own started (by kernel_rfl) Try.func7
    (ChangeSpec.witness6 (enc := enc) (C := Try.checked) false ⟨#[], #[.slice none 0 0, .slice none 0 0, .int .i64 0], []⟩ 8 (by kernel_rfl) (by kernel_rfl) (by kernel_rfl) (by kernel_rfl)) ?_
  intro W base args ds gs before hval0 hW _ _
  have hval : ∀ (j : Nat) t v, Try.f7.params[j]? = some t → args[j]? = some v → Value.okWide Try.prog W .any base t v := hval0
  have hW' := hW
  obtain ⟨p, q, hA0, hV, rfl, _, _⟩ := hW
  have hA : DataW.TrodAll enc Try.prog W 0 (fun _ => true) true Try.f7.params.toList args.toList ds p := hA0
  rw [Try.params7] at hA hval
  obtain ⟨v0, v1, v2, d0, d1, d2, p0, p1, p2, rfl, rfl, rfl, h0, h1, h2⟩ := trodAll_three hA
  obtain ⟨rfl, rfl⟩ := trodVars_none hV
  have hlt := fun x hx => hW'.lt x hx
  obtain ⟨a0, r0, b0⟩ := open_vers (hval 0 _ v0 rfl rfl) h0 (fun x hx => by simpa using hlt x (by simp [hx]))
  obtain ⟨a1, r1, b1⟩ := open_lgs (hval 1 _ v1 rfl rfl) h1 (fun x hx => by simpa using hlt x (by simp [hx]))
  obtain ⟨a2, rfl, rfl, rfl, w2⟩ := open_int Try.underlying3 (hval 2 _ v2 rfl rfl) h2
  have w2 := wf_int w2
  refine (walk0 vi_k v0 v1 a0 a1 a2 _ r0 r1 b0 b1 w2).mono fun e W' ⟨he, hb⟩ => ⟨_, he, ?_⟩
  exact law_post Try.laidOut (by decide +kernel) rfl Try.underlying4 rfl hW' rfl hb

theorem holds : Rows.ViewUnseenSaid :=
  OpenClaim.holds_of_wide 7 Try.f7 rfl rfl rfl rfl rfl rfl rfl ⟨rfl, rfl, rfl, rfl, rfl⟩ rfl rfl rfl rfl rfl (by kernel_rfl) Try.func7 (by kernel_rfl)
    (of_decide_eq_true (by kernel_rfl)) (by unfold Func.isWrapper; first | (rw [if_pos (by decide +kernel)]; kernel_rfl) | (rw [if_neg (by decide +kernel)]; exact ⟨rfl, rfl⟩))
    (fun os started H enc _ => lifted os started H enc)
end Go.Proofs.Ytlpakooogbaclaa.L05
