/- ViewAgrees: what State tells of a time is what Get tells, and its pieces are least and in order: any versions (the first 20, few bytes), any path (the first 5 legs), any time. -/
import Derived.Test.YtlpakooogbaclaaGk
import Derived.Test.YtlpakooogbaclaaYk
import Derived.Test.YtlpakooogbaclaaPe
import Derived.Test.YtlpakooogbaclaaPi
import Derived.Test.YtlpakooogbaclaaSd
namespace Go.Proofs.Ytlpakooogbaclaa.L04
open Go.RowKit Go.ChangeShapes Go.WideShapes Go.ChangeAt
set_option linter.unusedVariables false

set_option maxHeartbeats 8000000 in
set_option maxRecDepth 100000 in
theorem walk0 (K : ViF) (va vp : Value) (l : List Ver) (p : List (Int × Int)) (t : Int) (w : World) (ha : RdVr w w.heap.size va l) (hp : RdX lgL w w.heap.size vp p) (hl : ∀ v ∈ l, OkVer v) (hg : ∀ g ∈ p, inG g.1 ∧ inG g.2) (ht : inG t) :
    Calls Try.prog 6 #[va, vp, .int .i64 t] w fun z w' => z = .returned (.bool true) ∧ Below w.heap.size w w' := by
  have CU := Lib.hid (law14_cut va vp l p w ha hp)
  have OK := Lib.hid (ok_cut hl hg)
  have K := Lib.hid K
  have HT := Lib.hid ht
  obtain ⟨A, ca, rfl, -⟩ := ha
  obtain ⟨Ap, cp, rfl, -⟩ := hp
  generalize cutVs l = cl at *
  generalize cutG p = cg at *
  clear hl hg ht
  go_enter Try.func6, Try.ntmps6
  go_wp2_with fail
  refine CU.out.mono ?_
  rintro z w1 ⟨v1, q1, rfl, ho, hq, hb⟩
  have RV := Lib.hid ho.rd
  have RP := Lib.hid (hq.more hb.size)
  have G := Lib.hid hb
  obtain ⟨A1, c1, rfl, -⟩ := ho.rd
  obtain ⟨A2, c2, rfl, -⟩ := hq
  clear ho hb CU
  obtain ⟨gv, hgv⟩ : ∃ gv, getV (orderV cl cg) t = gv := ⟨_, rfl⟩
  obtain ⟨gs, gb⟩ := gv
  have AT := Lib.hid (at_state (orderV cl cg) t)
  have OS := Lib.hid (ord_state (orderV cl cg))
  have SA := Lib.hid (state_again (orderV cl cg))
  have SL := Lib.hid (show (stateV (orderV cl cg)).length ≤ 1000000 from by
    have h1 := state_len (orderV cl cg)
    have h2 := order_len cl cg
    have h3 := OK.out.l20
    omega)
  have CC := Lib.hid (K.out.state w1 _ _ cl cg RV.out RP.out OK.out)
  go_wp2_with fail
  refine CC.out.mono ?_
  rintro z w2 ⟨v2, rfl, ho, hb⟩
  obtain ⟨A3, c3, rfl, -⟩ := ho.rd
  have R2 := Lib.hid ho.rd
  have RV := Lib.hid (RV.out.on hb)
  have RP := Lib.hid (RP.out.on hb)
  have G := Lib.hid (G.out.trans (hb.mono G.out.size))
  clear hb CC ho
  have CC := Lib.hid (p_at _ (stateV (orderV cl cg)) t w2 R2.out)
  rw [AT.out, hgv] at CC
  go_wp2_with fail
  refine CC.out.mono ?_
  rintro z w3 ⟨rfl, hb⟩
  have R2 := Lib.hid (R2.out.on hb)
  have RV := Lib.hid (RV.out.on hb)
  have RP := Lib.hid (RP.out.on hb)
  have G := Lib.hid (G.out.trans (hb.mono G.out.size))
  clear hb CC
  have CC := Lib.hid (K.out.get w3 _ _ cl cg t RV.out RP.out OK.out HT.out)
  rw [hgv] at CC
  go_wp2_with fail
  refine CC.out.mono ?_
  rintro z w4 ⟨rfl, hb⟩
  have R2 := Lib.hid (R2.out.on hb)
  have RV := Lib.hid (RV.out.on hb)
  have RP := Lib.hid (RP.out.on hb)
  have G := Lib.hid (G.out.trans (hb.mono G.out.size))
  clear hb CC
  have CC := Lib.hid (p_least _ (stateV (orderV cl cg)) w4 R2.out SL.out)
  rw [SA.out] at CC
  go_wp2_with fail
  refine CC.out.mono ?_
  rintro z w5 ⟨v4, rfl, ho, hb⟩
  obtain ⟨A4, c4, rfl, -⟩ := ho.rd
  have R3 := Lib.hid ho.rd
  have R2 := Lib.hid (R2.out.on hb)
  have RV := Lib.hid (RV.out.on hb)
  have RP := Lib.hid (RP.out.on hb)
  have G := Lib.hid (G.out.trans (hb.mono G.out.size))
  clear hb CC ho
  have CC := Lib.hid (ref_same _ _ _ _ w5 R3.out R2.out)
  go_wp2_with fail
  refine CC.out.mono ?_
  rintro z w6 ⟨rfl, hb⟩
  have R2 := Lib.hid (R2.out.on hb)
  have R3 := Lib.hid (R3.out.on hb)
  have RV := Lib.hid (RV.out.on hb)
  have RP := Lib.hid (RP.out.on hb)
  have G := Lib.hid (G.out.trans (hb.mono G.out.size))
  clear hb CC
  simp only [decide_true]
  have CC := Lib.hid (ref_ordered _ (stateV (orderV cl cg)) w6 R2.out)
  rw [OS.out] at CC
  go_wp2_with fail
  refine CC.out.mono ?_
  rintro z w7 ⟨rfl, hb⟩
  have R2 := Lib.hid (R2.out.on hb)
  have R3 := Lib.hid (R3.out.on hb)
  have RV := Lib.hid (RV.out.on hb)
  have RP := Lib.hid (RP.out.on hb)
  have G := Lib.hid (G.out.trans (hb.mono G.out.size))
  clear hb CC
  go_wp2_with fail
  refine (law14_lives K.out _).mono ?_
  rintro z wz ⟨rfl, hb⟩
  have G := Lib.hid (G.out.trans (hb.mono G.out.size))
  clear hb
  go_wp2_with fail
  go_ret
  exact ⟨rfl, G.out⟩
-- END
set_option maxRecDepth 100000 in
theorem lifted (os : Os) (started : os.Started) (H : Type) (enc : TypeId × Value → H) :
    ReturnsInHanded {} Try.checked os 6 .any (Rows.viewAgreesSpec.pre6 enc Try.prog Try.f6 Rows.viewAgreesRow.domain false) (Rows.viewAgreesSpec.post enc Try.prog Try.f6 false true false false) := by
  refine returnsInHanded_of_change (C := Try.checked) Try.own started (by kernel_rfl) Try.func6
    (ChangeSpec.witness6 (enc := enc) (C := Try.checked) false ⟨#[], #[.slice none 0 0, .slice none 0 0, .int .i64 0], []⟩ 8 (by kernel_rfl) (by kernel_rfl) (by kernel_rfl) (by kernel_rfl)) ?_
  intro W base args ds gs before hval0 hW _ _
  have hval : ∀ (j : Nat) t v, Try.f6.params[j]? = some t → args[j]? = some v → Value.okWide Try.prog W .any base t v := hval0
  have hW' := hW
  obtain ⟨p, q, hA0, hV, rfl, _, _⟩ := hW
  have hA : DataW.TrodAll enc Try.prog W 0 (fun _ => true) true Try.f6.params.toList args.toList ds p := hA0
  rw [Try.params6] at hA hval
  obtain ⟨v0, v1, v2, d0, d1, d2, p0, p1, p2, rfl, rfl, rfl, h0, h1, h2⟩ := trodAll_three hA
  obtain ⟨rfl, rfl⟩ := trodVars_none hV
  have hlt := fun x hx => hW'.lt x hx
  obtain ⟨a0, r0, b0⟩ := open_vers (hval 0 _ v0 rfl rfl) h0 (fun x hx => by simpa using hlt x (by simp [hx]))
  obtain ⟨a1, r1, b1⟩ := open_lgs (hval 1 _ v1 rfl rfl) h1 (fun x hx => by simpa using hlt x (by simp [hx]))
  obtain ⟨a2, rfl, rfl, rfl, w2⟩ := open_int Try.underlying3 (hval 2 _ v2 rfl rfl) h2
  have w2 := wf_int w2
  refine (walk0 vi_k v0 v1 a0 a1 a2 _ r0 r1 b0 b1 w2).mono fun e W' ⟨he, hb⟩ => ⟨_, he, ?_⟩
  exact law_post Try.laidOut (by decide +kernel) rfl Try.underlying4 rfl hW' rfl hb

theorem holds : Rows.ViewAgreesSaid :=
  OpenClaim.holds_of_wide 6 Try.f6 rfl rfl rfl rfl rfl rfl rfl ⟨rfl, rfl, rfl, rfl, rfl⟩ rfl rfl rfl rfl rfl (by kernel_rfl) Try.func6 (by kernel_rfl)
    (of_decide_eq_true (by kernel_rfl)) (by unfold Func.isWrapper; first | (rw [if_pos (by decide +kernel)]; kernel_rfl) | (rw [if_neg (by decide +kernel)]; exact ⟨rfl, rfl⟩))
    (fun os started H enc _ => lifted os started H enc)
end Go.Proofs.Ytlpakooogbaclaa.L04
