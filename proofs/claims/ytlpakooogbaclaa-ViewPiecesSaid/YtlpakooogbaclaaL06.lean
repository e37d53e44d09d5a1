/- ViewPieces: each piece's Value stands at its first time, and at its last one, and nothing, or another one, right behind it: any versions (the first 20, few bytes), any path (the first 5 legs). -/
import Derived.Test.YtlpakooogbaclaaGk
import Derived.Test.YtlpakooogbaclaaYk
namespace Go.Proofs.Ytlpakooogbaclaa.L06
open Go.RowKit Go.ChangeShapes Go.WideShapes Go.ChangeAt
set_option linter.unusedVariables false

set_option maxHeartbeats 8000000 in
set_option maxRecDepth 100000 in
theorem walk0 (K : ViF) (va vp : Value) (l : List Ver) (p : List (Int × Int)) (w : World) (ha : RdVr w w.heap.size va l) (hp : RdX lgL w w.heap.size vp p) (hl : ∀ v ∈ l, OkVer v) (hg : ∀ g ∈ p, inG g.1 ∧ inG g.2) :
    Calls Try.prog 8 #[va, vp] w fun z w' => z = .returned (.bool true) ∧ Below w.heap.size w w' := by
  have CU := Lib.hid (law14_cut va vp l p w ha hp)
  have OK := Lib.hid (ok_cut hl hg)
  have K := Lib.hid K
  obtain ⟨A, ca, rfl, -⟩ := ha
  obtain ⟨Ap, cp, rfl, -⟩ := hp
  generalize cutVs l = cl at *
  generalize cutG p = cg at *
  clear hl hg
  go_enter Try.func8, Try.ntmps8
  go_wp2_with fail
  refine CU.out.mono ?_
  rintro z w1 ⟨v1, q1, rfl, ho, hq, hb⟩
  have RV := Lib.hid ho.rd
  have RP := Lib.hid (hq.more hb.size)
  have G := Lib.hid hb
  obtain ⟨A1, c1, rfl, -⟩ := ho.rd
  obtain ⟨A2, c2, rfl, -⟩ := hq
  clear ho hb CU
  have SL := Lib.hid (show (stateV (orderV cl cg)).length ≤ 1000 from by
    have h1 := state_len (orderV cl cg)
    have h2 := order_len cl cg
    have h3 := OK.out.l20
    omega)
  have PC := Lib.hid (state_piece (orderV cl cg))
  have OR := Lib.hid ((ordB_iff _).1 (ord_state (orderV cl cg))).1
  have CC := Lib.hid (K.out.state w1 _ _ cl cg RV.out RP.out OK.out)
  have GT := Lib.hid (fun w t h1 h2 ht => K.out.get w (.slice A1 cl.length c1) (.slice A2 cg.length c2) cl cg t h1 h2 OK.out ht)
  generalize orderV cl cg = o at *
  generalize stateV o = s at *
  go_wp2_with fail
  refine CC.out.mono ?_
  rintro z w2 ⟨v2, rfl, ho, hb⟩
  have R2 := Lib.hid ho.rd
  obtain ⟨A3, c3, rfl, -⟩ := ho.rd
  have RV := Lib.hid (RV.out.on hb)
  have RP := Lib.hid (RP.out.on hb)
  have G := Lib.hid (G.out.trans (hb.mono G.out.size))
  clear hb CC ho
  go_wp2_with fail
  go_loopw [6] (fun i wr => ∃ k : Nat, i = .int .i64 k ∧ k ≤ s.length ∧ Below w2.heap.size w2 wr) (fun i _ => s.length - (intOf i).toNat)
  case atStart => exact ⟨0, rfl, Nat.zero_le _, Below.refl _ _⟩
  case round =>
    obtain ⟨k, rfl, hk, hbw⟩ := hrel
    rename World => wo
    have GW := Lib.hid hbw
    clear hbw
    by_cases hlt : k < s.length
    · have zl : decide ((k : Int) < (s.length : Int)) = true := by rw [decide_eq_true_eq]; omega
      have hki : (k : Int) < (s.length : Int) := by omega
      have hw64 : IntKind.i64.wrap ((k : Int) + 1) = (k : Int) + 1 := by rw [IntKind.wrap_i64]; have := SL.out; omega
      obtain ⟨b, oo, rfl, hb0, d0, d1, d2⟩ := RdPc.here (R2.out.on GW.out) k hlt
      have PK := PC.out k hlt
      have hm := mayB_iff.1 (OR.out (s[k]'hlt) (List.getElem_mem hlt))
      obtain ⟨q, hq⟩ : ∃ q, (s[k]'hlt) = q := ⟨_, rfl⟩
      rw [hq] at PK hm d0 d1 d2
      obtain ⟨⟨x, y⟩, u⟩ := q
      simp only at PK hm d0 d1 d2
      have hwy : IntKind.i64.wrap (y - 1) = y - 1 := by rw [IntKind.wrap_i64]; omega
      have T0 := Lib.hid (fun w h1 h2 => GT.out w x h1 h2 ⟨by omega, by omega⟩)
      have T1 := Lib.hid (fun w h1 h2 => GT.out w (y - 1) h1 h2 ⟨by omega, by omega⟩)
      have T2 := Lib.hid (fun w h1 h2 => GT.out w y h1 h2 ⟨by omega, by omega⟩)
      rw [PK.1] at T0
      rw [PK.2.1] at T1
      have HN := Lib.hid PK.2.2
      have HLO : b < wo.heap.size := cell_lt d0
      have D0 := Lib.hid d0
      have D1 := Lib.hid d1
      have D2 := Lib.hid d2
      have HLT := Lib.hid hlt
      obtain ⟨gv, hgv⟩ : ∃ gv, getV o y = gv := ⟨_, rfl⟩
      rw [hgv] at T2 HN
      obtain ⟨gs, gb⟩ := gv
      simp only at T0 T1 T2 HN
      clear PK hq hm hb0 hlt hgv
      go_wp2_with fail
      refine (T0.out _ (RV.out.on GW.out) (RP.out.on GW.out)).mono ?_
      rintro z w3 ⟨rfl, hb3⟩
      have GW := Lib.hid (GW.out.trans (hb3.mono GW.out.size))
      have d1 := (hb3.cell (p := ⟨b, oo + k * 3 + 1, none⟩) HLO).trans D1.out
      have d0 := (hb3.cell (p := ⟨b, oo + k * 3, none⟩) HLO).trans D0.out
      have d2 := (hb3.cell (p := ⟨b, oo + k * 3 + 2, none⟩) HLO).trans D2.out
      have HL3 : b < w3.heap.size := Nat.lt_of_lt_of_le HLO hb3.size
      clear hb3 T0 D0 D1 D2 HLO
      have D0 := Lib.hid d0
      have D1 := Lib.hid d1
      have D2 := Lib.hid d2
      go_wp2_with fail
      refine (T1.out _ (RV.out.on GW.out) (RP.out.on GW.out)).mono ?_
      rintro z w4 ⟨rfl, hb4⟩
      have GW := Lib.hid (GW.out.trans (hb4.mono GW.out.size))
      clear d0 d1 d2
      have d0 := (hb4.cell (p := ⟨b, oo + k * 3, none⟩) HL3).trans D0.out
      have d1 := (hb4.cell (p := ⟨b, oo + k * 3 + 1, none⟩) HL3).trans D1.out
      have d2 := (hb4.cell (p := ⟨b, oo + k * 3 + 2, none⟩) HL3).trans D2.out
      have HL4 : b < w4.heap.size := Nat.lt_of_lt_of_le HL3 hb4.size
      clear hb4 T1 D0 D1 D2 HL3
      have D0 := Lib.hid d0
      have D1 := Lib.hid d1
      have D2 := Lib.hid d2
      go_wp2_with fail
      refine (T2.out _ (RV.out.on GW.out) (RP.out.on GW.out)).mono ?_
      rintro z w5 ⟨rfl, hb5⟩
      have GW := Lib.hid (GW.out.trans (hb5.mono GW.out.size))
      clear d0 d1 d2
      have d2 := (hb5.cell (p := ⟨b, oo + k * 3 + 2, none⟩) HL4).trans D2.out
      clear hb5 T2 D0 D1 D2 HL4 hwy
      cases gb
      · go_wp2_with fail
        go_roundw
        case rel => exact ⟨k + 1, by go_num, HLT.out, GW.out⟩
        case measure => have := HLT.out; simp [intOf]; omega
      · have hne : (gs.toList == u.toList) = false := by
          rw [beq_eq_false_iff_ne]
          intro e
          exact HN.out ⟨rfl, ByteArray.ext (by simpa [ByteArray.toList_eq] using e)⟩
        go_wp2_with fail
        go_roundw
        case rel => exact ⟨k + 1, by go_num, HLT.out, GW.out⟩
        case measure => have := HLT.out; simp [intOf]; omega
    · have zl : decide ((k : Int) < (s.length : Int)) = false := by rw [decide_eq_false_iff_not]; omega
      have zn : decide (k < s.length) = false := by rw [decide_eq_false_iff_not]; exact hlt
      have G := Lib.hid (G.out.trans (GW.out.mono G.out.size))
      clear hlt
      go_wp2_with fail
      refine (law14_lives K.out _).mono ?_
      rintro z wz ⟨rfl, hb⟩
      have G := Lib.hid (G.out.trans (hb.mono G.out.size))
      clear hb
      go_wp2_with fail
      go_ret
      exact ⟨rfl, G.out⟩
-- END
set_option maxRecDepth 100000 in
theorem lifted (os : Os) (started : os.Started) (H : Type) (enc : TypeId × Value → H) :
    ReturnsInHanded {} Try.checked os 8 .any (Rows.viewPiecesSpec.pre6 enc Try.prog Try.f8 Rows.viewPiecesRow.domain false) (Rows.viewPiecesSpec.post enc Try.prog Try.f8 false true false false) := by
  refine returnsInHanded_of_change (C := Try.checked) Try.own started (by kernel_rfl) Try.func8
    (ChangeSpec.witness6 (enc := enc) (C := Try.checked) false ⟨#[], #[.slice none 0 0, .slice none 0 0], []⟩ 8 (by kernel_rfl) (by kernel_rfl) (by kernel_rfl) (by kernel_rfl)) ?_
  intro W base args ds gs before hval0 hW _ _
  have hval : ∀ (j : Nat) t v, Try.f8.params[j]? = some t → args[j]? = some v → Value.okWide Try.prog W .any base t v := hval0
  have hW' := hW
  obtain ⟨p, q, hA0, hV, rfl, _, _⟩ := hW
  have hA : DataW.TrodAll enc Try.prog W 0 (fun _ => true) true Try.f8.params.toList args.toList ds p := hA0
  rw [Try.params8] at hA hval
  obtain ⟨v0, v1, d0, d1, p0, p1, rfl, rfl, rfl, h0, h1⟩ := trodAll_two hA
  obtain ⟨rfl, rfl⟩ := trodVars_none hV
  have hlt := fun x hx => hW'.lt x hx
  obtain ⟨a0, r0, b0⟩ := open_vers (hval 0 _ v0 rfl rfl) h0 (fun x hx => by simpa using hlt x (by simp [hx]))
  obtain ⟨a1, r1, b1⟩ := open_lgs (hval 1 _ v1 rfl rfl) h1 (fun x hx => by simpa using hlt x (by simp [hx]))
  refine (walk0 vi_k v0 v1 a0 a1 _ r0 r1 b0 b1).mono fun e W' ⟨he, hb⟩ => ⟨_, he, ?_⟩
  exact law_post Try.laidOut (by decide +kernel) rfl Try.underlying4 rfl hW' rfl hb

theorem holds : Rows.ViewPiecesSaid :=
  OpenClaim.holds_of_wide 8 Try.f8 rfl rfl rfl rfl rfl rfl rfl ⟨rfl, rfl, rfl, rfl, rfl⟩ rfl rfl rfl rfl rfl (by kernel_rfl) Try.func8 (by kernel_rfl)
    (of_decide_eq_true (by kernel_rfl)) (by unfold Func.isWrapper; first | (rw [if_pos (by decide +kernel)]; kernel_rfl) | (rw [if_neg (by decide +kernel)]; exact ⟨rfl, rfl⟩))
    (fun os started H enc _ => lifted os started H enc)
end Go.Proofs.Ytlpakooogbaclaa.L06
