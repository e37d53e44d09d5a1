/- ViewRow: what is told does not hang on the row in which versions are handed in, if no two are alike in the order: any versions of one key (the first 12 that may be, unlike one another), any path (the first 5 legs), any time. -/
import Derived.Test.YtlpakooogbaclaaGk
import Derived.Test.YtlpakooogbaclaaYk
import Derived.Test.YtlpakooogbaclaaGn
import Derived.Test.YtlpakooogbaclaaGt
namespace Go.Proofs.Ytlpakooogbaclaa.L07
open Go.RowKit Go.ChangeShapes Go.WideShapes Go.ChangeAt
set_option linter.unusedVariables false

set_option maxHeartbeats 8000000 in
set_option maxRecDepth 100000 in
theorem walk0 (K : ViF) (va vp : Value) (l : List Ver) (p : List (Int × Int)) (t : Int) (w : World) (ha : RdVr w w.heap.size va l) (hp : RdX lgL w w.heap.size vp p) (hl : ∀ v ∈ l, OkVer v) (hg : ∀ g ∈ p, inG g.1 ∧ inG g.2) (ht : inG t) (hsz : l.length * 80 ≤ 140737488351232) :
    Calls Try.prog 9 #[va, vp, .int .i64 t] w fun z w' => z = .returned (.bool true) ∧ Below w.heap.size w w' := by
  have K := Lib.hid K
  have HT := Lib.hid ht
  have HA := Lib.hid ha
  have HP := Lib.hid hp
  have HSZ := Lib.hid hsz
  have HLV := Lib.hid hl
  have HGV := Lib.hid hg
  obtain ⟨A, ca, rfl, -⟩ := ha
  obtain ⟨Ap, cp, rfl, -⟩ := hp
  obtain ⟨k0, hk0⟩ : ∃ k0 : ByteArray, ∀ h : 0 < l.length, (l[0]'h).key = k0 := by
    rcases Nat.eq_zero_or_pos l.length with h | h
    · exact ⟨⟨#[]⟩, fun h2 => absurd h2 (by omega)⟩
    · exact ⟨(l[0]'h).key, fun _ => rfl⟩
  have HK0 := Lib.hid hk0
  obtain ⟨F, hF⟩ : ∃ F : Ver → Bool, (fun v : Ver => decide (v.key = k0)) = F := ⟨_, rfl⟩
  have HF := Lib.hid (show ∀ v, F v = decide (v.key = k0) from fun v => by rw [← hF])
  have h5c : (∃ A2 c2, 5 < p.length ∧ RdX lgL w w.heap.size (.slice A2 5 c2) (cutG p) ∧ ∀ W, (Instr.slice 23 (.slice Ap p.length cp) none (some (.int .i64 5)) none).run Try.prog W = .ok (.slice A2 5 c2) W) ∨ (p.length ≤ 5 ∧ RdX lgL w w.heap.size (.slice Ap p.length cp) (cutG p)) := by
    by_cases h5 : 5 < p.length
    · obtain ⟨A1, c1', h1, r1⟩ := slX_head HP.out Try.underlying23 (fun w => by kernel_rfl) 5 (5 : Int) rfl (by omega)
      exact .inl ⟨A1, c1', h5, r1, h1⟩
    · have e5 : cutG p = p := by unfold cutG; rw [List.take_of_length_le (by omega)]
      exact .inr ⟨by omega, by rw [e5]; exact HP.out⟩
  clear hl hg ht hsz hk0 hF
  rcases h5c with ⟨A2, c2, h5, hrp, hsl⟩ | ⟨h5, hrp⟩
  case' inl =>
    have z5 : decide ((5 : Int) < (p.length : Int)) = true := by rw [decide_eq_true_eq]; omega
  case' inr =>
    have z5 : decide ((5 : Int) < (p.length : Int)) = false := by rw [decide_eq_false_iff_not]; omega
  all_goals
    have RP := Lib.hid hrp
    clear h5 hrp
    go_enter Try.func9, Try.ntmps9
    go_wp2_with fail
    go_loopw [7, 8] (fun x i wr => ∃ k : Nat, i = .int .i64 k ∧ k ≤ l.length ∧ OwnX verL 50 wr w.heap.size x ((l.take k).filter F) ∧ Below w.heap.size w wr) (fun _ i _ => l.length - (intOf i).toNat)
    case atStart => exact ⟨0, rfl, Nat.zero_le _, OwnX.nil _ _, Below.refl _ _⟩
    case round =>
      obtain ⟨k, rfl, hk, hon, hbw⟩ := hrel
      rename World => wo
      have G := Lib.hid hbw
      have O := Lib.hid hon
      have LE := Lib.hid (flt_len F l k)
      clear hbw hon
      by_cases hlt : k < l.length
      · have zl : decide ((k : Int) < (l.length : Int)) = true := by rw [decide_eq_true_eq]; omega
        have zn : decide (k < l.length) = true := by rw [decide_eq_true_eq]; exact hlt
        have hki : (k : Int) < (l.length : Int) := by omega
        have hki0 : (0 : Int) < (l.length : Int) := by omega
        have hw64 : IntKind.i64.wrap ((k : Int) + 1) = (k : Int) + 1 := by rw [IntKind.wrap_i64]; have := HSZ.out; omega
        have HTT := Lib.hid (fun h2 => flt_true (F := F) l k hlt h2)
        have HTF := Lib.hid (fun h2 => flt_false (F := F) l k hlt h2)
        have FV := Lib.hid (HF.out (l[k]'hlt))
        obtain ⟨b, o, rfl, hbb, d0, d1, d2, d3, d4, d5, d6, d7⟩ := RdVr.here (HA.out.below G.out) k hlt
        obtain ⟨b2, o2, h2, hbb2, e0, -⟩ := RdVr.here (HA.out.below G.out) 0 (by omega)
        injection h2 with h2
        injection h2 with h2 h3
        subst h2
        obtain rfl := h3
        rw [HK0.out (by omega), Nat.zero_mul, Nat.add_zero] at e0
        obtain ⟨q, hq⟩ : ∃ q, (l[k]'hlt) = q := ⟨_, rfl⟩
        rw [hq] at FV HTT HTF d0 d1 d2 d3 d4 d5 d6 d7
        obtain ⟨kk, bb, ee, ss, ⟨xx, yy⟩, uu, gg⟩ := q
        simp only at FV d0 d1 d2 d3 d4 d5 d6 d7
        obtain ⟨acc, hacc⟩ : ∃ acc, (l.take k).filter F = acc := ⟨_, rfl⟩
        rw [hacc] at O HTT HTF LE
        have HLT := Lib.hid hlt
        clear hbb hbb2 hq hacc
        by_cases hkk : kk = k0
        · have zq : (kk.toList == k0.toList) = true := by rw [hkk]; simp
          have TT := Lib.hid (HTT.out (by rw [FV.out]; simpa using hkk))
          have HSUM := Lib.hid (show acc.length + 1 ≤ 9223372036854775807 ∧ (acc.length + 1) * 80 ≤ 140737488355328 from by have := LE.out; have := HSZ.out; omega)
          clear hkk
          go_wp2_with fail
          go_quiet (fail)
          have GX := Lib.hid (G.out.drewN nq)
          have OX := Lib.hid (show OwnX verL 50 (wo.drewN nq) w.heap.size _ acc from O.out.on ((Below.refl _ _).drewN nq))
          go_wp2_with (at_builtin; refine wpl_appXw rfl (.tmp 37) (.tmp 42) rfl Try.underlying22 ver_info rfl w.heap.size _ acc [(⟨kk, bb, ee, ss, (xx, yy), uu, gg⟩ : Ver)] _ _ _ rfl rfl rfl rfl OX.out GX.out.size HSUM.out.1 HSUM.out.2 ?_; intro v5 w5 ho5 hg5 hb5)
          go_roundw
          case rel => exact ⟨k + 1, by go_num, HLT.out, by rw [TT.out]; exact ho5, GX.out.trans hb5⟩
          case measure => have := HLT.out; simp [intOf]; omega
        · have zq : (kk.toList == k0.toList) = false := str_eqF hkk
          have TF := Lib.hid (HTF.out (by rw [FV.out]; simpa using hkk))
          clear hkk
          go_wp2_with fail
          go_quiet (fail)
          have GX := Lib.hid (G.out.drewN nq)
          have OX := Lib.hid (show OwnX verL 50 (wo.drewN nq) w.heap.size _ acc from O.out.on ((Below.refl _ _).drewN nq))
          go_wp2_with fail
          go_roundw
          case rel => exact ⟨k + 1, by go_num, HLT.out, by rw [TF.out]; exact OX.out, GX.out⟩
          case measure => have := HLT.out; simp [intOf]; omega
      · have hkl : k = l.length := by omega
        subst hkl
        have zl : decide ((l.length : Int) < (l.length : Int)) = false := by simp
        rw [List.take_length] at O
        have HQ := Lib.hid (show ∀ v ∈ l.filter F, RowQ (keyC k0) (cutV v) from fun v hv => by
          obtain ⟨h1, h2⟩ := List.mem_filter.1 hv
          rw [HF.out] at h2
          exact row_q (by simpa using h2) (HLV.out v h1))
        have BK := Lib.hid (fun va h => ref8_block va (l.filter F) 12 wo h ⟨by decide, by decide⟩ HQ.out)
        have GP := Lib.hid (RP.out.on G.out)
        clear hlt
        go_wp2_with fail
        refine (BK.out _ O.out.rd).mono ?_
        rintro z w1 ⟨v1, own, rfl, ho, hol, hoq, hb⟩
        have OW := Lib.hid ho
        have G1 := Lib.hid (G.out.trans (hb.mono G.out.size))
        have GP := Lib.hid (GP.out.on hb)
        have HOL := Lib.hid (show own.length ≤ 12 from by omega)
        have ROW := Lib.hid (own_row (cutG p) hoq.1 (fun v hv => (hoq.2 v hv).1))
        have OK1 := Lib.hid (ok_own (p := p) HOL.out hoq.2 HGV.out)
        have OK2 := Lib.hid (ok_own (own := own.reverse) (p := p) (by rw [List.length_reverse]; exact HOL.out) (fun v hv => hoq.2 v (List.mem_reverse.1 hv)) HGV.out)
        obtain ⟨WA, wc, rfl, -⟩ := ho.rd
        have hw0 : IntKind.i64.wrap ((own.length : Int) - 1) = (own.length : Int) - 1 := by rw [IntKind.wrap_i64]; omega
        clear ho hol hoq hb BK
        go_wp2_with fail
        clear hw0
        go_loopw [10, 11] (fun x i wr => ∃ j : Nat, i = .int .i64 ((j : Int) - 1) ∧ j ≤ own.length ∧ OwnX verL 50 wr w1.heap.size x ((own.drop j).reverse) ∧ Below w1.heap.size w1 wr) (fun _ i _ => (intOf i + 1).toNat)
        case atStart => exact ⟨own.length, rfl, Nat.le_refl _, by rw [List.drop_length]; exact OwnX.nil _ _, Below.refl _ _⟩
        case round =>
          obtain ⟨j1, rfl, hj1, hon, hbw⟩ := hrel
          rename World => w2
          have G2 := Lib.hid hbw
          have O2 := Lib.hid hon
          clear hbw hon
          cases j1 with
          | succ j =>
            have e1 : ((j + 1 : Nat) : Int) - 1 = (j : Int) := by omega
            rw [e1]
            have zl : decide ((0 : Int) ≤ (j : Int)) = true := by rw [decide_eq_true_eq]; omega
            have hji : (j : Int) < (own.length : Int) := by omega
            have hwj : IntKind.i64.wrap ((j : Int) - 1) = (j : Int) - 1 := by rw [IntKind.wrap_i64]; have := HOL.out; omega
            have hjo : j < own.length := hj1
            have DR := Lib.hid (show (own.drop j).reverse = (own.drop (j + 1)).reverse ++ [own[j]'hjo] from by rw [List.drop_eq_getElem_cons hjo, List.reverse_cons])
            obtain ⟨b, o, rfl, hbb, d0, d1, d2, d3, d4, d5, d6, d7⟩ := RdVr.here (OW.out.on G2.out).rd j hjo
            obtain ⟨q, hq⟩ : ∃ q, (own[j]'hjo) = q := ⟨_, rfl⟩
            rw [hq] at DR d0 d1 d2 d3 d4 d5 d6 d7
            obtain ⟨kk, bb, ee, ss, ⟨xx, yy⟩, uu, gg⟩ := q
            simp only at d0 d1 d2 d3 d4 d5 d6 d7
            have AL := Lib.hid (show ((own.drop (j + 1)).reverse).length ≤ 12 from by rw [List.length_reverse, List.length_drop]; have := HOL.out; omega)
            obtain ⟨acc, hacc⟩ : ∃ acc, (own.drop (j + 1)).reverse = acc := ⟨_, rfl⟩
            rw [hacc] at O2 DR AL
            have HJ := Lib.hid hjo
            clear e1 hbb hq hacc
            go_wp2_with (at_builtin; refine wpl_appX rfl (.tmp 53) (.tmp 58) rfl Try.underlying22 ver_info rfl w1.heap.size _ acc [(⟨kk, bb, ee, ss, (xx, yy), uu, gg⟩ : Ver)] _ _ _ rfl rfl rfl rfl O2.out G2.out.size (by rw [List.length_singleton]; have := AL.out; omega) (by decide) ?_; intro v5 w5 ho5 hg5 hb5)
            go_roundw
            case rel => exact ⟨j, rfl, by have := HJ.out; omega, by rw [DR.out]; exact ho5, G2.out.trans hb5⟩
            case measure => simp [intOf]
          | zero =>
            rw [List.drop_zero] at O2
            obtain ⟨R, hR⟩ : ∃ R, own.reverse = R := ⟨_, rfl⟩
            rw [hR] at O2 ROW OK2
            clear hR
            have zl : decide ((0 : Int) ≤ ((0 : Nat) : Int) - 1) = false := by decide
            have RA := Lib.hid (OW.out.on G2.out).rd
            have RB := Lib.hid O2.out.rd
            have RQ := Lib.hid (GP.out.on G2.out)
            have G := Lib.hid (G1.out.trans (G2.out.mono G1.out.size))
            obtain ⟨BA, bc, rfl, -⟩ := RB.out
            obtain ⟨gv, hgv⟩ : ∃ gv, getV (orderV own (cutG p)) t = gv := ⟨_, rfl⟩
            obtain ⟨gs, gb⟩ := gv
            have CC := Lib.hid (K.out.get w2 _ _ own (cutG p) t RA.out RQ.out OK1.out HT.out)
            rw [hgv] at CC
            clear O2 OW G1 G2 GP
            go_wp2_with fail
            refine CC.out.mono ?_
            rintro z w3 ⟨rfl, hb⟩
            have RA := Lib.hid (RA.out.on hb)
            have RB := Lib.hid (RB.out.on hb)
            have RQ := Lib.hid (RQ.out.on hb)
            have G := Lib.hid (G.out.trans (hb.mono G.out.size))
            have CC := Lib.hid (K.out.get w3 _ _ R (cutG p) t RB.out RQ.out OK2.out HT.out)
            rw [← ROW.out, hgv] at CC
            clear hb
            go_wp2_with fail
            refine CC.out.mono ?_
            rintro z w4 ⟨rfl, hb⟩
            have RA := Lib.hid (RA.out.on hb)
            have RB := Lib.hid (RB.out.on hb)
            have RQ := Lib.hid (RQ.out.on hb)
            have G := Lib.hid (G.out.trans (hb.mono G.out.size))
            have CC := Lib.hid (K.out.order w4 _ _ own (cutG p) RA.out RQ.out OK1.out)
            clear hb
            go_wp2_with fail
            refine CC.out.mono ?_
            rintro z w5 ⟨v5, rfl, ho5, hb⟩
            have R5 := Lib.hid ho5.rd
            have RB := Lib.hid (RB.out.on hb)
            have RQ := Lib.hid (RQ.out.on hb)
            have G := Lib.hid (G.out.trans (hb.mono G.out.size))
            have CC := Lib.hid (K.out.order w5 _ _ R (cutG p) RB.out RQ.out OK2.out)
            rw [← ROW.out] at CC
            clear hb ho5
            go_wp2_with fail
            refine CC.out.mono ?_
            rintro z w6 ⟨v6, rfl, ho6, hb⟩
            have R6 := Lib.hid ho6.rd
            have R5 := Lib.hid (R5.out.on hb)
            have G := Lib.hid (G.out.trans (hb.mono G.out.size))
            have CC := Lib.hid (ref6_same _ _ _ _ w6 R5.out R6.out)
            clear hb ho6
            go_wp2_with fail
            refine CC.out.mono ?_
            rintro z w7 ⟨r, rfl, hr, hb⟩
            obtain rfl : r = true := hr.2 trivial
            have G := Lib.hid (G.out.trans (hb.mono G.out.size))
            clear hr hb CC
            go_wp2_with fail
            refine (law14_lives K.out _).mono ?_
            rintro z w8 ⟨rfl, hb⟩
            have G := Lib.hid (G.out.trans (hb.mono G.out.size))
            clear hb
            go_wp2_with fail
            go_ret
            exact ⟨rfl, G.out⟩
-- END
set_option maxRecDepth 100000 in
theorem lifted (os : Os) (started : os.Started) (H : Type) (enc : TypeId × Value → H) :
    ReturnsInHanded {} Try.checked os 9 .any (Rows.viewRowSpec.pre6 enc Try.prog Try.f9 Rows.viewRowRow.domain false) (Rows.viewRowSpec.post enc Try.prog Try.f9 false true false false) := by
  refine returnsInHanded_of_change_sized (C := Try.checked) Try.own started (by kernel_rfl) Try.func9
    (ChangeSpec.witness6 (enc := enc) (C := Try.checked) false ⟨#[], #[.slice none 0 0, .slice none 0 0, .int .i64 0], []⟩ 8 (by kernel_rfl) (by kernel_rfl) (by kernel_rfl) (by kernel_rfl)) ?_
  intro W base args ds gs before hval0 hW _ hsz0 _
  have hval : ∀ (j : Nat) t v, Try.f9.params[j]? = some t → args[j]? = some v → Value.okWide Try.prog W .any base t v := hval0
  have hsz : (DataW.weightsEach Try.prog (Try.f9.params.toList ++ Rows.viewRowSpec.plain.varTypes Try.prog) (ds ++ gs)).all (· ≤ reachBytes) = true := hsz0
  have hW' := hW
  obtain ⟨p, q, hA0, hV, rfl, _, _⟩ := hW
  have hA : DataW.TrodAll enc Try.prog W 0 (fun _ => true) true Try.f9.params.toList args.toList ds p := hA0
  rw [Try.params9] at hA hval hsz
  obtain ⟨v0, v1, v2, d0, d1, d2, p0, p1, p2, rfl, rfl, rfl, h0, h1, h2⟩ := trodAll_three hA
  obtain ⟨rfl, rfl⟩ := trodVars_none hV
  have hlt := fun x hx => hW'.lt x hx
  obtain ⟨a0, r0, b0⟩ := open_vers (hval 0 _ v0 rfl rfl) h0 (fun x hx => by simpa using hlt x (by simp [hx]))
  obtain ⟨a1, r1, b1⟩ := open_lgs (hval 1 _ v1 rfl rfl) h1 (fun x hx => by simpa using hlt x (by simp [hx]))
  obtain ⟨a2, rfl, rfl, rfl, w2⟩ := open_int Try.underlying3 (hval 2 _ v2 rfl rfl) h2
  have w2 := wf_int w2
  refine (walk0 vi_k v0 v1 a0 a1 a2 _ r0 r1 b0 b1 w2 (vers_sized h0 r0 hsz (j := 0) rfl rfl)).mono fun e W' ⟨he, hb⟩ => ⟨_, he, ?_⟩
  exact law_post Try.laidOut (by decide +kernel) rfl Try.underlying4 rfl hW' rfl hb

theorem holds : Rows.ViewRowSaid :=
  OpenClaim.holds_of_wide 9 Try.f9 rfl rfl rfl rfl rfl rfl rfl ⟨rfl, rfl, rfl, rfl, rfl⟩ rfl rfl rfl rfl rfl (by kernel_rfl) Try.func9 (by kernel_rfl)
    (of_decide_eq_true (by kernel_rfl)) (by unfold Func.isWrapper; first | (rw [if_pos (by decide +kernel)]; kernel_rfl) | (rw [if_neg (by decide +kernel)]; exact ⟨rfl, rfl⟩))
    (fun os started H enc _ => lifted os started H enc)
end Go.Proofs.Ytlpakooogbaclaa.L07
