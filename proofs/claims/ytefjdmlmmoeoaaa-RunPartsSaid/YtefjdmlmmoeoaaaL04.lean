/- RunParts: a run's versions are those of each of its keys, one key behind the other, and those of its two parts at any string: any versions (the first 40 that may be, in order, unlike one another), any string. No conditions. -/
import Derived.Test.YtefjdmlmmoeoaaaTd
import Derived.Test.YtefjdmlmmoeoaaaWr
import Derived.Test.YtefjdmlmmoeoaaaWl
import Derived.Test.YtefjdmlmmoeoaaaWu
import Derived.Test.YtefjdmlmmoeoaaaWq
import Derived.Test.YtefjdmlmmoeoaaaRR
import Derived.ChangeMaps5
namespace Go.Proofs.Ytefjdmlmmoeoaaa.L04
open Go.RowKit Go.ChangeShapes Go.WideShapes Go.ChangeAt
set_option linter.unusedVariables false

set_option maxHeartbeats 8000000 in
set_option maxRecDepth 100000 in
theorem walk (v : Value) (l : List Ver) (a1 : ByteArray) (w : World) (h : RdVr w w.heap.size v l) :
    Calls Try.prog 6 #[v, .string a1] w fun e w' => e = .returned (.bool true) ∧ Below w.heap.size w w' := by
  have HA := Lib.hid h
  obtain ⟨A, ca, rfl, -⟩ := h
  go_enter Try.func6, Try.ntmps6
  go_wp2_with fail
  refine (ref8_block _ l 40 _ HA.out (by omega)).mono ?_
  rintro z w1 ⟨v1, own, rfl, ho1, hlm, hok, hb1⟩
  have O1 := Lib.hid ho1
  have G := Lib.hid hb1
  have hmv := blk_may hok
  have HM := Lib.hid hmv
  have HKY := Lib.hid (show ∀ v ∈ own, v.key.size ≤ 1000000 from fun v hv => Nat.le_trans (may_key (hmv v hv)) (by omega))
  have hl40 : own.length ≤ 40 := by omega
  have BU := Lib.hid (fun va w h => run_build va own w h (by omega) HKY.out)
  rw [if_pos hok, if_pos hok] at BU
  have hle : (encRun own).length ≤ 20000 ∧ 16 ≤ (encRun own).length := by
    have h := encRun_len hok (by omega)
    have h2 : many8 own = (own.length + 7) / 8 := rfl
    refine ⟨by omega, ?_⟩
    unfold encRun
    rw [List.length_append, List.length_append, frm_length, frm_length]
    omega
  obtain ⟨hle, hge⟩ := hle
  have OP := Lib.hid (fun va w h => run_open va (encRun own) w h hle)
  have HYES := Lib.hid (show IsRun (encRun own) own from ⟨hok, rfl⟩)
  have HIN := Lib.hid (fun l (h : IsRun (encRun own) l) => IsRun.inj h HYES.out (by omega))
  have OF := Lib.hid (fun p base key w h => run_of p own base key w h hok (by omega))
  have RG := Lib.hid (fun p base fr tt w h => run_range p own base fr tt w h hok (by omega))
  have HR := Lib.hid (range_two hok hmv a1)
  have HNX := Lib.hid (fun i (hi : i < own.length) hk => upTo_next hok hi hk)
  have HEN := Lib.hid (upTo_end hok)
  obtain ⟨A1, c1, e1, -⟩ := ho1.rd
  subst e1
  clear ho1 hb1 hmv hlm hok
  generalize encRun own = eb at *
  go_wp2_with fail
  refine (BU.out _ _ O1.out.rd).mono ?_
  rintro z w2 ⟨v2, rfl, ho2, hb2⟩
  have O1 := Lib.hid (O1.out.on hb2)
  have G := Lib.hid (G.out.trans (hb2.mono G.out.size))
  have E2 := Lib.hid ho2
  obtain ⟨A2, c2, e2, -⟩ := own_cap ho2
  subst e2
  clear ho2 hb2
  go_wp2_with fail
  refine (OP.out _ _ E2.out.rd).mono ?_
  rintro z w3 ⟨p, e, rfl, hb3, hor⟩
  have O1 := Lib.hid (O1.out.on hb3)
  have E2 := Lib.hid (E2.out.on hb3)
  have G := Lib.hid (G.out.trans (hb3.mono G.out.size))
  clear hb3
  rcases hor with ⟨l', rfl, hr, -, hat⟩ | ⟨-, -, hno⟩
  case inr => exact absurd HYES.out (hno _)
  obtain rfl : own = l' := (HIN.out _ hr).symm
  have RA := Lib.hid hat
  obtain ⟨nr, vb, rfl, -⟩ := hat
  clear hr
  go_wp2_with fail
  go_loopw [10, 11] (fun x i wr => ∃ k : Nat, i = .int .i64 k ∧ k ≤ own.length ∧ OwnVr wr w3.heap.size x (upTo own k) ∧ Below w3.heap.size w3 wr) (fun _ i _ => own.length - (intOf i).toNat)
  case atStart => exact ⟨0, rfl, Nat.zero_le _, OwnX.nil _ _, Below.refl _ _⟩
  case round =>
    obtain ⟨k, rfl, hk, ho, hb⟩ := hrel
    have O := Lib.hid ho
    have GW := Lib.hid hb
    obtain ⟨OA, oc, eo, -⟩ := ho.rd
    subst eo
    clear ho hb
    by_cases hlt : k < own.length
    · have z1 : decide ((k : Int) < (own.length : Int)) = true := by simp; omega
      obtain ⟨b, o, eA, hbb, c0, -⟩ := RdVr.here (O1.out.rd.below GW.out) k hlt
      subst eA
      have HNK := Lib.hid (HNX.out k hlt)
      have HSM := Lib.hid (fun h0 => upTo_same (l := own) (i := k) h0)
      have hgk : own.getD k zeroV = own[k] := getD_at hlt
      have hul := upTo_len own k
      have hpl := List.length_filter_le (fun v : Ver => decide (v.key = own[k].key)) own
      have hal := Lib.hid (show (upTo own k).length + (own.filter fun v => decide (v.key = own[k].key)).length ≤ 1000000000 from by omega)
      rw [hgk] at HNK HSM
      obtain ⟨kk, hkk⟩ : ∃ kk, own[k].key = kk := ⟨_, rfl⟩
      rw [hkk] at HNK HSM c0 hal
      generalize hTK : upTo own k = TK at *
      clear hul hpl hbb hgk hTK
      by_cases h0 : k = 0
      · subst h0
        have NX := Lib.hid (HNK.out (.inl rfl))
        go_wp2_with fail
        go_quiet (fail)
        have GW := Lib.hid (GW.out.drewN nq)
        have O := Lib.hid (O.out.on (show Below wr.heap.size wr (wr.drewN nq) from (Below.refl _ _).drewN nq))
        obtain ⟨b', o', eA', hbb', c0', -⟩ := RdVr.here (O1.out.rd.below GW.out) 0 hlt
        injection eA' with eA'
        injection eA' with eb eo
        subst eb eo
        rw [hkk] at c0'
        simp only [Nat.zero_mul, Nat.add_zero] at c0'
        clear hkk
        go_wp2_with fail
        refine (OF.out _ _ _ _ (RA.out.on GW.out)).mono ?_
        rintro z wo ⟨vo, rfl, hoo, hbo⟩
        have O := Lib.hid (O.out.on hbo)
        have GZ := Lib.hid (GW.out.trans (hbo.mono GW.out.size))
        have RU := Lib.hid hoo.rd
        obtain ⟨Ao, co, eo, -⟩ := hoo.rd
        subst eo
        clear hoo hbo
        generalize own.filter (fun v => decide (v.key = kk)) = PC at *
        have hsz := Lib.hid GZ.out.size
        go_wp2_with (at_builtin; refine wpl_appX_rd rfl (.tmp 53) (.tmp 60) rfl Try.underlying22 ver_info rfl w3.heap.size _ _ _ TK PC rfl rfl O.out RU.out hsz.out hal.out (by decide) ?_; intro v5 w5 ho5 hg5 hb5)
        have OZ := Lib.hid (show OwnVr w5 w3.heap.size v5 (upTo own (0 + 1)) from by rw [NX.out]; exact ho5)
        have GZ := Lib.hid (GZ.out.trans hb5)
        clear ho5 hg5 hb5
        go_roundw
        case rel => exact ⟨0 + 1, by go_num, hlt, OZ.out, GZ.out⟩
        case measure => simp [intOf]; omega
      · have z0 : ((k : Int) == 0) = false := by rw [beq_eq_false_iff_ne]; omega
        have hj : k - 1 < own.length := by omega
        have hsub : (k : Int) - 1 = ((k - 1 : Nat) : Int) := by omega
        have hw64 : IntKind.i64.wrap ((k - 1 : Nat) : Int) = ((k - 1 : Nat) : Int) := by rw [IntKind.wrap_i64]; omega
        have hi1 : ((k - 1 : Nat) : Int) < (own.length : Int) := by omega
        obtain ⟨b1, o1, eA1, -, d0, -⟩ := RdVr.here (O1.out.rd.below GW.out) (k - 1) hj
        injection eA1 with eA1
        injection eA1 with eb1 eo1
        subst eb1 eo1
        have hgj : own.getD (k - 1) zeroV = own[k - 1] := getD_at hj
        rw [hgj] at HNK HSM
        obtain ⟨kj, hkj⟩ : ∃ kj, own[k - 1].key = kj := ⟨_, rfl⟩
        rw [hkj] at HNK HSM d0
        clear hkj hgj
        by_cases hq : kk = kj
        · have q1 : (kk.toList == kj.toList) = true := str_eqT hq
          have q2 : (kk.toList != kj.toList) = false := by rw [bne, q1]; rfl
          have SM := Lib.hid (HSM.out (by omega) hq)
          clear hq
          go_wp2_with fail
          go_quiet (fail)
          go_wp2_with fail
          go_roundw
          case rel => exact ⟨k + 1, by go_num, hlt, by rw [SM.out]; exact O.out.on (show Below wr.heap.size wr (wr.drewN nq) from (Below.refl _ _).drewN nq), GW.out.drewN nq⟩
          case measure => simp [intOf]; omega
        · have q1 : (kk.toList == kj.toList) = false := str_eqF hq
          have q2 : (kk.toList != kj.toList) = true := by rw [bne, q1]; rfl
          have NX := Lib.hid (HNK.out (.inr hq))
          clear hq
          go_wp2_with fail
          go_quiet (fail)
          have GW := Lib.hid (GW.out.drewN nq)
          have O := Lib.hid (O.out.on (show Below wr.heap.size wr (wr.drewN nq) from (Below.refl _ _).drewN nq))
          obtain ⟨b', o', eA', hbb', c0', -⟩ := RdVr.here (O1.out.rd.below GW.out) k hlt
          injection eA' with eA'
          injection eA' with eb eo
          subst eb eo
          rw [hkk] at c0'
          clear hkk
          go_wp2_with fail
          refine (OF.out _ _ _ _ (RA.out.on GW.out)).mono ?_
          rintro z wo ⟨vo, rfl, hoo, hbo⟩
          have O := Lib.hid (O.out.on hbo)
          have GZ := Lib.hid (GW.out.trans (hbo.mono GW.out.size))
          have RU := Lib.hid hoo.rd
          obtain ⟨Ao, co, eo, -⟩ := hoo.rd
          subst eo
          clear hoo hbo
          generalize own.filter (fun v => decide (v.key = kk)) = PC at *
          have hsz := Lib.hid GZ.out.size
          go_wp2_with (at_builtin; refine wpl_appX_rd rfl (.tmp 53) (.tmp 60) rfl Try.underlying22 ver_info rfl w3.heap.size _ _ _ TK PC rfl rfl O.out RU.out hsz.out hal.out (by decide) ?_; intro v5 w5 ho5 hg5 hb5)
          have OZ := Lib.hid (show OwnVr w5 w3.heap.size v5 (upTo own (k + 1)) from by rw [NX.out]; exact ho5)
          have GZ := Lib.hid (GZ.out.trans hb5)
          clear ho5 hg5 hb5
          go_roundw
          case rel => exact ⟨k + 1, by go_num, hlt, OZ.out, GZ.out⟩
          case measure => simp [intOf]; omega
    · have hke : k = own.length := by omega
      subst hke
      have hen := HEN.out
      have hR1 := List.length_filter_le (fun v : Ver => !Op.bytesLess v.key.toList (⟨#[]⟩ : ByteArray).toList && Op.bytesLess v.key.toList a1.toList) own
      have hR2 := List.length_filter_le (fun v : Ver => !Op.bytesLess v.key.toList a1.toList && Op.bytesLess v.key.toList (⟨#[255]⟩ : ByteArray).toList) own
      rw [hen] at O ⊢
      have RG1 := Lib.hid (fun p base w h => RG.out p base ⟨#[]⟩ a1 w h)
      have RG2 := Lib.hid (fun p base w h => RG.out p base a1 ⟨#[255]⟩ w h)
      clear hen
      generalize (own.filter fun v => !Op.bytesLess v.key.toList (⟨#[]⟩ : ByteArray).toList && Op.bytesLess v.key.toList a1.toList) = R1 at *
      generalize (own.filter fun v => !Op.bytesLess v.key.toList a1.toList && Op.bytesLess v.key.toList (⟨#[255]⟩ : ByteArray).toList) = R2 at *
      have HA1 := Lib.hid (show ([] : List Ver).length + R1.length ≤ 1000000000 from by simp; omega)
      have HA2 := Lib.hid (show R1.length + R2.length ≤ 1000000000 from by omega)
      clear hR1 hR2
      have G := Lib.hid (G.out.trans (GW.out.mono G.out.size))
      have RA := Lib.hid (RA.out.on GW.out)
      have O1 := Lib.hid (O1.out.on GW.out)
      clear GW
      go_wp2_with fail
      refine (RG1.out _ _ _ RA.out).mono ?_
      rintro z x1 ⟨v1', rfl, ho1, hb1⟩
      have G := Lib.hid (G.out.trans (hb1.mono G.out.size))
      have RA := Lib.hid (RA.out.on hb1)
      have OR := Lib.hid (O1.out.on hb1).rd
      have OQ := Lib.hid (O.out.on hb1).rd
      have HW1 := Lib.hid G.out.size
      have RU := Lib.hid ho1.rd
      obtain ⟨B1, k1, e1, -⟩ := ho1.rd
      subst e1
      clear ho1 hb1 O O1
      go_wp2_with (at_builtin; refine wpl_appX_rd rfl (.tmp 62) (.tmp 65) rfl Try.underlying22 ver_info rfl x1.heap.size _ _ _ [] R1 rfl rfl (OwnX.nil _ _) RU.out (Nat.le_refl _) HA1.out (by decide) ?_; intro v5 w5 ho5 hg5 hb5; rw [List.nil_append] at ho5; obtain ⟨A5, c5, e5, -⟩ := ho5.rd; have BB := Lib.hid hb5; have G := Lib.hid (G.out.trans (hb5.mono G.out.size)); have RA := Lib.hid (RA.out.on hb5); have O5 := Lib.hid ho5; subst e5; clear ho5 hg5 hb5)
      refine (RG2.out _ _ _ RA.out).mono ?_
      rintro z x2 ⟨v2', rfl, ho2, hb2⟩
      have G := Lib.hid (G.out.trans (hb2.mono G.out.size))
      have O5 := Lib.hid (O5.out.on hb2)
      have BB := Lib.hid (BB.out.trans (hb2.mono BB.out.size))
      have RU := Lib.hid ho2.rd
      obtain ⟨B2, k2, e2, -⟩ := ho2.rd
      subst e2
      clear ho2 hb2 RA
      have hs5 := Lib.hid BB.out.size
      go_wp2_with (at_builtin; refine wpl_appX_rd rfl (.tmp 67) (.tmp 70) rfl Try.underlying22 ver_info rfl x1.heap.size _ _ _ R1 R2 rfl rfl O5.out RU.out hs5.out HA2.out (by decide) ?_; intro v6 w6 ho6 hg6 hb6; rw [HR.out] at ho6; obtain ⟨A6, c6, e6, -⟩ := ho6.rd; have G := Lib.hid (G.out.trans (hb6.mono HW1.out)); have BB := Lib.hid (BB.out.trans hb6); have O6 := Lib.hid ho6; subst e6; clear ho6 hg6 hb6)
      refine (ref6_same _ _ own own _ ((OQ.out.below BB.out).more BB.out.size) ((OR.out.below BB.out).more BB.out.size)).mono ?_
      rintro z x3 ⟨r, rfl, hr, hb3⟩
      have G := Lib.hid (G.out.trans (hb3.mono G.out.size))
      have BB := Lib.hid (BB.out.trans (hb3.mono BB.out.size))
      have O6 := Lib.hid (O6.out.on hb3)
      obtain rfl : r = true := hr.2 rfl
      clear hr hb3
      go_wp2_with fail
      refine (ref6_same _ _ own own _ O6.out.rd ((OR.out.below BB.out).more BB.out.size)).mono ?_
      rintro z x4 ⟨r, rfl, hr, hb4⟩
      have G := Lib.hid (G.out.trans (hb4.mono G.out.size))
      obtain rfl : r = true := hr.2 rfl
      clear hr hb4
      go_wp2_with fail
      refine (lives_any9 _).mono ?_
      rintro z w8 ⟨rfl, hb⟩
      have G := Lib.hid (G.out.trans (hb.mono G.out.size))
      clear hb
      go_wp2_with fail
      go_ret
      exact ⟨rfl, G.out⟩
-- END
set_option maxRecDepth 100000 in
theorem lifted (os : Os) (started : os.Started) (H : Type) (enc : TypeId × Value → H) :
    ReturnsInHanded {} Try.checked os 6 .any (Rows.runPartsSpec.pre6 enc Try.prog Try.f6 Rows.runPartsRow.domain false) (Rows.runPartsSpec.post enc Try.prog Try.f6 false true false false) := by
  refine returnsInHanded_of_change (C := Try.checked) Try.own started (by kernel_rfl) Try.func6
    (ChangeSpec.witness6 (enc := enc) (C := Try.checked) false ⟨#[], #[.slice none 0 0, .string ⟨#[]⟩], []⟩ 8 (by kernel_rfl) (by kernel_rfl) (by kernel_rfl) (by kernel_rfl)) ?_
  intro W base args ds gs before hval0 hW _ _
  have hval : ∀ (j : Nat) t v, Try.f6.params[j]? = some t → args[j]? = some v → Value.okWide Try.prog W .any base t v := hval0
  have hW' := hW
  obtain ⟨p, q, hA0, hV, rfl, _, _⟩ := hW
  have hA : DataW.TrodAll enc Try.prog W 0 (fun _ => true) true Try.f6.params.toList args.toList ds p := hA0
  rw [Try.params6] at hA hval
  obtain ⟨v0, v1, d0, d1, p0, p1, rfl, rfl, rfl, h0, h1⟩ := trodAll_two hA
  obtain ⟨rfl, rfl⟩ := trodVars_none hV
  have hlt := fun x hx => hW'.lt x hx
  obtain ⟨a0, r0, b0⟩ := open_vers (hval 0 _ v0 rfl rfl) h0 (fun x hx => by simpa using hlt x (by simp [hx]))
  obtain ⟨a1, rfl, rfl, rfl, w1⟩ := ChangeMaps.open_string Try.underlying9 (hval 1 _ v1 rfl rfl) h1
  simp only [maxLen] at w1
  refine (walk _ _ _ _ r0).mono fun e W' ⟨he, hb⟩ => ⟨_, he, ?_⟩
  exact law_post Try.laidOut (by decide +kernel) rfl Try.underlying4 rfl hW' rfl hb

theorem holds : Rows.RunPartsSaid :=
  OpenClaim.holds_of_wide 6 Try.f6 rfl rfl rfl rfl rfl rfl rfl ⟨rfl, rfl, rfl, rfl, rfl⟩ rfl rfl rfl rfl rfl (by kernel_rfl) Try.func6 (by kernel_rfl)
    (of_decide_eq_true (by kernel_rfl)) (by unfold Func.isWrapper; first | (rw [if_pos (by decide +kernel)]; kernel_rfl) | (rw [if_neg (by decide +kernel)]; exact ⟨rfl, rfl⟩))
    (fun os started H enc _ => lifted os started H enc)
end Go.Proofs.Ytefjdmlmmoeoaaa.L04
