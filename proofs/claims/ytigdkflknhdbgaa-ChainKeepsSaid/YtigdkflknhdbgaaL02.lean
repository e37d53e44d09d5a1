/- ChainKeeps: what stays, and what is told to be no more, is what the document says: any versions (the first 40, few bytes), kept up to the epoch 1, 2 or 3; and it may be put again. -/
import Derived.Test.YtigdkflknhdbgaaDo
import Derived.Test.YtigdkflknhdbgaaCo
import Derived.Test.YtigdkflknhdbgaaCg
import Derived.BigQuiet
namespace Go.Proofs.Ytigdkflknhdbgaa.L02
open Go.RowKit Go.ChangeShapes Go.WideShapes Go.ChangeAt
set_option linter.unusedVariables false

set_option maxHeartbeats 8000000 in
set_option maxRecDepth 100000 in
theorem walk0 {Ch : Nat → World → (Nat → Prop) → Value → List Ver → Int → Prop} (K : ChF Ch) (LV : LivesC) (v : Value) (l : List PutC) (ep : Int) (w : World) (h : RdX putL w w.heap.size v l) (hok : ∀ x ∈ l, inK x.lv) :
    Calls Try.prog 4 #[v, .int .i64 ep] w fun z w' => z = .returned (.bool true) ∧ Below w.heap.size w w' := by
  have FI := Lib.hid (law13_filled K v l w h hok)
  have K := Lib.hid K
  have LV := Lib.hid LV
  obtain ⟨A, ca, rfl, -⟩ := id h
  clear h hok
  go_enter Try.func4, Try.ntmps4
  go_wp2_with fail
  refine FI.out.mono ?_
  rintro z w1 ⟨g, S, vr, r, ht, rfl, hc, hsb, ho, hns, hgood, hrl, hb1⟩
  have C := Lib.hid hc
  have HSB := Lib.hid hsb
  have O := Lib.hid ho
  have HNS := Lib.hid hns
  have GOOD := Lib.hid hgood
  have H40 := Lib.hid hrl
  have HR := Lib.hid (show r.length ≤ 1000 from by omega)
  have HR2 := Lib.hid (show r.length ≤ 20000 from by omega)
  have G := Lib.hid hb1
  obtain ⟨Ar, cr, ev, -⟩ := ho.rd
  subst ev
  clear hc hsb ho hns hgood hrl hb1 FI
  obtain ⟨e, he1, he3, hee⟩ : ∃ e : Int, 1 ≤ e ∧ e ≤ 3 ∧ ((1 ≤ ep ∧ ep ≤ 3 ∧ e = ep) ∨ ((ep < 1 ∨ 3 < ep) ∧ e = 3)) := by
    by_cases h : 1 ≤ ep ∧ ep ≤ 3
    · exact ⟨ep, h.1, h.2, .inl ⟨h.1, h.2, rfl⟩⟩
    · exact ⟨3, by decide, by decide, .inr ⟨by omega, rfl⟩⟩
  have EP := Lib.hid (law13_epochs e)
  have KE := Lib.hid (K.out.keep w1 S (.pointer (some ⟨g, 0, none⟩)) r ht (epochF e) (fun v => decide (v.e ≤ e)) C.out (by omega) HR.out (asks_epoch he1 he3))
  have SG := Lib.hid (fun (cur : List Ver) (k : Nat) (h : PartV r cur) hm hk => keeps_step GOOD.out (e := e) h hm hk (cur := cur) (k := k))
  have SE := Lib.hid (fun (cur : List Ver) (h : PartV r cur) hm => keeps_end GOOD.out (e := e) h hm (cur := cur))
  have SP := Lib.hid (stay_part GOOD.out e)
  have GK := Lib.hid (show ∀ x ∈ goneV e r, x.key.size ≤ 110 from fun x hx => GOOD.out.key x (gone_in hx).1)
  have SL := Lib.hid (show (stayV e r).length ≤ 1000 from Nat.le_trans (List.length_filter_le _ _) HR.out)
  have GL := Lib.hid (show (goneV e r).length ≤ 1000 from Nat.le_trans (List.length_filter_le _ _) HR.out)
  have RK := Lib.hid (fun w h => ref13_keep (.slice Ar r.length cr) r e w h HR.out)
  rw [show (r.filter fun v => !decide (v.e ≤ e)) = goneV e r from rfl, show (r.filter fun v => decide (v.e ≤ e)) = stayV e r from rfl] at KE
  have LSG := Lib.hid (show (stayV e r).length + (goneV e r).length ≤ 80 from by
    have h1 : (stayV e r).length ≤ r.length := List.length_filter_le _ _
    have h2 : (goneV e r).length ≤ r.length := List.length_filter_le _ _
    have := H40.out; omega)
  have hcase : (ep < 1) ∨ (3 < ep) ∨ (1 ≤ ep ∧ ep ≤ 3) := by omega
  have hww : ∀ (hx : (1 ≤ ep ∧ ep ≤ 3 ∧ e = ep) ∨ ((ep < 1 ∨ 3 < ep) ∧ e = 3)), True := fun _ => trivial
  have z1 : decide (ep < 1) = decide (ep < 1) := rfl
  clear hww z1 he1 he3
  generalize hst : stayV e r = st at *
  generalize hgo : goneV e r = go at *
  clear hst hgo
  rcases hcase with hq | hq | hq
  case' inl =>
    have z1 : decide (ep < 1) = true := by simp; omega
    obtain rfl : e = 3 := by omega
  case' inr.inl =>
    have z1 : decide (ep < 1) = false := by rw [decide_eq_false_iff_not]; omega
    have z2 : decide (3 < ep) = true := by simp; omega
    obtain rfl : e = 3 := by omega
  case' inr.inr =>
    have z1 : decide (ep < 1) = false := by rw [decide_eq_false_iff_not]; omega
    have z2 : decide (3 < ep) = false := by rw [decide_eq_false_iff_not]; omega
    obtain rfl : e = ep := by omega
  all_goals
    clear hee hq
    go_wp2_with fail
    refine (EP.out _).mono ?_
    rintro z w2 ⟨rfl, rfl⟩
    go_wp2_with fail
    refine KE.out.mono ?_
    rintro z w3 ⟨v3, S3, h3, rfl, ho3, hc3, hs3, hoff3, hk3⟩
    have C := Lib.hid hc3
    have OFF := Lib.hid (Off.grow HNS.out hs3 (fun j hj => (O.out.lt j hj).2))
    have O := Lib.hid (hk3.own O.out HNS.out)
    have HSB2 := Lib.hid (show ∀ i, S3 i → w.heap.size ≤ i from fun i hi => (hs3 i hi).elim (HSB.out i) (Nat.le_trans G.out.size))
    have G := Lib.hid (G.out.trans (hk3.under G.out.size HSB.out))
    have HSB := Lib.hid HSB2.out
    have P3 := Lib.hid ho3.rd
    obtain ⟨A3, c3, ev, -⟩ := ho3.rd
    subst ev
    clear ho3 hc3 hs3 hoff3 hk3 KE
    go_wp2_with fail
    refine (RK.out _ O.out.rd).mono ?_
    rintro z w4 ⟨v4, u4, rfl, ho4, hu4, hb⟩
    have P3 := Lib.hid (P3.out.on hb)
    have SLT := Lib.hid (K.out.lt C.out)
    have C := Lib.hid (K.out.on C.out hb)
    have O := Lib.hid (O.out.on hb)
    have P4 := Lib.hid ho4.rd
    have U4 := Lib.hid (OwnX.mono hu4 (Nat.le_trans G.out.size (Nat.le_refl _)))
    have UOFF := Lib.hid (show Off u4 S3 from fun j hj hs => by have := SLT.out j hs; have := OwnX.base hu4 j hj; omega)
    have G := Lib.hid (G.out.trans (hb.mono G.out.size))
    obtain ⟨A4, c4, ev, -⟩ := ho4.rd
    subst ev
    obtain ⟨A5, c5, ev, -⟩ := hu4.rd
    subst ev
    clear ho4 hu4 hb RK SLT
    go_wp2_with fail
    refine (ref6_same _ _ _ _ _ P3.out U4.out.rd).mono ?_
    rintro z wq ⟨bq, rfl, hq, hb⟩
    obtain rfl : bq = true := hq.2 rfl
    have C := Lib.hid (K.out.on C.out hb)
    have O := Lib.hid (O.out.on hb)
    have P4 := Lib.hid (P4.out.on hb)
    have U4 := Lib.hid (U4.out.on hb)
    have G := Lib.hid (G.out.trans (hb.mono G.out.size))
    clear hb hq P3
    go_wp2_with fail
    refine (law13_like K.out _ _ _ _ _ _ C.out P4.out SL.out).mono ?_
    rintro z w6 ⟨rfl, hb⟩
    have C := Lib.hid (K.out.on C.out hb)
    have O := Lib.hid (O.out.on hb)
    have U4 := Lib.hid (U4.out.on hb)
    have G := Lib.hid (G.out.trans (hb.mono G.out.size))
    clear hb P4
    go_wp2_with fail
    go_loopw [13] (fun i wr => ∃ (k : Nat) (cur : List Ver) (S : Nat → Prop) (h : Int), i = .int .i64 k ∧ k ≤ go.length ∧ cur.length ≤ st.length + k ∧ PartV r cur ∧ (∀ x, x ∈ cur ↔ x ∈ st ∨ x ∈ go.take k) ∧ Ch (40 + k) wr S (.pointer (some ⟨g, 0, none⟩)) cur h ∧ (∀ i, S i → w.heap.size ≤ i) ∧ OwnVr wr w.heap.size (.slice Ar r.length cr) r ∧ Off (.slice Ar r.length cr) S ∧ OwnVr wr w.heap.size (.slice A5 go.length c5) go ∧ Off (.slice A5 go.length c5) S ∧ Below w.heap.size w wr) (fun i _ => go.length - (intOf i).toNat)
    case atStart => exact ⟨0, st, S3, h3, rfl, Nat.zero_le _, Nat.le_refl _, SP.out, fun x => by simp, C.out, HSB.out, O.out, OFF.out, U4.out, UOFF.out, G.out⟩
    case round =>
      obtain ⟨k, cur, S, h, rfl, hk, hcl, hpart, hmem, hch, hsb, ho, hoff, hu, huoff, hbw⟩ := hrel
      rename World => wo
      have G := Lib.hid hbw
      have C := Lib.hid hch
      have HSB := Lib.hid hsb
      have O := Lib.hid ho
      have OFF := Lib.hid hoff
      have U4 := Lib.hid hu
      have UOFF := Lib.hid huoff
      have PART := Lib.hid hpart
      have MEM := Lib.hid hmem
      have HCL := Lib.hid hcl
      clear hbw hch hsb ho hoff hu huoff hpart hmem hcl
      by_cases hlt : k < go.length
      · have zl : decide ((k : Int) < (go.length : Int)) = true := by simp; omega
        have hki : (k : Int) < (go.length : Int) := by omega
        have hw64 : IntKind.i64.wrap ((k : Int) + 1) = (k : Int) + 1 := by rw [IntKind.wrap_i64]; have := GL.out; omega
        have STP := Lib.hid (SG.out cur k PART.out MEM.out hlt)
        have KS := Lib.hid (GK.out go[k] (List.getElem_mem hlt))
        obtain ⟨b, o, rfl, -, c0, c1, c2, c3, c4', c5', c6, c7⟩ := RdVr.here U4.out.rd k hlt
        have AD := Lib.hid (K.out.add wo S (.pointer (some ⟨g, 0, none⟩)) cur h go[k] 2 C.out (by have := LSG.out; omega) (by have := HCL.out; have := LSG.out; omega) (Nat.le_trans KS.out (by decide)) ⟨by decide, by decide⟩)
        rw [STP.out.1] at AD
        generalize go[k] = x at *
        obtain ⟨k1, b1, e1, s1, ⟨x1, y1⟩, u1, g1⟩ := x
        unfold verV at AD
        simp only at AD c0 c1 c2 c3 c4' c5' c6 c7
        go_wp2_with fail
        refine AD.out.mono ?_
        rintro z w7 ⟨rfl, S7, h7, hc7, hs7, hk7, -, -⟩
        have C7 := Lib.hid hc7
        have HSB7 := Lib.hid (show ∀ i, S7 i → w.heap.size ≤ i from fun i hi => (hs7 i hi).elim (HSB.out i) (Nat.le_trans G.out.size))
        have OFF7 := Lib.hid (Off.grow OFF.out hs7 (fun j hj => (O.out.lt j hj).2))
        have UOFF7 := Lib.hid (Off.grow UOFF.out hs7 (fun j hj => (U4.out.lt j hj).2))
        have O7 := Lib.hid (hk7.own O.out OFF.out)
        have U7 := Lib.hid (hk7.own U4.out UOFF.out)
        have G7 := Lib.hid (G.out.trans (hk7.under G.out.size HSB.out))
        clear hc7 hs7 hk7 AD c0 c1 c2 c3 c4' c5' c6 c7
        go_wp2_with fail
        go_roundw
        case rel => exact ⟨k + 1, _, S7, h7, by go_num, by omega, by rw [insA_len]; have := HCL.out; omega, STP.out.2.1, STP.out.2.2, C7.out, HSB7.out, O7.out, OFF7.out, U7.out, UOFF7.out, G7.out⟩
        case measure => simp [intOf]; omega
      · have hkl : k = go.length := by omega
        subst hkl
        have zl : decide ((go.length : Int) < (go.length : Int)) = false := by simp
        have HE := Lib.hid (SE.out cur PART.out MEM.out)
        rw [HE.out] at C
        clear hlt
        go_wp2_with fail
        refine (law13_like K.out _ _ _ _ _ _ C.out O.out.rd HR.out).mono ?_
        rintro z w8 ⟨rfl, hb⟩
        have G := Lib.hid (G.out.trans (hb.mono G.out.size))
        clear hb
        go_wp2_with fail
        refine (LV.out _).mono ?_
        rintro z wq ⟨rfl, hb⟩
        have G := Lib.hid (G.out.trans (hb.mono G.out.size))
        clear hb
        go_wp2_with fail
        go_ret
        exact ⟨rfl, G.out⟩
-- END
set_option maxRecDepth 100000 in
theorem lifted (os : Os) (started : os.Started) (H : Type) (enc : TypeId × Value → H) :
    ReturnsInHanded {} Try.checked os 4 .any (Rows.chainKeepsSpec.pre6 enc Try.prog Try.f4 Rows.chainKeepsRow.domain false) (Rows.chainKeepsSpec.post enc Try.prog Try.f4 false true false false) := by
  refine returnsInHanded_of_change (C := Try.checked) Try.own started (by kernel_rfl) Try.func4
    (ChangeSpec.witness6 (enc := enc) (C := Try.checked) false ⟨#[], #[.slice none 0 0, .int .i64 0], []⟩ 8 (by kernel_rfl) (by kernel_rfl) (by kernel_rfl) (by kernel_rfl)) ?_
  intro W base args ds gs before hval0 hW _ _
  have hval : ∀ (j : Nat) t v, Try.f4.params[j]? = some t → args[j]? = some v → Value.okWide Try.prog W .any base t v := hval0
  have hW' := hW
  obtain ⟨p, q, hA0, hV, rfl, _, _⟩ := hW
  have hA : DataW.TrodAll enc Try.prog W 0 (fun _ => true) true Try.f4.params.toList args.toList ds p := hA0
  rw [Try.params4] at hA hval
  obtain ⟨v0, v1, d0, d1, p0, p1, rfl, rfl, rfl, h0, h1⟩ := trodAll_two hA
  obtain ⟨rfl, rfl⟩ := trodVars_none hV
  have hlt := fun x hx => hW'.lt x hx
  obtain ⟨a0, r0, b0⟩ := open_puts (hval 0 _ v0 rfl rfl) h0 (fun x hx => by simpa using hlt x (by simp [hx]))
  obtain ⟨a1, rfl, rfl, rfl, w1⟩ := open_int Try.underlying3 (hval 1 _ v1 rfl rfl) h1
  have w1 := wf_int w1
  refine (walk0 ch_k lives_c v0 a0 a1 _ r0 b0).mono fun e W' ⟨he, hb⟩ => ⟨_, he, ?_⟩
  exact law_post Try.laidOut (by decide +kernel) rfl Try.underlying4 rfl hW' rfl hb

theorem holds : Rows.ChainKeepsSaid :=
  OpenClaim.holds_of_wide 4 Try.f4 rfl rfl rfl rfl rfl rfl rfl ⟨rfl, rfl, rfl, rfl, rfl⟩ rfl rfl rfl rfl rfl (by kernel_rfl) Try.func4 (by kernel_rfl)
    (of_decide_eq_true (by kernel_rfl)) (by unfold Func.isWrapper; first | (rw [if_pos (by decide +kernel)]; kernel_rfl) | (rw [if_neg (by decide +kernel)]; exact ⟨rfl, rfl⟩))
    (fun os started H enc _ => lifted os started H enc)
end Go.Proofs.Ytigdkflknhdbgaa.L02
