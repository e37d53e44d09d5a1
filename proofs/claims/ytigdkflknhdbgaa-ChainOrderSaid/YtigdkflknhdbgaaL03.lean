/- ChainOrder: what is told does not hang on the row in which versions are put, nor on levels: any versions (the first 30, few bytes), and the same from the last one on, with level 1. -/
import Derived.Test.YtigdkflknhdbgaaDo
import Derived.Test.YtigdkflknhdbgaaCo
import Derived.Test.YtigdkflknhdbgaaCg
import Derived.BigQuiet
namespace Go.Proofs.Ytigdkflknhdbgaa.L03
open Go.RowKit Go.ChangeShapes Go.WideShapes Go.ChangeAt
set_option linter.unusedVariables false

theorem put_size (w : World) : (Go.sizeOf 57).run Try.prog w = .ok putL.sz w := by kernel_rfl
set_option maxHeartbeats 8000000 in
set_option maxRecDepth 100000 in
theorem walk0 {Ch : Nat → World → (Nat → Prop) → Value → List Ver → Int → Prop} (K : ChF Ch) (LV : LivesC) (v : Value) (l : List PutC) (w : World) (h : RdX putL w w.heap.size v l) (hok : ∀ x ∈ l, inK x.lv) :
    Calls Try.prog 5 #[v] w fun z w' => z = .returned (.bool true) ∧ Below w.heap.size w w' := by
  have K := Lib.hid K
  have LV := Lib.hid LV
  obtain ⟨A, ca, rfl, -⟩ := id h
  go_enter Try.func5, Try.ntmps5
  by_cases h30 : 30 < l.length
  case' pos =>
    have z1 : decide (30 < (l.length : Int)) = true := by simp; omega
    have z1n : decide (30 < l.length) = true := by simp; omega
    obtain ⟨A1, c1, hcut, hrc⟩ := slX_head h Try.underlying22 put_size 30 (30 : Int) rfl (by omega)
    have FI := Lib.hid (law13_filled K.out _ _ w hrc (fun x hx => hok x (List.mem_of_mem_take hx)))
  case' neg =>
    have z1 : decide (30 < (l.length : Int)) = false := by rw [decide_eq_false_iff_not]; omega
    have z1n : decide (30 < l.length) = false := by rw [decide_eq_false_iff_not]; omega
    have FI := Lib.hid (law13_filled K.out _ _ w h hok)
  all_goals
    clear h hok h30
    go_wp2_with fail
    refine FI.out.mono ?_
    rintro z w1 ⟨g, S, vr, r, ht, rfl, hc, hsb, ho, hns, hgood, hrl, hb1⟩
    have C := Lib.hid hc
    have HSB := Lib.hid hsb
    have O := Lib.hid ho
    have GOOD := Lib.hid hgood
    have HR := Lib.hid (show r.length ≤ 1000 from by omega)
    have G := Lib.hid hb1
    have SLT := Lib.hid (K.out.lt hc)
    have OLT := Lib.hid (fun j hj => (OwnX.lt ho j hj).2)
    have GN := Lib.hid hb1.size
    obtain ⟨Ar, cr, ev, -⟩ := ho.rd
    subst ev
    clear hc hsb ho hns hgood hrl hb1 FI
    go_wp2_with fail
    refine (K.out.new _).mono ?_
    rintro z w2 ⟨p2, S2, rfl, hc2, hs2, hb⟩
    obtain ⟨g2, ep⟩ := K.out.ptr hc2
    subst ep
    have D := Lib.hid hc2
    have DS := Lib.hid hs2
    have C := Lib.hid (K.out.on C.out hb)
    have O := Lib.hid (O.out.on hb)
    have G := Lib.hid (G.out.trans (hb.mono G.out.size))
    have WO := Lib.hid hb.size
    clear hc2 hs2 hb
    have hw0 : IntKind.i64.wrap ((r.length : Int) - 1) = (r.length : Int) - 1 := by rw [IntKind.wrap_i64]; have := HR.out; omega
    go_wp2_with fail
    clear hw0
    go_loopw [7] (fun i wr => ∃ (j : Nat) (cur : List Ver) (S' : Nat → Prop) (h : Int), i = .int .i64 ((j : Int) - 1) ∧ j ≤ r.length ∧ cur.length + j ≤ r.length ∧ PartV r cur ∧ (∀ x, x ∈ cur ↔ x ∈ r.drop j) ∧ Ch (1000 - j) wr S' (.pointer (some ⟨g2, 0, none⟩)) cur h ∧ (∀ i, S' i → w1.heap.size ≤ i) ∧ Ch 40 wr S (.pointer (some ⟨g, 0, none⟩)) r ht ∧ OwnVr wr w.heap.size (.slice Ar r.length cr) r ∧ Below w.heap.size w wr ∧ w1.heap.size ≤ wr.heap.size) (fun i _ => (intOf i + 1).toNat)
    case atStart => exact ⟨r.length, [], S2, 0, rfl, Nat.le_refl _, by simp, ⟨List.Pairwise.nil, (fun x hx => by cases hx)⟩, (fun x => by simp), K.out.more D.out (Nat.zero_le _), DS.out, C.out, O.out, G.out, WO.out⟩
    case round =>
      obtain ⟨j, cur, S', h', rfl, hj, hcl, hpart, hmem, hd, hds, hcx, ho, hbw, hwo⟩ := hrel
      rename World => wo
      have G := Lib.hid hbw
      have C := Lib.hid hcx
      have D := Lib.hid hd
      have DS := Lib.hid hds
      have O := Lib.hid ho
      have PART := Lib.hid hpart
      have MEM := Lib.hid hmem
      have HCL := Lib.hid hcl
      have WO := Lib.hid hwo
      clear hwo hbw hcx hd hds ho hpart hmem hcl
      rcases Nat.eq_zero_or_pos j with hj0 | hj0
      · subst hj0
        have z3 : decide ((0 : Int) ≤ ((0 : Nat) : Int) - 1) = false := by decide
        have HE := Lib.hid (PART.out.whole GOOD.out fun x hx => (MEM.out x).2 (by simpa using hx))
        rw [HE.out] at D
        go_wp2_with fail
        refine (K.out.all _ _ _ _ _ C.out HR.out).mono ?_
        rintro z w4 ⟨v4, rfl, ho4, hb⟩
        have P4 := Lib.hid ho4.rd
        have D := Lib.hid (K.out.on D.out hb)
        have O := Lib.hid (O.out.on hb)
        have G := Lib.hid (G.out.trans (hb.mono G.out.size))
        obtain ⟨A4, c4, ev, -⟩ := ho4.rd
        subst ev
        clear ho4 hb C
        go_wp2_with fail
        refine (K.out.all _ _ _ _ _ D.out HR.out).mono ?_
        rintro z w5 ⟨v5, rfl, ho5, hb⟩
        have P4 := Lib.hid (P4.out.on hb)
        have P5 := Lib.hid ho5.rd
        have D := Lib.hid (K.out.on D.out hb)
        have O := Lib.hid (O.out.on hb)
        have G := Lib.hid (G.out.trans (hb.mono G.out.size))
        obtain ⟨A5, c5, ev, -⟩ := ho5.rd
        subst ev
        clear ho5 hb
        go_wp2_with fail
        refine (ref6_same _ _ _ _ _ P4.out P5.out).mono ?_
        rintro z wq ⟨bq, rfl, hq, hb⟩
        obtain rfl : bq = true := hq.2 rfl
        have D := Lib.hid (K.out.on D.out hb)
        have O := Lib.hid (O.out.on hb)
        have G := Lib.hid (G.out.trans (hb.mono G.out.size))
        clear hb hq P4 P5
        go_wp2_with fail
        refine (law13_like K.out _ _ _ _ _ _ D.out O.out.rd HR.out).mono ?_
        rintro z w8 ⟨rfl, hb⟩
        have G := Lib.hid (G.out.trans (hb.mono G.out.size))
        clear hb
        go_wp2_with fail
        refine (LV.out _).mono ?_
        rintro z w9 ⟨rfl, hb⟩
        have G := Lib.hid (G.out.trans (hb.mono G.out.size))
        clear hb
        go_wp2_with fail
        go_ret
        exact ⟨rfl, G.out⟩
      · obtain ⟨m, rfl⟩ : ∃ m, j = m + 1 := ⟨j - 1, by omega⟩
        rw [show (((m + 1 : Nat) : Int) - 1) = (m : Int) from by omega]
        have z3 : decide ((0 : Int) ≤ (m : Int)) = true := by simp
        have hmr : m < r.length := by omega
        have hmi : (m : Int) < (r.length : Int) := by omega
        have hw64 : IntKind.i64.wrap ((m : Int) - 1) = (m : Int) - 1 := by rw [IntKind.wrap_i64]; have := HR.out; omega
        have STP := Lib.hid (order_step GOOD.out PART.out MEM.out hmr)
        have KS := Lib.hid (GOOD.out.key r[m] (List.getElem_mem hmr))
        obtain ⟨b, o, eA, -, c0, c1', c2, c3, c4, c5, c6, c7⟩ := RdVr.here O.out.rd m hmr
        subst eA
        have AD := Lib.hid (K.out.add wo S' (.pointer (some ⟨g2, 0, none⟩)) cur h' r[m] 1 D.out (by omega) (by have := HCL.out; have := HR.out; omega) (Nat.le_trans KS.out (by decide)) ⟨by decide, by decide⟩)
        rw [STP.out.1] at AD
        have HM := Lib.hid hmr
        generalize r[m] = x at *
        obtain ⟨k1, b1, e1, s1, ⟨x1, y1⟩, u1, g1⟩ := x
        unfold verV at AD
        simp only at AD c0 c1' c2 c3 c4 c5 c6 c7
        clear hmr hj0
        go_wp2_with fail
        refine AD.out.mono ?_
        rintro z w7 ⟨rfl, S7, h7, hc7, hs7, hk7, -, -⟩
        have D7 := Lib.hid hc7
        have DS7 := Lib.hid (show ∀ i, S7 i → w1.heap.size ≤ i from fun i hi => (hs7 i hi).elim (DS.out i) (Nat.le_trans WO.out))
        have C7 := Lib.hid (K.out.stay C.out fun i hi => hk7.other i (K.out.lt C.out i hi) fun e => by have := DS.out i e; have := SLT.out i hi; omega)
        have O7 := Lib.hid (hk7.own O.out fun j hj e => by have := DS.out j e; have := OLT.out j hj; omega)
        have G7 := Lib.hid (G.out.trans (hk7.under G.out.size fun i hi => Nat.le_trans GN.out (DS.out i hi)))
        have WO7 := Lib.hid (Nat.le_trans WO.out hk7.below.size)
        clear hc7 hs7 hk7 AD c0 c1' c2 c3 c4 c5 c6 c7
        go_wp2_with fail
        go_roundw
        case rel => exact ⟨m, _, S7, h7, rfl, by have := HM.out; omega, by rw [insA_len]; have := HCL.out; omega, STP.out.2.1, STP.out.2.2, K.out.more D7.out (by have := HR.out; have := HM.out; omega), DS7.out, C7.out, O7.out, G7.out, WO7.out⟩
        case measure => simp [intOf]
-- END
set_option maxRecDepth 100000 in
theorem lifted (os : Os) (started : os.Started) (H : Type) (enc : TypeId × Value → H) :
    ReturnsInHanded {} Try.checked os 5 .any (Rows.chainOrderSpec.pre6 enc Try.prog Try.f5 Rows.chainOrderRow.domain false) (Rows.chainOrderSpec.post enc Try.prog Try.f5 false true false false) := by
  refine returnsInHanded_of_change (C := Try.checked) Try.own started (by kernel_rfl) Try.func5
    (ChangeSpec.witness6 (enc := enc) (C := Try.checked) false ⟨#[], #[.slice none 0 0], []⟩ 8 (by kernel_rfl) (by kernel_rfl) (by kernel_rfl) (by kernel_rfl)) ?_
  intro W base args ds gs before hval0 hW _ _
  have hval : ∀ (j : Nat) t v, Try.f5.params[j]? = some t → args[j]? = some v → Value.okWide Try.prog W .any base t v := hval0
  have hW' := hW
  obtain ⟨p, q, hA0, hV, rfl, _, _⟩ := hW
  have hA : DataW.TrodAll enc Try.prog W 0 (fun _ => true) true Try.f5.params.toList args.toList ds p := hA0
  rw [Try.params5] at hA hval
  obtain ⟨v0, d0, rfl, rfl, h0⟩ := trodAll_one hA
  obtain ⟨rfl, rfl⟩ := trodVars_none hV
  have hlt : ∀ x ∈ p, x.block < W.heap.size := fun x hx => by simpa using hW'.lt x (by simpa using hx)
  obtain ⟨a0, r0, b0⟩ := open_puts (hval 0 _ v0 rfl rfl) h0 (fun x hx => by simpa using hlt x (by simp [hx]))
  refine (walk0 ch_k lives_c v0 a0 _ r0 b0).mono fun e W' ⟨he, hb⟩ => ⟨_, he, ?_⟩
  exact law_post Try.laidOut (by decide +kernel) rfl Try.underlying4 rfl hW' rfl hb

theorem holds : Rows.ChainOrderSaid :=
  OpenClaim.holds_of_wide 5 Try.f5 rfl rfl rfl rfl rfl rfl rfl ⟨rfl, rfl, rfl, rfl, rfl⟩ rfl rfl rfl rfl rfl (by kernel_rfl) Try.func5 (by kernel_rfl)
    (of_decide_eq_true (by kernel_rfl)) (by unfold Func.isWrapper; first | (rw [if_pos (by decide +kernel)]; kernel_rfl) | (rw [if_neg (by decide +kernel)]; exact ⟨rfl, rfl⟩))
    (fun os started H enc _ => lifted os started H enc)
end Go.Proofs.Ytigdkflknhdbgaa.L03
