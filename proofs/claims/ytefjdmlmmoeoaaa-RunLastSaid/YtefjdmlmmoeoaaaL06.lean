/- RunLast: what Last tells is the last one of the key and the branch that is no later: any versions (the first 40 that may be, in order, unlike one another), any key, branch and epoch. No conditions. -/
import Derived.Test.YtefjdmlmmoeoaaaTd
import Derived.Test.YtefjdmlmmoeoaaaWr
import Derived.Test.YtefjdmlmmoeoaaaWl
import Derived.Test.YtefjdmlmmoeoaaaWs
import Derived.Test.YtefjdmlmmoeoaaaWq
import Derived.Test.YtefjdmlmmoeoaaaRR
import Derived.ChangeMaps5
namespace Go.Proofs.Ytefjdmlmmoeoaaa.L06
open Go.RowKit Go.ChangeShapes Go.WideShapes Go.ChangeAt
set_option linter.unusedVariables false

set_option maxHeartbeats 8000000 in
set_option maxRecDepth 100000 in
theorem walk (v : Value) (l : List Ver) (a1 : ByteArray) (a2 a3 : Int) (w : World) (h : RdVr w w.heap.size v l) :
    Calls Try.prog 8 #[v, .string a1, .int .i64 a2, .int .i64 a3] w fun e w' => e = .returned (.bool true) ∧ Below w.heap.size w w' := by
  have HA := Lib.hid h
  obtain ⟨A, ca, rfl, -⟩ := h
  go_enter Try.func8, Try.ntmps8
  go_wp2_with fail
  refine (ref8_block _ l 40 _ HA.out (by omega)).mono ?_
  rintro z w1 ⟨v1, own, rfl, ho1, hlm, hok, hb1⟩
  have O1 := Lib.hid ho1
  have G := Lib.hid hb1
  have hmv := blk_may hok
  have HM := Lib.hid hmv
  have HKY := Lib.hid (show ∀ v ∈ own, v.key.size ≤ 1000000 from fun v hv => Nat.le_trans (may_key (hmv v hv)) (by omega))
  have hl40 : own.length ≤ 40 := by omega
  have BU := Lib.hid (fun va w h => run_build va own w h (by omega) HKY.out)
  rw [if_pos hok, if_pos hok] at BU
  have hle : (encRun own).length ≤ 20000 ∧ 16 ≤ (encRun own).length := by
    have h := encRun_len hok (by omega)
    have h2 : many8 own = (own.length + 7) / 8 := rfl
    refine ⟨by omega, ?_⟩
    unfold encRun
    rw [List.length_append, List.length_append, frm_length, frm_length]
    omega
  obtain ⟨hle, hge⟩ := hle
  have OP := Lib.hid (fun va w h => run_open va (encRun own) w h hle)
  have HYES := Lib.hid (show IsRun (encRun own) own from ⟨hok, rfl⟩)
  have HIN := Lib.hid (fun l (h : IsRun (encRun own) l) => IsRun.inj h HYES.out (by omega))
  have OF := Lib.hid (fun p base w h => run_of p own base a1 w h hok (by omega))
  have LA := Lib.hid (fun p base w h => run_last p own base a1 a2 a3 w h hok (by omega))
  rw [show (own.filter fun v => decide (v.key = a1) && decide (v.b = a2) && decide (v.e ≤ a3)) = lastF own a1 a2 a3 from rfl] at LA
  have LB := Lib.hid (fun p base w h => run_last p own base a1 a2 10000 w h hok (by omega))
  rw [show (own.filter fun v => decide (v.key = a1) && decide (v.b = a2) && decide (v.e ≤ 10000)) = lastF own a1 a2 10000 from rfl] at LB
  have hlf := lastF_of own a1 a2 a3
  have hll := List.length_filter_le (fun v : Ver => decide (v.key = a1)) own
  obtain ⟨L3, hL3⟩ : ∃ L3, lastF own a1 a2 a3 = L3 := ⟨_, rfl⟩
  obtain ⟨L5, hL5⟩ : ∃ L5, lastF own a1 a2 10000 = L5 := ⟨_, rfl⟩
  obtain ⟨gv, hgv⟩ : ∃ gv, lastV L3 = gv := ⟨_, rfl⟩
  obtain ⟨av, hav⟩ : ∃ av, lastV L5 = av := ⟨_, rfl⟩
  obtain ⟨f3, hf3⟩ : ∃ f3, decide (L3 ≠ []) = f3 := ⟨_, rfl⟩
  obtain ⟨f5, hf5⟩ : ∃ f5, decide (L5 ≠ []) = f5 := ⟨_, rfl⟩
  rw [hL3, hgv, hf3] at LA
  rw [hL5, hav, hf5] at LB
  have HG := Lib.hid (show ∀ x ∈ L3, f3 = true ∧ ¬ gv.e < x.e ∧ (gv.e = x.e → ¬ gv.s < x.s) from fun x hx => by
    rw [← hL3] at hx
    obtain ⟨h1, h2, h3⟩ := lastF_ge hok hx
    rw [hL3] at h1 h2 h3
    rw [hgv] at h2 h3
    exact ⟨by rw [← hf3]; simpa using h1, h2, h3⟩)
  have HM2 := Lib.hid (show f3 = true → a3 ≤ 10000 → f5 = true ∧ gv.e ≤ av.e from fun h h2 => by
    rw [← hf3, decide_eq_true_iff, ← hL3] at h
    obtain ⟨k1, k2⟩ := lastF_more hok h2 h
    rw [hL5] at k1 k2
    rw [hL3, hgv, hav] at k2
    exact ⟨by rw [← hf5]; simpa using k1, k2⟩)
  obtain ⟨L1, hL1⟩ : ∃ L1, (own.filter fun v => decide (v.key = a1)) = L1 := ⟨_, rfl⟩
  obtain ⟨F, hF⟩ : ∃ F : Ver → Bool, (fun v : Ver => decide (v.b = a2) && decide (v.e ≤ a3)) = F := ⟨_, rfl⟩
  rw [hL1] at OF hlf hll
  rw [hF, hL3] at hlf
  have HFF := Lib.hid (show ∀ v, F v = (decide (v.b = a2) && decide (v.e ≤ a3)) from fun v => by rw [← hF])
  have HFM := Lib.hid (show ∀ x ∈ L1, F x = true → x ∈ L3 from fun x hx h => by rw [← hlf]; exact List.mem_filter.2 ⟨hx, h⟩)
  have HL := Lib.hid hlf
  have HF3 := Lib.hid hf3
  clear hL1 hF hlf hL3 hL5 hgv hav hf3 hf5
  obtain ⟨gk, gb, ge, gs, ⟨gx, gy⟩, gu, gg⟩ := gv
  obtain ⟨mk, mb, me, ms, ⟨mx, my⟩, mu, mg⟩ := av
  unfold verV at LA LB
  simp only at LA LB HG HM2
  obtain ⟨A1, c1, e1, -⟩ := ho1.rd
  subst e1
  clear ho1 hb1 hmv hlm hok
  generalize encRun own = eb at *
  go_wp2_with fail
  refine (BU.out _ _ O1.out.rd).mono ?_
  rintro z w2 ⟨v2, rfl, ho2, hb2⟩
  have O1 := Lib.hid (O1.out.on hb2)
  have G := Lib.hid (G.out.trans (hb2.mono G.out.size))
  have E2 := Lib.hid ho2
  obtain ⟨A2, c2, e2, -⟩ := own_cap ho2
  subst e2
  clear ho2 hb2
  go_wp2_with fail
  refine (OP.out _ _ E2.out.rd).mono ?_
  rintro z w3 ⟨p, e, rfl, hb3, hor⟩
  have O1 := Lib.hid (O1.out.on hb3)
  have E2 := Lib.hid (E2.out.on hb3)
  have G := Lib.hid (G.out.trans (hb3.mono G.out.size))
  clear hb3
  rcases hor with ⟨l', rfl, hr, -, hat⟩ | ⟨-, -, hno⟩
  case inr => exact absurd HYES.out (hno _)
  obtain rfl : own = l' := (HIN.out _ hr).symm
  have RA := Lib.hid hat
  obtain ⟨nr, vb, rfl, -⟩ := hat
  clear hr
  go_wp2_with fail
  refine (LA.out _ _ _ RA.out).mono ?_
  rintro z w4 ⟨rfl, hb4⟩
  have RA := Lib.hid (RA.out.on hb4)
  have G := Lib.hid (G.out.trans (hb4.mono G.out.size))
  clear hb4
  have G := Lib.hid (G.out.trans ((alloc_below w4 (.cells #[.string gk, .int .i64 gb, .int .i64 ge, .int .i64 gs, .int .i64 gx, .int .i64 gy, .string gu, .bool gg] 42)).mono G.out.size))
  have RA := Lib.hid (RA.out.on (alloc_below w4 (.cells #[.string gk, .int .i64 gb, .int .i64 ge, .int .i64 gs, .int .i64 gx, .int .i64 gy, .string gu, .bool gg] 42)))
  have BX := Lib.hid (Box.new w4 #[.string gk, .int .i64 gb, .int .i64 ge, .int .i64 gs, .int .i64 gx, .int .i64 gy, .string gu, .bool gg] 42 _ rfl)
  go_wp2_with fail
  generalize w4.alloc (.cells #[.string gk, .int .i64 gb, .int .i64 ge, .int .i64 gs, .int .i64 gx, .int .i64 gy, .string gu, .bool gg] 42) = w5 at *
  refine (OF.out _ _ _ RA.out).mono ?_
  rintro z w6 ⟨v6, rfl, ho6, hb6⟩
  have RA := Lib.hid (RA.out.on hb6)
  have BX := Lib.hid (BX.out.later hb6)
  have G := Lib.hid (G.out.trans (hb6.mono G.out.size))
  have O6 := Lib.hid ho6.rd
  obtain ⟨A6, c6, e6, -⟩ := ho6.rd
  subst e6
  clear ho6 hb6
  go_wp2_with fail
  go_loopw [17, 18] (fun x i wr => ∃ k : Nat, i = .int .i64 k ∧ k ≤ L1.length ∧ x = .bool (decide ((L1.take k).filter F ≠ [])) ∧ Below w6.heap.size w6 wr) (fun _ i _ => L1.length - (intOf i).toNat)
  case atStart => exact ⟨0, rfl, Nat.zero_le _, rfl, Below.refl _ _⟩
  case round =>
    obtain ⟨k, rfl, hk, rfl, hb⟩ := hrel
    have GW := Lib.hid hb
    have HTE := Lib.hid (show k = L1.length → (L1.take k).filter F = L1.filter F from fun h => by rw [List.take_of_length_le (by omega)])
    have HTT := Lib.hid (fun h h2 => flt_true (F := F) L1 k h h2)
    have HTF := Lib.hid (fun h h2 => flt_false (F := F) L1 k h h2)
    generalize (L1.take k).filter F = TK at *
    obtain ⟨f, hf⟩ : ∃ f, decide (TK ≠ []) = f := ⟨_, rfl⟩
    rw [hf]
    have HF9 := Lib.hid hf
    clear hb hf
    have BW := Lib.hid (BX.out.later GW.out)
    have g2 := BW.out.cell 2 (.int .i64 ge) rfl
    have g3 := BW.out.cell 3 (.int .i64 gs) rfl
    by_cases hlt : k < L1.length
    · have z1 : decide ((k : Int) < (L1.length : Int)) = true := by simp; omega
      obtain ⟨b, o, eA, hbb, c0, c1, c2, c3, c4, c5, c6', c7⟩ := RdVr.here (O6.out.below GW.out) k hlt
      subst eA
      have TT := Lib.hid (HTT.out hlt)
      have TF := Lib.hid (HTF.out hlt)
      have FV := Lib.hid (HFF.out L1[k])
      have FM := Lib.hid (HFM.out L1[k] (List.getElem_mem hlt))
      have HGX := Lib.hid (HG.out L1[k])
      generalize L1[k] = p at *
      obtain ⟨kk, bb, ee, ss, ⟨xx, yy⟩, uu, gg'⟩ := p
      simp only at c0 c1 c2 c3 c4 c5 c6' c7 FV HGX
      clear hbb c0 c4 c5 c6' c7
      by_cases hall : bb = a2 ∧ ee ≤ a3
      · have q2 : (bb == a2) = true := by simpa using hall.1
        have q3 : decide (ee ≤ a3) = true := by simpa using hall.2
        have hFt := FV.out.trans (show (decide (bb = a2) && decide (ee ≤ a3)) = true from by simp [hall.1, hall.2])
        obtain ⟨hf3, hge, hgs⟩ := HGX.out (FM.out hFt)
        subst hf3
        have R1 := Lib.hid (show Value.bool true = Value.bool (decide ((L1.take (k + 1)).filter F ≠ [])) from by rw [TT.out hFt]; simp)
        have q4 : decide (ge < ee) = false := by rw [decide_eq_false_iff_not]; omega
        by_cases hq : ge = ee
        · have q5 : (ge == ee) = true := by simpa using hq
          have q6 : decide (gs < ss) = false := by rw [decide_eq_false_iff_not]; have := hgs hq; omega
          clear hall hq hge hgs hFt
          go_wp2_with fail
          go_quiet (fail)
          go_wp2_with fail
          go_roundw
          case rel => exact ⟨k + 1, by go_num, hlt, R1.out, GW.out.drewN nq⟩
          case measure => simp [intOf]; omega
        · have q5 : (ge == ee) = false := by simpa using hq
          clear hall hq hge hgs hFt
          go_wp2_with fail
          go_quiet (fail)
          go_wp2_with fail
          go_roundw
          case rel => exact ⟨k + 1, by go_num, hlt, R1.out, GW.out.drewN nq⟩
          case measure => simp [intOf]; omega
      · have R1 := Lib.hid (show Value.bool f = Value.bool (decide ((L1.take (k + 1)).filter F ≠ [])) from by rw [TF.out (by rw [FV.out]; simp only [Bool.and_eq_false_iff, decide_eq_false_iff_not]; exact Decidable.not_and_iff_or_not.1 hall), HF9.out])
        by_cases hq2 : bb = a2
        · have q2 : (bb == a2) = true := by simpa using hq2
          have q3 : decide (ee ≤ a3) = false := by rw [decide_eq_false_iff_not]; exact fun h => hall ⟨hq2, h⟩
          clear hall hq2
          go_wp2_with fail
          go_roundw
          case rel => exact ⟨k + 1, by go_num, hlt, R1.out, GW.out⟩
          case measure => simp [intOf]; omega
        · have q2 : (bb == a2) = false := by simpa using hq2
          clear hall hq2
          go_wp2_with fail
          go_roundw
          case rel => exact ⟨k + 1, by go_num, hlt, R1.out, GW.out⟩
          case measure => simp [intOf]; omega
    · have hke : k = L1.length := by omega
      have z1 : decide ((k : Int) < (L1.length : Int)) = false := by rw [decide_eq_false_iff_not]; omega
      have he : f = f3 := by rw [← HF9.out, HTE.out hke, HL.out, HF3.out]
      subst he
      clear hke g2 g3
      have q1 : (f == f) = true := by simp
      go_wp2_with fail
      refine (LB.out _ _ _ (RA.out.on GW.out)).mono ?_
      rintro z w8 ⟨rfl, hb8⟩
      have BX := Lib.hid (BW.out.later hb8)
      have G := Lib.hid ((G.out.trans (GW.out.mono G.out.size)).trans (hb8.mono (G.out.trans (GW.out.mono G.out.size)).size))
      clear hb8
      have G := Lib.hid (G.out.trans ((alloc_below w8 (.cells #[.string mk, .int .i64 mb, .int .i64 me, .int .i64 ms, .int .i64 mx, .int .i64 my, .string mu, .bool mg] 42)).mono G.out.size))
      have BX := Lib.hid (BX.out.alloc (.cells #[.string mk, .int .i64 mb, .int .i64 me, .int .i64 ms, .int .i64 mx, .int .i64 my, .string mu, .bool mg] 42))
      have BY := Lib.hid (Box.new w8 #[.string mk, .int .i64 mb, .int .i64 me, .int .i64 ms, .int .i64 mx, .int .i64 my, .string mu, .bool mg] 42 _ rfl)
      have g2 := BX.out.cell 2 (.int .i64 ge) rfl
      have y2 := BY.out.cell 2 (.int .i64 me) rfl
      cases f
      · go_wp2_with fail
        refine (lives_any9 _).mono ?_
        rintro z w8 ⟨rfl, hb⟩
        have G := Lib.hid (G.out.trans (hb.mono G.out.size))
        clear hb
        go_wp2_with fail
        go_ret
        exact ⟨rfl, G.out⟩
      · by_cases hep : 10000 < a3
        · have q7 : decide (10000 < a3) = true := by simpa using hep
          clear hep
          go_wp2_with fail
          refine (lives_any9 _).mono ?_
          rintro z w8 ⟨rfl, hb⟩
          have G := Lib.hid (G.out.trans (hb.mono G.out.size))
          clear hb
          go_wp2_with fail
          go_ret
          exact ⟨rfl, G.out⟩
        · have q7 : decide (10000 < a3) = false := by simpa using hep
          obtain ⟨hf5, hae⟩ := HM2.out rfl (by omega)
          subst hf5
          have q8 : decide (ge ≤ me) = true := by simpa using hae
          clear hep hae
          go_wp2_with fail
          refine (lives_any9 _).mono ?_
          rintro z w8 ⟨rfl, hb⟩
          have G := Lib.hid (G.out.trans (hb.mono G.out.size))
          clear hb
          go_wp2_with fail
          go_ret
          exact ⟨rfl, G.out⟩
-- END
set_option maxRecDepth 100000 in
theorem lifted (os : Os) (started : os.Started) (H : Type) (enc : TypeId × Value → H) :
    ReturnsInHanded {} Try.checked os 8 .any (Rows.runLastSpec.pre6 enc Try.prog Try.f8 Rows.runLastRow.domain false) (Rows.runLastSpec.post enc Try.prog Try.f8 false true false false) := by
  refine returnsInHanded_of_change (C := Try.checked) Try.own started (by kernel_rfl) Try.func8
    (ChangeSpec.witness6 (enc := enc) (C := Try.checked) false ⟨#[], #[.slice none 0 0, .string ⟨#[]⟩, .int .i64 0, .int .i64 0], []⟩ 8 (by kernel_rfl) (by kernel_rfl) (by kernel_rfl) (by kernel_rfl)) ?_
  intro W base args ds gs before hval0 hW _ _
  have hval : ∀ (j : Nat) t v, Try.f8.params[j]? = some t → args[j]? = some v → Value.okWide Try.prog W .any base t v := hval0
  have hW' := hW
  obtain ⟨p, q, hA0, hV, rfl, _, _⟩ := hW
  have hA : DataW.TrodAll enc Try.prog W 0 (fun _ => true) true Try.f8.params.toList args.toList ds p := hA0
  rw [Try.params8] at hA hval
  obtain ⟨v0, v1, v2, v3, d0, d1, d2, d3, p0, p1, p2, p3, rfl, rfl, rfl, h0, h1, h2, h3⟩ := trodAll_four hA
  obtain ⟨rfl, rfl⟩ := trodVars_none hV
  have hlt := fun x hx => hW'.lt x hx
  obtain ⟨a0, r0, b0⟩ := open_vers (hval 0 _ v0 rfl rfl) h0 (fun x hx => by simpa using hlt x (by simp [hx]))
  obtain ⟨a1, rfl, rfl, rfl, w1⟩ := ChangeMaps.open_string Try.underlying9 (hval 1 _ v1 rfl rfl) h1
  simp only [maxLen] at w1
  obtain ⟨a2, rfl, rfl, rfl, w2⟩ := open_int Try.underlying3 (hval 2 _ v2 rfl rfl) h2
  have w2 := wf_int w2
  obtain ⟨a3, rfl, rfl, rfl, w3⟩ := open_int Try.underlying3 (hval 3 _ v3 rfl rfl) h3
  have w3 := wf_int w3
  refine (walk _ _ _ _ _ _ r0).mono fun e W' ⟨he, hb⟩ => ⟨_, he, ?_⟩
  exact law_post Try.laidOut (by decide +kernel) rfl Try.underlying4 rfl hW' rfl hb

theorem holds : Rows.RunLastSaid :=
  OpenClaim.holds_of_wide 8 Try.f8 rfl rfl rfl rfl rfl rfl rfl ⟨rfl, rfl, rfl, rfl, rfl⟩ rfl rfl rfl rfl rfl (by kernel_rfl) Try.func8 (by kernel_rfl)
    (of_decide_eq_true (by kernel_rfl)) (by unfold Func.isWrapper; first | (rw [if_pos (by decide +kernel)]; kernel_rfl) | (rw [if_neg (by decide +kernel)]; exact ⟨rfl, rfl⟩))
    (fun os started H enc _ => lifted os started H enc)
end Go.Proofs.Ytefjdmlmmoeoaaa.L06
