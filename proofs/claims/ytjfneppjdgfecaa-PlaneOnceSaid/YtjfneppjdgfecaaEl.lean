/- Layer 5, the project's: what is left of a rectangle when others are taken away. -/
import Derived.Test.YtjfneppjdgfecaaEk
namespace Go.Proofs.Ytjfneppjdgfecaa
open Go.RowKit
set_option linter.unusedVariables false
attribute [local go_sem] sto_cx

set_option maxHeartbeats 4000000 in
theorem p_cover {r : Re} (hr : okR r) (v : Value) (l : List Re) (w : World) (h : RdRx w w.heap.size v l) (hl : l.length ≤ 6) (hok : ∀ x ∈ l, okR x) :
    Calls Try.prog 17 #[reC r, v] w fun e w' => ∃ v', e = .returned v' ∧ OwnRx w' w.heap.size v' (pCover r l) ∧ Below w.heap.size w w' := by
  have H := Lib.hid h
  obtain ⟨A, c, rfl, hlc, hc, -⟩ := h
  have MN := Lib.hid (fun (x q : Re) (hx : okR x) (hq : okR q) w => p_rminus (Rc.of hx) hx (Rc.of hq) hq w)
  have CA := Lib.hid (pK_all r l)
  have CS := Lib.hid (pK_succ r l)
  have CL := Lib.hid (fun k (h : k ≤ l.length) => Nat.le_trans (pK_len r l k h) (pow4_le (by omega)))
  have CO := Lib.hid (pK_ok hr l)
  have HO := Lib.hid hok
  have C0 := Lib.hid (show pK r l 0 = pMinus r r0 from rfl)
  have MZ := Lib.hid (fun w => p_rminus (Rc.of hr) hr (Rc.of (r := r0) (.inr rfl)) (.inr rfl) w)
  have hre : ∀ r : Re, reC r = .agg #[.complex .f64 (fw r.1.1) (fw r.2.1), .complex .f64 (fw r.1.2) (fw r.2.2)] := fun _ => rfl
  rw [show reC r0 = .agg #[.complex .f64 0 0, .complex .f64 0 0] from by rw [hre]; simp only [r0, fw_zero]] at MZ
  simp only [hre] at MN MZ
  rw [hre]
  clear hre hr hok
  obtain ⟨⟨a, b⟩, ⟨c1, d⟩⟩ := r
  simp only at MZ
  simp only
  generalize hz : pMinus ((a, b), (c1, d)) r0 = zl at *
  generalize pCover ((a, b), (c1, d)) l = res at *
  generalize hck : pK ((a, b), (c1, d)) l = ck at *
  clear hck hz
  have G := Lib.hid (alloc_below w (.cells #[.complex .f64 (fw a) (fw c1), .complex .f64 (fw b) (fw d)] 28))
  go_enter Try.func17, Try.ntmps17
  go_wp2_with fail
  refine (MZ.out _).mono ?_
  rintro e w0 ⟨v0, rfl, ho0, hb0⟩
  have G := Lib.hid (G.out.trans (hb0.mono G.out.size))
  have O := Lib.hid (show OwnRx w0 w.heap.size v0 (ck 0) from by rw [C0.out]; exact ho0.mono (by have := (alloc_below w (.cells #[.complex .f64 (fw a) (fw c1), .complex .f64 (fw b) (fw d)] 28)).size; omega))
  clear ho0 hb0 C0 MZ
  go_wp2_with fail
  go_loopw [5, 16] (fun x i wr => ∃ k : Nat, i = .int .i64 k ∧ k ≤ l.length ∧ OwnRx wr w.heap.size x (ck k) ∧ Below w.heap.size w wr) (fun _ i _ => l.length - (intOf i).toNat)
  case atStart => exact ⟨0, rfl, Nat.zero_le _, O.out, G.out⟩
  case round =>
    obtain ⟨k, rfl, hk, ho, hb⟩ := hrel
    have OL := Lib.hid ho
    have GW := Lib.hid hb
    clear ho hb O G
    by_cases hlt : k < l.length
    · obtain ⟨ba, oa, rfl, hba, e0, e1⟩ := RdRx.here (H.out.below GW.out) k hlt
      have hba2 : ba < wr.heap.size := by have := GW.out.size; omega
      have CS := Lib.hid (CS.out k hlt)
      have hcl := CL.out k hk
      have hqk := Lib.hid (HO.out l[k] (List.getElem_mem _))
      have hlk := Lib.hid (CO.out k)
      generalize hq : l[k] = q at *
      clear hq
      generalize ck k = left at *
      have hst := Lib.hid (pStep_len left q)
      have RL := Lib.hid OL.out.rd
      obtain ⟨A5, c5, e5, -⟩ := RL.out
      subst e5
      have MQ := Lib.hid (fun x hx w => MN.out x q hx hqk.out w)
      have SN := Lib.hid (pStep_snoc left q)
      have SL := Lib.hid (fun i => pStep_len (left.take i) q)
      have SA := Lib.hid (show left.take left.length = left from List.take_length)
      have S0 := Lib.hid (show pStep (left.take 0) q = [] from by simp [pStep])
      have ML := Lib.hid (fun x => pMinus_len x q)
      have MV := Lib.hid (show ∀ x : Re, pMinus x q = pMinus x q from fun _ => rfl)
      generalize hst5 : (fun i => pStep (left.take i) q) = st
      have hsti : ∀ i, pStep (left.take i) q = st i := fun i => by rw [← hst5]
      have TN := Lib.hid (show ∀ i (h : i < left.length), st (i + 1) = st i ++ pMinus left[i] q from fun i h => by rw [← hsti, ← hsti]; exact SN.out i h)
      have TL := Lib.hid (show ∀ i, (st i).length ≤ 4 * (left.take i).length from fun i => by rw [← hsti]; exact SL.out i)
      have TF := Lib.hid (show st left.length = pStep left q from by rw [← hsti, SA.out])
      have T0 := Lib.hid (show st 0 = [] from by rw [← hsti]; exact S0.out)
      clear hsti hst5 SA MV SN SL S0
      obtain ⟨⟨q1, q2⟩, ⟨q3, q4⟩⟩ := q
      simp only at MQ e0 e1
      have BQ := Lib.hid (Box.new wr #[.complex .f64 (fw q1) (fw q3), .complex .f64 (fw q2) (fw q4)] 28 _ rfl)
      have GQ := Lib.hid (alloc_below wr (.cells #[.complex .f64 (fw q1) (fw q3), .complex .f64 (fw q2) (fw q4)] 28))
      have RL := Lib.hid (RL.out.on GQ.out)
      have GW := Lib.hid (GW.out.trans (GQ.out.mono GW.out.size))
      clear OL
      go_wp2_with fail
      generalize wr.alloc (.cells #[.complex .f64 (fw q1) (fw q3), .complex .f64 (fw q2) (fw q4)] 28) = w4 at *
      go_loopw [8, 22] (fun x j wt => ∃ i : Nat, j = .int .i64 i ∧ i ≤ left.length ∧ OwnRx wt w4.heap.size x (st i) ∧ Below w4.heap.size w4 wt) (fun _ j _ => left.length - (intOf j).toNat)
      case atStart => exact ⟨0, rfl, Nat.zero_le _, by rw [T0.out]; exact OwnX.nil _ _, Below.refl _ _⟩
      case round =>
        obtain ⟨i, rfl, hi, ho, hb2⟩ := hrel
        obtain ⟨ws, rfl⟩ : ∃ ws : World, ws = wr := ⟨_, rfl⟩
        have OP := Lib.hid ho
        have GS := Lib.hid hb2
        have BQs := Lib.hid (BQ.out.later hb2)
        clear ho hb2
        by_cases hli : i < left.length
        · obtain ⟨bm, om, rfl, hbm, g0, g1⟩ := RdRx.here (RL.out.below GS.out) i hli
          have hbm2 : bm < ws.heap.size := by have := GS.out.size; omega
          have SS := Lib.hid (TN.out i hli)
          have hpl := TL.out i
          have hpl2 : (left.take i).length ≤ i := List.length_take_le _ _
          have hml := ML.out left[i]
          have hol : (st i).length + (pMinus left[i] ((q1, q2), (q3, q4))).length ≤ 1000000000 := by omega
          have HM := Lib.hid (MQ.out left[i] (hlk.out _ (List.getElem_mem _)))
          clear hpl hpl2 hml
          generalize st i = part at *
          generalize left[i] = x at *
          generalize pMinus x ((q1, q2), (q3, q4)) = mn at *
          obtain ⟨⟨x1, x2⟩, ⟨x3, x4⟩⟩ := x
          simp only at HM g0 g1
          have GX := Lib.hid (alloc_below ws (.cells #[.complex .f64 (fw x1) (fw x3), .complex .f64 (fw x2) (fw x4)] 28))
          have BX := Lib.hid (Box.new ws #[.complex .f64 (fw x1) (fw x3), .complex .f64 (fw x2) (fw x4)] 28 _ rfl)
          have BQx := Lib.hid (BQs.out.later GX.out)
          have OP := Lib.hid (OP.out.on GX.out)
          have GS := Lib.hid (GS.out.trans (GX.out.mono GS.out.size))
          have b0 := BQx.out.cell 0 (.complex .f64 (fw q1) (fw q3)) rfl
          have b1 := BQx.out.cell 1 (.complex .f64 (fw q2) (fw q4)) rfl
          go_wp2_with fail
          refine (HM.out _).mono ?_
          rintro e w5 ⟨v5, rfl, ho5, hb5⟩
          have OP := Lib.hid (OP.out.on hb5)
          have GS := Lib.hid (GS.out.trans (hb5.mono GS.out.size))
          have R5 := Lib.hid ho5.rd
          obtain ⟨A6, c6, e6, -⟩ := R5.out
          subst e6
          clear ho5 hb5 b0 b1 g0 g1
          go_wp2_with (at_builtin; refine wpl_appX_rd rfl (.tmp 26) (.tmp 29) rfl Try.underlying40 rx_info rfl w4.heap.size _ _ _ part mn rfl rfl OP.out R5.out GS.out.size hol (by decide) ?_; intro v7 w7 ho7 hg7 hb7)
          have OZ := Lib.hid (show OwnRx w7 w4.heap.size v7 (st (i + 1)) from by rw [SS.out]; exact ho7)
          have GZ := Lib.hid (GS.out.trans hb7)
          clear ho7 hg7 hb7
          go_wp2_with fail
          go_roundw
          case rel => exact ⟨i + 1, by go_num, by omega, OZ.out, GZ.out⟩
          case measure => simp [intOf]; omega
        · have hke : i = left.length := by omega
          have O1 := Lib.hid (show OwnRx ws w.heap.size u8 (ck (k + 1)) from by rw [CS.out, ← TF.out, ← hke]; exact OP.out.mono GW.out.size)
          have G1 := Lib.hid (GW.out.trans (GS.out.mono GW.out.size))
          clear hke
          go_wp2_with fail
          go_roundw
          case rel => exact ⟨k + 1, by go_num, by omega, O1.out, G1.out⟩
          case measure => simp [intOf]; omega
    · have hke : k = l.length := by omega
      have O1 := Lib.hid (show OwnRx wr w.heap.size u5 res from by rw [← CA.out, ← hke]; exact OL.out)
      clear hke
      go_wp2_with fail
      go_ret
      exact ⟨_, rfl, O1.out, GW.out⟩
end Go.Proofs.Ytjfneppjdgfecaa
