/- Layer 14: Last, by the document; what the laws cut. -/
import Derived.Test.YtlpakooogbaclaaGg
namespace Go.Proofs.Ytlpakooogbaclaa
open Go.RowKit
set_option linter.unusedVariables false

def lastS (o : List Ver) : Int × Int × Int := match o.getLast? with | some v => (v.b, v.e, v.s) | none => (0, 0, 0)
def stV (s : Int × Int × Int) : Value := .agg #[.int .i64 s.1, .int .i64 s.2.1, .int .i64 s.2.2]
set_option maxHeartbeats 4000000 in
set_option maxRecDepth 100000 in
theorem ref14_last (va vp : Value) (l : List Ver) (p : List (Int × Int)) (w : World) (B Bp : Nat) (ha : RdVr w B va l) (hB : B ≤ w.heap.size) (hp : RdX lgL w Bp vp p) (hBp : Bp ≤ w.heap.size) (hl : l.length ≤ 1000) (hpl : p.length ≤ 1000) :
    Calls Try.prog 15 #[va, vp] w fun z w' => z = .returned (stV (lastS (orderV l p))) ∧ Below w.heap.size w w' := by
  obtain ⟨W0, hW0⟩ : ∃ W0, w.alloc (.cells #[.int .i64 0, .int .i64 0, .int .i64 0] 29) = W0 := ⟨_, rfl⟩
  have hb0 : Below w.heap.size w W0 := by rw [← hW0]; exact alloc_below _ _
  have BZ := Lib.hid (show Box W0 w.heap.size #[.int .i64 0, .int .i64 0, .int .i64 0] 29 from by rw [← hW0]; exact Box.new _ _ _ _ rfl)
  have OR := Lib.hid (ref14_order va vp l p W0 B Bp (ha.below (hb0.mono hB)) (Nat.le_trans hB hb0.size) (hp.below (hb0.mono hBp)) (Nat.le_trans hBp hb0.size) hl hpl)
  have G0 := Lib.hid hb0
  have OL := Lib.hid (Nat.le_trans (order_len l p) hl)
  obtain ⟨A, ca, rfl, -⟩ := ha
  obtain ⟨Ap, cp, rfl, -⟩ := hp
  obtain ⟨o, ho⟩ : ∃ o, orderV l p = o := ⟨_, rfl⟩
  rw [ho] at OR OL ⊢
  clear hB hBp hl hpl hb0 ho
  go_enter Try.func15, Try.ntmps15
  go_wp2_with fail
  clear hW0
  refine (OR.out).mono ?_
  rintro z w1 ⟨v1, rfl, ho1, hb1⟩
  have O := Lib.hid ho1
  have HW := Lib.hid (show w.heap.size < W0.heap.size from BZ.out.lt)
  have G := Lib.hid (G0.out.trans (hb1.mono (Nat.le_of_lt HW.out)))
  have BX := Lib.hid (BZ.out.later hb1)
  obtain ⟨OA, oc, rfl, -⟩ := ho1.rd
  have z0 := BX.out.cell 0 _ rfl
  have z1 := BX.out.cell 1 _ rfl
  have z2 := BX.out.cell 2 _ rfl
  have f0 := BX.out.frozen 0
  have f1 := BX.out.frozen 1
  have f2 := BX.out.frozen 2
  clear ho1 hb1 OR G0 BZ
  rcases Nat.eq_zero_or_pos o.length with h0 | h0
  · obtain rfl := List.length_eq_zero_iff.1 h0
    have G3 := Lib.hid (((G.out.setCell (p := ⟨w.heap.size, 0, none⟩) (Nat.le_refl _) (.int .i64 0)).setCell (p := ⟨w.heap.size, 1, none⟩) (Nat.le_refl _) (.int .i64 0)).setCell (p := ⟨w.heap.size, 2, none⟩) (Nat.le_refl _) (.int .i64 0))
    go_wp2_with fail
    refine bodyPost_ret (v := .agg #[.int .i64 0, .int .i64 0, .int .i64 0]) ?_ rfl ⟨rfl, G3.out⟩
    rw [results_cell1 rfl]
    go_simp
  · have hn0 : ((o.length : Int) == 0) = false := by rw [beq_eq_false_iff_ne]; omega
    have hn1 : decide ((o.length : Int) = 0) = false := by rw [decide_eq_false_iff_not]; omega
    have hn2 : ¬ o.length = 0 := by omega
    have hn3 : (o.length == 0) = false := by rw [beq_eq_false_iff_ne]; exact hn2
    obtain ⟨m, hm⟩ : ∃ m, o.length = m + 1 := ⟨o.length - 1, by omega⟩
    have hw0 : IntKind.i64.wrap ((o.length : Int) - 1) = (m : Int) := by rw [IntKind.wrap_i64]; have := OL.out; omega
    have hji : (m : Int) < (o.length : Int) := by omega
    obtain ⟨b, oo, rfl, hbb, d0, d1, d2, d3, d4, d5, d6, d7⟩ := RdVr.here O.out.rd m (by omega)
    obtain ⟨q, hq⟩ : ∃ q, (o[m]'(by omega)) = q := ⟨_, rfl⟩
    rw [hq] at d0 d1 d2 d3 d4 d5 d6 d7
    have HE := Lib.hid (show lastS o = (q.b, q.e, q.s) from by unfold lastS; rw [List.getLast?_eq_getElem?, show o.length - 1 = m by omega, List.getElem?_eq_getElem (by omega), hq])
    obtain ⟨kk, bb, ee, ss, ⟨xx, yy⟩, uu, gg⟩ := q
    simp only at HE d0 d1 d2 d3 d4 d5 d6 d7
    have G3 := Lib.hid (((G.out.setCell (p := ⟨w.heap.size, 0, none⟩) (Nat.le_refl _) (.int .i64 bb)).setCell (p := ⟨w.heap.size, 1, none⟩) (Nat.le_refl _) (.int .i64 ee)).setCell (p := ⟨w.heap.size, 2, none⟩) (Nat.le_refl _) (.int .i64 ss))
    clear hq hbb h0 hm
    go_wp2_with fail
    refine bodyPost_ret (v := .agg #[.int .i64 bb, .int .i64 ee, .int .i64 ss]) ?_ rfl ⟨by rw [HE.out]; rfl, G3.out⟩
    rw [results_cell1 rfl]
    go_simp
def cutVs (l : List Ver) : List Ver := (l.take 20).map cutV
def cutG (p : List (Int × Int)) : List (Int × Int) := p.take 5
set_option maxHeartbeats 4000000 in
set_option maxRecDepth 100000 in
theorem law14_cut (va vp : Value) (l : List Ver) (p : List (Int × Int)) (w : World) (ha : RdVr w w.heap.size va l) (hp : RdX lgL w w.heap.size vp p) :
    Calls Try.prog 10 #[va, vp] w fun z w' => ∃ v' q', z = .returned (.tuple #[v', q']) ∧ OwnX verL 50 w' w.heap.size v' (cutVs l) ∧ RdX lgL w' w.heap.size q' (cutG p) ∧ Below w.heap.size w w' := by
  have HA := Lib.hid ha
  have HP := Lib.hid hp
  obtain ⟨A, ca, rfl, hla, hca, -⟩ := ha
  obtain ⟨Ap, cp, rfl, hlp, hcp, -⟩ := hp
  go_enter Try.func10, Try.ntmps10
  go_wp2_with fail
  go_loopw [6, 7] (fun x i wr => ∃ k : Nat, i = .int .i64 k ∧ k ≤ l.length ∧ k ≤ 20 ∧ OwnX verL 50 wr w.heap.size x ((l.take k).map cutV) ∧ Below w.heap.size w wr) (fun _ i _ => l.length - (intOf i).toNat)
  case atStart => exact ⟨0, rfl, Nat.zero_le _, by omega, OwnX.nil _ _, Below.refl _ _⟩
  case round =>
    obtain ⟨k, rfl, hk, hk2, hon, hbw⟩ := hrel
    rename World => wo
    have O := Lib.hid hon
    have G := Lib.hid hbw
    clear hon hbw
    by_cases hlt : k < l.length ∧ k < 20
    · obtain ⟨h1, h2⟩ := hlt
      have zl : decide ((k : Int) < (l.length : Int)) = true := by rw [decide_eq_true_eq]; omega
      have z2 : decide ((k : Int) < 20) = true := by rw [decide_eq_true_eq]; omega
      have hki : (k : Int) < (l.length : Int) := by omega
      have hw64 : IntKind.i64.wrap ((k : Int) + 1) = (k : Int) + 1 := by rw [IntKind.wrap_i64]; omega
      have TS := Lib.hid (show (l.take (k + 1)).map cutV = (l.take k).map cutV ++ [cutV l[k]] from by rw [List.take_succ_eq_append_getElem h1, List.map_append]; rfl)
      obtain ⟨b, oo, rfl, hbb, d0, d1, d2, d3, d4, d5, d6, d7⟩ := RdVr.here (HA.out.below G.out) k h1
      obtain ⟨q, hq⟩ : ∃ q, (l[k]'h1) = q := ⟨_, rfl⟩
      rw [hq] at TS d0 d1 d2 d3 d4 d5 d6 d7
      have CU := Lib.hid (fun w => ref6_cut q w)
      have HAC := Lib.hid (show ((l.take k).map cutV).length = k from by rw [List.length_map, List.length_take]; omega)
      obtain ⟨acc, hacc⟩ : ∃ acc, (l.take k).map cutV = acc := ⟨_, rfl⟩
      rw [hacc] at O HAC TS
      obtain ⟨r, hr⟩ : ∃ r, cutV q = r := ⟨_, rfl⟩
      rw [hr] at CU TS
      obtain ⟨kk, bb, ee, ss, ⟨xx, yy⟩, uu, gg⟩ := q
      obtain ⟨rk, rb, re, rs, ⟨rx, ry⟩, ru, rg⟩ := r
      unfold verV at CU
      simp only at CU d0 d1 d2 d3 d4 d5 d6 d7
      have K1 := Lib.hid h1
      have K2 := Lib.hid h2
      clear hq hbb hacc hr h1 h2
      go_wp2_with fail
      refine (CU.out _).mono ?_
      rintro z w3 ⟨rfl, hb3⟩
      have G3 := Lib.hid (G.out.trans (hb3.mono G.out.size))
      have O3 := Lib.hid (O.out.on hb3)
      clear hb3 d0 d1 d2 d3 d4 d5 d6 d7
      go_wp2_with (at_builtin; refine wpl_appX rfl (.tmp 18) (.tmp 24) rfl Try.underlying22 ver_info rfl w.heap.size _ acc [(⟨rk, rb, re, rs, (rx, ry), ru, rg⟩ : Ver)] _ _ _ rfl rfl rfl rfl O3.out G3.out.size (by rw [List.length_singleton]; have := HAC.out; have := K2.out; omega) (by decide) ?_; intro v5 w5 ho5 hg5 hb5)
      go_roundw
      case rel => exact ⟨k + 1, by go_num, by have := K1.out; omega, by have := K2.out; omega, by rw [TS.out]; exact ho5, G3.out.trans hb5⟩
      case measure => have := K1.out; simp [intOf]; omega
    · have HE := Lib.hid (show (l.take k).map cutV = cutVs l from by
        unfold cutVs
        rcases Nat.lt_or_ge k 20 with h | h
        · have : k = l.length := by
            rcases Nat.lt_or_ge k l.length with h2 | h2
            · exact absurd ⟨h2, h⟩ hlt
            · omega
          rw [this, List.take_length, List.take_of_length_le (by omega)]
        · rw [show k = 20 by omega])
      rw [HE.out] at O
      have hc : (decide ((k : Int) < (l.length : Int)) = false ∧ decide (k < l.length) = false) ∨ (decide ((k : Int) < (l.length : Int)) = true ∧ decide (k < l.length) = true ∧ decide ((k : Int) < 20) = false) := by
        rcases Nat.lt_or_ge k l.length with h2 | h2
        · right
          exact ⟨by rw [decide_eq_true_eq]; omega, by rw [decide_eq_true_eq]; exact h2, by rw [decide_eq_false_iff_not]; intro h3; exact hlt ⟨h2, by omega⟩⟩
        · left
          exact ⟨by rw [decide_eq_false_iff_not]; omega, by rw [decide_eq_false_iff_not]; omega⟩
      clear hlt
      have hw5 : ((5 : Int)) = ((5 : Nat) : Int) := rfl
      by_cases h5 : 5 < p.length
      · have z5 : decide ((5 : Int) < (p.length : Int)) = true := by rw [decide_eq_true_eq]; omega
        obtain ⟨A1, c1', h1, r1⟩ := slX_head (HP.out.below G.out) Try.underlying23 (fun w => by kernel_rfl) 5 (5 : Int) rfl (by omega)
        have RP := Lib.hid r1
        clear r1 h5 hw5
        rcases hc with ⟨zl, zn⟩ | ⟨zl, zn, z2⟩
        all_goals
          go_wp2_with fail
          go_ret2
          exact ⟨_, _, rfl, O.out, RP.out, G.out⟩
      · have z5 : decide ((5 : Int) < (p.length : Int)) = false := by rw [decide_eq_false_iff_not]; omega
        have RP := Lib.hid (show RdX lgL wo w.heap.size (.slice Ap p.length cp) (cutG p) from by unfold cutG; rw [List.take_of_length_le (by omega)]; exact HP.out.below G.out)
        clear h5 hw5
        rcases hc with ⟨zl, zn⟩ | ⟨zl, zn, z2⟩
        all_goals
          go_wp2_with fail
          go_ret2
          exact ⟨_, _, rfl, O.out, RP.out, G.out⟩
end Go.Proofs.Ytlpakooogbaclaa
