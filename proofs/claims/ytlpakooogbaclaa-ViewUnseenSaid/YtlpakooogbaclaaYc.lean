/- Layer 14: what a path sees, in order, by the project; its last stamp. -/
import Derived.Test.YtlpakooogbaclaaYb
import Derived.Test.YtlpakooogbaclaaGx
import Derived.Test.YtlpakooogbaclaaGn
import Derived.Test.YtlpakooogbaclaaGk
namespace Go.Proofs.Ytlpakooogbaclaa
open Go.RowKit
set_option linter.unusedVariables false

theorem grown_below {w w' : World} {row : Option Nat} {B : Nat} (hg : w.grownBy w' row) (hB : B ≤ w.heap.size) (hr : ∀ k, row = some k → B ≤ k) : Below B w w' :=
  ⟨hg.os, hg.tape, hg.output, hg.size, fun i hi => hg.block i (by omega) (fun e => by have := hr i e.symm; omega)⟩

set_option maxHeartbeats 4000000 in
set_option maxRecDepth 100000 in
theorem p_seenOf (va vp : Value) (l : List Ver) (p : List (Int × Int)) (w : World) (ha : RdVr w w.heap.size va l) (hp : RdX lgL w w.heap.size vp p) (hl : l.length ≤ 1000) (hpl : p.length ≤ 1000) :
    Calls Try.prog 30 #[va, vp] w fun e w' => ∃ v', e = .returned v' ∧ OwnX verL 50 w' w.heap.size v' (l.filter fun v => seesP p v.b v.e) ∧ Below w.heap.size w w' := by
  have HA := Lib.hid ha
  have SE := Lib.hid (fun W (h : Below w.heap.size w W) b e q => p_sees vp p b e q W (hp.on h) hpl)
  obtain ⟨A, ca, rfl, hla, hca, -⟩ := ha
  obtain ⟨Ap, cp, rfl, -⟩ := hp
  obtain ⟨F, hF⟩ : ∃ F : Ver → Bool, (fun v : Ver => seesP p v.b v.e) = F := ⟨_, rfl⟩
  have HFF := Lib.hid (show ∀ v : Ver, F v = seesP p v.b v.e from fun v => by rw [← hF])
  rw [hF]
  clear hF
  go_enter Try.func30, Try.ntmps30
  go_wp2_with fail
  go_loopw [5, 10] (fun x i wr => ∃ k : Nat, i = .int .i64 k ∧ k ≤ l.length ∧ OwnX verL 50 wr w.heap.size x ((l.take k).filter F) ∧ Below w.heap.size w wr) (fun _ i _ => l.length - (intOf i).toNat)
  case atStart => exact ⟨0, rfl, Nat.zero_le _, OwnX.nil _ _, Below.refl _ _⟩
  case round =>
    obtain ⟨k, rfl, hk, ho, hb⟩ := hrel
    rename World => wo
    have hTl := flt_len F l k
    have HTE := Lib.hid (show k = l.length → (l.take k).filter F = l.filter F from fun h => by rw [List.take_of_length_le (by omega)])
    have HTT := Lib.hid (fun h h2 => flt_true (F := F) l k h h2)
    have HTF := Lib.hid (fun h h2 => flt_false (F := F) l k h h2)
    generalize (l.take k).filter F = TK at *
    have O := Lib.hid ho
    have G := Lib.hid hb
    obtain ⟨OA, oc, eo, -⟩ := ho.rd
    subst eo
    clear ho hb
    by_cases hlt : k < l.length
    · have z1 : decide ((k : Int) < (l.length : Int)) = true := by simp; omega
      have hw64 : IntKind.i64.wrap ((k : Int) + 1) = (k : Int) + 1 := by rw [IntKind.wrap_i64]; omega
      obtain ⟨b, o, rfl, hbb, c0, c1, c2, c3, c4, c5, c6, c7⟩ := RdVr.here (HA.out.below G.out) k hlt
      have TT := Lib.hid (HTT.out hlt)
      have TF := Lib.hid (HTF.out hlt)
      have FV := Lib.hid (HFF.out l[k])
      generalize l[k] = q at *
      obtain ⟨kk, bb, ee, ss, ⟨xx, yy⟩, uu, gg⟩ := q
      simp only at c0 c1 c2 c3 c4 c5 c6 c7
      have hal1 := Lib.hid (show TK.length + 1 ≤ 1000000000 from by omega)
      have BN := Lib.hid (Box.new wo #[.string kk, .int .i64 bb, .int .i64 ee, .int .i64 ss, .int .i64 xx, .int .i64 yy, .string uu, .bool gg] 50 _ rfl)
      have GN := Lib.hid (alloc_below wo (.cells #[.string kk, .int .i64 bb, .int .i64 ee, .int .i64 ss, .int .i64 xx, .int .i64 yy, .string uu, .bool gg] 50))
      have HK := Lib.hid hlt
      clear hbb
      go_wp2_with fail
      refine (SE.out _ (G.out.trans (GN.out.mono G.out.size)) bb ee ss).mono ?_
      rintro z w1 ⟨rfl, hb1⟩
      have GY := Lib.hid (GN.out.trans (hb1.mono GN.out.size))
      have G1 := Lib.hid (G.out.trans (GY.out.mono G.out.size))
      have O1 := Lib.hid (O.out.on GY.out)
      have BX := Lib.hid (BN.out.later hb1)
      clear hb1 BN GN GY c0 c1 c2 c3 c4 c5 c6 c7
      have z0 := BX.out.cell 0 _ rfl
      have z1' := BX.out.cell 1 _ rfl
      have z2 := BX.out.cell 2 _ rfl
      have z3 := BX.out.cell 3 _ rfl
      have z4 := BX.out.cell 4 _ rfl
      have z5 := BX.out.cell 5 _ rfl
      have z6 := BX.out.cell 6 _ rfl
      have z7 := BX.out.cell 7 _ rfl
      obtain ⟨res, hres⟩ : ∃ res, seesP p bb ee = res := ⟨_, rfl⟩
      rw [hres]
      have hsz := Lib.hid G1.out.size
      have FV := Lib.hid (FV.out.trans hres)
      clear hres
      cases res
      · have TF := Lib.hid (TF.out FV.out)
        clear z0 z1' z2 z3 z4 z5 z6 z7 hTl
        go_wp2_with fail
        go_roundw
        case rel => exact ⟨k + 1, by go_num, HK.out, by rw [TF.out]; exact O1.out, G1.out⟩
        case measure => have := HK.out; simp [intOf]; omega
      · have TT := Lib.hid (TT.out FV.out)
        clear hTl
        go_wp2_with (at_builtin; refine wpl_appX rfl (.tmp 18) (.tmp 20) rfl Try.underlying22 ver_info rfl w.heap.size _ TK [(⟨kk, bb, ee, ss, (xx, yy), uu, gg⟩ : Ver)] _ _ _ rfl rfl rfl rfl O1.out hsz.out hal1.out (by decide) ?_; intro v5 w5 ho5 hg5 hb5)
        have OZ := Lib.hid (show OwnX verL 50 w5 w.heap.size v5 ((l.take (k + 1)).filter F) from by rw [TT.out]; exact ho5)
        have GZ := Lib.hid (G1.out.trans hb5)
        clear ho5 hg5 hb5
        go_roundw
        case rel => exact ⟨k + 1, by go_num, HK.out, OZ.out, GZ.out⟩
        case measure => have := HK.out; simp [intOf]; omega
    · obtain rfl : k = l.length := by omega
      have z1 : decide ((l.length : Int) < (l.length : Int)) = false := by simp
      have HE := Lib.hid (HTE.out rfl)
      clear hTl
      go_wp2_with fail
      go_ret
      exact ⟨_, rfl, by rw [← HE.out]; exact O.out, G.out⟩

theorem order_seen (l : List Ver) (p : List (Int × Int)) : sortR (ltC (cmpP p)) (l.filter fun v => seesP p v.b v.e) = orderV l p := by
  rw [ltC_cmp]
  unfold orderV
  congr 1
  exact congrArg (fun f => l.filter f) (funext fun v => sees_leg p v.b v.e)

set_option maxHeartbeats 4000000 in
set_option maxRecDepth 100000 in
theorem p_order (w : World) (va vp : Value) (l : List Ver) (p : List (Int × Int)) (ha : RdVr w w.heap.size va l) (hp : RdX lgL w w.heap.size vp p) (hl : l.length ≤ 20) (hpl : p.length ≤ 1000) :
    Calls Try.prog 12 #[va, vp] w fun z w' => ∃ v', z = .returned v' ∧ OwnX verL 50 w' w.heap.size v' (orderV l p) ∧ Below w.heap.size w w' := by
  have hmf : ∀ (fn : Fn) (first cap : Array Value) (w : World), (Instr.makeFunc fn first cap).run Try.prog w = .ok (.func fn first cap) w := fun _ _ _ _ => rfl
  obtain ⟨W0, hW0⟩ : ∃ W0, w.alloc (.cells #[vp] 23) = W0 := ⟨_, rfl⟩
  have hb0 : Below w.heap.size w W0 := by rw [← hW0]; exact alloc_below _ _
  have hbp : Box W0 w.heap.size #[vp] 23 := by rw [← hW0]; exact Box.new _ _ _ _ rfl
  have HP0 := Lib.hid (hp.below hb0)
  have SO := Lib.hid (p_seenOf va vp l p W0 (ha.on hb0) (hp.on hb0) (by omega) hpl)
  have LE := Lib.hid (show (l.filter fun v => seesP p v.b v.e).length ≤ 20 from Nat.le_trans (List.length_filter_le _ _) hl)
  have BP := Lib.hid hbp
  have G0 := Lib.hid hb0
  have ORD := Lib.hid (order_seen l p)
  have AO := Lib.hid (asks_order w.heap.size w.heap.size vp p hpl)
  obtain ⟨A, ca, rfl, -⟩ := ha
  obtain ⟨Ap, cp, rfl, -⟩ := hp
  generalize (l.filter fun v => seesP p v.b v.e) = s at *
  have p0 := hbp.cell 0 _ rfl
  clear hl hpl hbp hb0
  go_enter Try.func12, Try.ntmps12
  go_wp2_with fail
  refine (SO.out).mono ?_
  rintro z w1 ⟨v1, rfl, ho1, hb1⟩
  have HB := Lib.hid BP.out.lt
  have PW := Lib.hid (show ∀ W, w1.grownBy W v1.ownBlock → PathW w.heap.size w.heap.size (.slice Ap p.length cp) p W from fun W hg => by
    have hlt := ho1.lt
    have hs := hb1.size
    have hb := HB.out
    refine ⟨((BP.out.later hb1).keep hg fun e => ?_), (HP0.out.below (hb1.mono (by omega))).below (grown_below hg (by omega) fun k hk => by have := (hlt k hk).1; omega), by have := hg.size; omega⟩
    have := (hlt _ e.symm).1
    omega)
  have ST := Lib.hid (p_sortStable v1 W0.heap.size s 32 #[.pointer (some ⟨w.heap.size, 0, none⟩)] (cmpP p) _ (enters_of Try.func32 (by kernel_rfl) rfl) AO.out w1 PW.out ho1 LE.out)
  have OL := Lib.hid ho1.lt
  have G1 := Lib.hid hb1
  obtain ⟨A1, c1, rfl, -⟩ := ho1.rd
  clear ho1 hb1 SO p0
  go_wp2_with fail
  refine (ST.out).mono ?_
  rintro z w2 ⟨⟨v, rfl⟩, ho2, hg2⟩
  rw [ORD.out] at ho2
  have O2 := Lib.hid (ho2.mono (show w.heap.size ≤ W0.heap.size from Nat.le_of_lt HB.out))
  have G2 := Lib.hid (show Below w.heap.size w w2 from (G0.out.trans (G1.out.mono (Nat.le_of_lt HB.out))).trans (grown_below hg2 (by have := G1.out.size; have := HB.out; omega) fun k hk => by have := (OL.out k hk).1; have := HB.out; omega))
  clear ho2 hg2 ST
  go_wp2_with fail
  go_ret
  exact ⟨_, rfl, O2.out, G2.out⟩

set_option maxHeartbeats 4000000 in
set_option maxRecDepth 100000 in
theorem p_last (w : World) (va vp : Value) (l : List Ver) (p : List (Int × Int)) (ha : RdVr w w.heap.size va l) (hp : RdX lgL w w.heap.size vp p) (hl : l.length ≤ 20) (hpl : p.length ≤ 1000) :
    Calls Try.prog 14 #[va, vp] w fun z w' => z = .returned (stV (lastS (orderV l p))) ∧ Below w.heap.size w w' := by
  obtain ⟨W0, hW0⟩ : ∃ W0, w.alloc (.cells #[.int .i64 0, .int .i64 0, .int .i64 0] 29) = W0 := ⟨_, rfl⟩
  have hb0 : Below w.heap.size w W0 := by rw [← hW0]; exact alloc_below _ _
  have BZ := Lib.hid (show Box W0 w.heap.size #[.int .i64 0, .int .i64 0, .int .i64 0] 29 from by rw [← hW0]; exact Box.new _ _ _ _ rfl)
  have OR := Lib.hid (p_order W0 va vp l p (ha.on hb0) (hp.on hb0) hl hpl)
  have G0 := Lib.hid hb0
  have OL := Lib.hid (Nat.le_trans (order_len l p) hl)
  obtain ⟨A, ca, rfl, -⟩ := ha
  obtain ⟨Ap, cp, rfl, -⟩ := hp
  obtain ⟨o, ho⟩ : ∃ o, orderV l p = o := ⟨_, rfl⟩
  rw [ho] at OR OL ⊢
  clear hl hpl hb0 ho
  go_enter Try.func14, Try.ntmps14
  go_wp2_with fail
  clear hW0
  refine (OR.out).mono ?_
  rintro z w1 ⟨v1, rfl, ho1, hb1⟩
  have O := Lib.hid ho1
  have HW := Lib.hid (show w.heap.size < W0.heap.size from BZ.out.lt)
  have G := Lib.hid (G0.out.trans (hb1.mono (Nat.le_of_lt HW.out)))
  have BX := Lib.hid (BZ.out.later hb1)
  obtain ⟨OA, oc, rfl, -⟩ := ho1.rd
  have z0 := BX.out.cell 0 _ rfl
  have z1 := BX.out.cell 1 _ rfl
  have z2 := BX.out.cell 2 _ rfl
  have f0 := BX.out.frozen 0
  have f1 := BX.out.frozen 1
  have f2 := BX.out.frozen 2
  clear ho1 hb1 OR G0 BZ
  rcases Nat.eq_zero_or_pos o.length with h0 | h0
  · obtain rfl := List.length_eq_zero_iff.1 h0
    have G3 := Lib.hid (((G.out.setCell (p := ⟨w.heap.size, 0, none⟩) (Nat.le_refl _) (.int .i64 0)).setCell (p := ⟨w.heap.size, 1, none⟩) (Nat.le_refl _) (.int .i64 0)).setCell (p := ⟨w.heap.size, 2, none⟩) (Nat.le_refl _) (.int .i64 0))
    go_wp2_with fail
    refine bodyPost_ret (v := .agg #[.int .i64 0, .int .i64 0, .int .i64 0]) ?_ rfl ⟨rfl, G3.out⟩
    rw [results_cell1 rfl]
    go_simp
  · have hn0 : ((o.length : Int) == 0) = false := by rw [beq_eq_false_iff_ne]; omega
    have hn1 : decide ((o.length : Int) = 0) = false := by rw [decide_eq_false_iff_not]; omega
    have hn2 : ¬ o.length = 0 := by omega
    have hn3 : (o.length == 0) = false := by rw [beq_eq_false_iff_ne]; exact hn2
    obtain ⟨m, hm⟩ : ∃ m, o.length = m + 1 := ⟨o.length - 1, by omega⟩
    have hw0 : IntKind.i64.wrap ((o.length : Int) - 1) = (m : Int) := by rw [IntKind.wrap_i64]; have := OL.out; omega
    have hji : (m : Int) < (o.length : Int) := by omega
    obtain ⟨b, oo, rfl, hbb, d0, d1, d2, d3, d4, d5, d6, d7⟩ := RdVr.here O.out.rd m (by omega)
    obtain ⟨q, hq⟩ : ∃ q, (o[m]'(by omega)) = q := ⟨_, rfl⟩
    rw [hq] at d0 d1 d2 d3 d4 d5 d6 d7
    have HE := Lib.hid (show lastS o = (q.b, q.e, q.s) from by unfold lastS; rw [List.getLast?_eq_getElem?, show o.length - 1 = m by omega, List.getElem?_eq_getElem (by omega), hq])
    obtain ⟨kk, bb, ee, ss, ⟨xx, yy⟩, uu, gg⟩ := q
    simp only at HE d0 d1 d2 d3 d4 d5 d6 d7
    have G3 := Lib.hid (((G.out.setCell (p := ⟨w.heap.size, 0, none⟩) (Nat.le_refl _) (.int .i64 bb)).setCell (p := ⟨w.heap.size, 1, none⟩) (Nat.le_refl _) (.int .i64 ee)).setCell (p := ⟨w.heap.size, 2, none⟩) (Nat.le_refl _) (.int .i64 ss))
    clear hq hbb h0 hm
    go_wp2_with fail
    refine bodyPost_ret (v := .agg #[.int .i64 bb, .int .i64 ee, .int .i64 ss]) ?_ rfl ⟨by rw [HE.out]; rfl, G3.out⟩
    rw [results_cell1 rfl]
    go_simp
end Go.Proofs.Ytlpakooogbaclaa
