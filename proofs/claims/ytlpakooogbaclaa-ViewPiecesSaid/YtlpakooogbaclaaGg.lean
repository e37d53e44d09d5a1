/- Layer 14: Find and Get, by the document. -/
import Derived.Test.YtlpakooogbaclaaGf
import Derived.Test.YtlpakooogbaclaaSa
namespace Go.Proofs.Ytlpakooogbaclaa
open Go.RowKit
set_option linter.unusedVariables false

def zV : Ver := ⟨⟨#[]⟩, 0, 0, 0, (0, 0), ⟨#[]⟩, false⟩
def findO (o : List Ver) (t : Int) : Option Ver := o.reverse.find? fun v => hasB v.sp t
theorem find_last {o : List Ver} {t : Int} {j : Nat} (hj : j < o.length) : findO (o.take (j + 1)) t = if hasB o[j].sp t = true then some o[j] else findO (o.take j) t := by
  unfold findO
  rw [List.take_succ_eq_append_getElem hj, List.reverse_append, List.reverse_singleton, List.singleton_append, List.find?_cons]
  split <;> simp_all
theorem get_find (o : List Ver) (t : Int) : getV o t = match findO o t with | some v => tellV v | none => (⟨#[]⟩, false) := rfl
def findV (o : List Ver) (t : Int) : Ver := match findO o t with | some v => v | none => zV
theorem box_putF {w : World} {n : Nat} {t : TypeId} {a0 a1 a2 a3 a4 a5 a6 a7 b0 b1 b2 b3 b4 b5 b6 b7 : Value} (h : Box w n #[a0, a1, a2, a3, a4, a5, a6, a7] t) : Box ((((((((w.setCell ⟨n, 0, none⟩ b0).setCell ⟨n, 1, none⟩ b1).setCell ⟨n, 2, none⟩ b2).setCell ⟨n, 3, none⟩ b3).setCell ⟨n, 4, none⟩ b4).setCell ⟨n, 5, none⟩ b5).setCell ⟨n, 6, none⟩ b6).setCell ⟨n, 7, none⟩ b7) n #[b0, b1, b2, b3, b4, b5, b6, b7] t := by
  have h8 := ((((((((h.set 0 b0).set 1 b1).set 2 b2).set 3 b3).set 4 b4).set 5 b5).set 6 b6).set 7 b7)
  simp only [List.setIfInBounds_toArray, List.set_cons_succ, List.set_cons_zero] at h8
  exact h8
theorem below_putF {w0 w : World} {B n : Nat} (b0 b1 b2 b3 b4 b5 b6 b7 : Value) (h : Below B w0 w) (hn : B ≤ n) : Below B w0 ((((((((w.setCell ⟨n, 0, none⟩ b0).setCell ⟨n, 1, none⟩ b1).setCell ⟨n, 2, none⟩ b2).setCell ⟨n, 3, none⟩ b3).setCell ⟨n, 4, none⟩ b4).setCell ⟨n, 5, none⟩ b5).setCell ⟨n, 6, none⟩ b6).setCell ⟨n, 7, none⟩ b7) := ((((((((h.setCell (p := ⟨n, 0, none⟩) hn b0).setCell (p := ⟨n, 1, none⟩) hn b1).setCell (p := ⟨n, 2, none⟩) hn b2).setCell (p := ⟨n, 3, none⟩) hn b3).setCell (p := ⟨n, 4, none⟩) hn b4).setCell (p := ⟨n, 5, none⟩) hn b5).setCell (p := ⟨n, 6, none⟩) hn b6).setCell (p := ⟨n, 7, none⟩) hn b7)
set_option maxHeartbeats 4000000 in
set_option maxRecDepth 100000 in
theorem ref14_find (va vp : Value) (l : List Ver) (p : List (Int × Int)) (t : Int) (w : World) (B Bp : Nat) (ha : RdVr w B va l) (hB : B ≤ w.heap.size) (hp : RdX lgL w Bp vp p) (hBp : Bp ≤ w.heap.size) (hl : l.length ≤ 1000) (hpl : p.length ≤ 1000) :
    Calls Try.prog 45 #[va, vp, .int .i64 t] w fun z w' => z = .returned (.tuple #[verV (findV (orderV l p) t), .bool (findO (orderV l p) t).isSome]) ∧ Below w.heap.size w w' := by
  obtain ⟨W0, hW0⟩ : ∃ W0, w.alloc (.cells #[.string ⟨#[]⟩, .int .i64 0, .int .i64 0, .int .i64 0, .int .i64 0, .int .i64 0, .string ⟨#[]⟩, .bool false] 50) = W0 := ⟨_, rfl⟩
  have hb0 : Below w.heap.size w W0 := by rw [← hW0]; exact alloc_below _ _
  have BZ := Lib.hid (show Box W0 w.heap.size #[.string ⟨#[]⟩, .int .i64 0, .int .i64 0, .int .i64 0, .int .i64 0, .int .i64 0, .string ⟨#[]⟩, .bool false] 50 from by rw [← hW0]; exact Box.new _ _ _ _ rfl)
  have OR := Lib.hid (ref14_order va vp l p W0 B Bp (ha.below (hb0.mono hB)) (Nat.le_trans hB hb0.size) (hp.below (hb0.mono hBp)) (Nat.le_trans hBp hb0.size) hl hpl)
  have G0 := Lib.hid hb0
  have OL := Lib.hid (Nat.le_trans (order_len l p) hl)
  obtain ⟨A, ca, rfl, -⟩ := ha
  obtain ⟨Ap, cp, rfl, -⟩ := hp
  obtain ⟨o, ho⟩ : ∃ o, orderV l p = o := ⟨_, rfl⟩
  rw [ho] at OR OL ⊢
  clear hB hBp hl hpl hb0 ho
  go_enter Try.func45, Try.ntmps45
  go_wp2_with fail
  clear hW0
  refine (OR.out).mono ?_
  rintro z w1 ⟨v1, rfl, ho1, hb1⟩
  have O := Lib.hid ho1
  have HW := Lib.hid (show w.heap.size < W0.heap.size from BZ.out.lt)
  have G := Lib.hid (G0.out.trans (hb1.mono (Nat.le_of_lt HW.out)))
  have BX := Lib.hid (BZ.out.later hb1)
  obtain ⟨OA, oc, rfl, -⟩ := ho1.rd
  have hw0 : IntKind.i64.wrap ((o.length : Int) - 1) = (o.length : Int) - 1 := by rw [IntKind.wrap_i64]; have := OL.out; omega
  have F0 := Lib.hid (show findO o t = findO (o.take o.length) t from by rw [List.take_length])
  clear ho1 hb1 OR G0 BZ
  go_wp2_with fail
  clear hw0
  go_loopw [9] (fun i wr => ∃ j : Nat, i = .int .i64 ((j : Int) - 1) ∧ j ≤ o.length ∧ findO o t = findO (o.take j) t ∧ Box wr w.heap.size #[.string ⟨#[]⟩, .int .i64 0, .int .i64 0, .int .i64 0, .int .i64 0, .int .i64 0, .string ⟨#[]⟩, .bool false] 50 ∧ OwnX verL 50 wr W0.heap.size (.slice OA o.length oc) o ∧ Below w.heap.size w wr) (fun i _ => (intOf i + 1).toNat)
  case atStart => exact ⟨o.length, rfl, Nat.le_refl _, F0.out, BX.out, O.out, G.out⟩
  case round =>
    obtain ⟨j1, rfl, hj1, hf, hbx, hon, hbw⟩ := hrel
    rename World => wo
    have FJ := Lib.hid hf
    have BY := Lib.hid hbx
    have ON := Lib.hid hon
    have GW := Lib.hid hbw
    clear hf hbx hon hbw F0 O BX G
    cases j1 with
    | zero =>
      have zl : decide ((0 : Int) ≤ ((0 : Nat) : Int) - 1) = false := by decide
      have FN := Lib.hid (show findO o t = none from FJ.out)
      have z0 := BY.out.cell 0 _ rfl
      have z1 := BY.out.cell 1 _ rfl
      have z2 := BY.out.cell 2 _ rfl
      have z3 := BY.out.cell 3 _ rfl
      have z4 := BY.out.cell 4 _ rfl
      have z5 := BY.out.cell 5 _ rfl
      have z6 := BY.out.cell 6 _ rfl
      have z7 := BY.out.cell 7 _ rfl
      have f0 := BY.out.frozen 0
      have f1 := BY.out.frozen 1
      have f2 := BY.out.frozen 2
      have f3 := BY.out.frozen 3
      have f4 := BY.out.frozen 4
      have f5 := BY.out.frozen 5
      have f6 := BY.out.frozen 6
      have f7 := BY.out.frozen 7
      have G8 := Lib.hid (below_putF (.string ⟨#[]⟩) (.int .i64 0) (.int .i64 0) (.int .i64 0) (.int .i64 0) (.int .i64 0) (.string ⟨#[]⟩) (.bool false) GW.out (Nat.le_refl _))
      go_wp2_with fail
      refine bodyPost_ret (v := .tuple #[.agg #[.string ⟨#[]⟩, .int .i64 0, .int .i64 0, .int .i64 0, .int .i64 0, .int .i64 0, .string ⟨#[]⟩, .bool false], .bool false]) ?_ rfl ⟨by unfold findV; rw [FN.out]; rfl, G8.out⟩
      rw [results_cell_tmp rfl]
      go_simp
    | succ j =>
      have e1 : ((j + 1 : Nat) : Int) - 1 = (j : Int) := by omega
      rw [e1]
      have zl : decide ((0 : Int) ≤ (j : Int)) = true := by rw [decide_eq_true_eq]; omega
      have hjo : j < o.length := hj1
      have hji : (j : Int) < (o.length : Int) := by omega
      have hwj : IntKind.i64.wrap ((j : Int) - 1) = (j : Int) - 1 := by rw [IntKind.wrap_i64]; have := OL.out; omega
      have FL := Lib.hid (find_last (t := t) hjo)
      obtain ⟨b, oo, rfl, hbb, d0, d1, d2, d3, d4, d5, d6, d7⟩ := RdVr.here ON.out.rd j hjo
      obtain ⟨q, hq⟩ : ∃ q, (o[j]'hjo) = q := ⟨_, rfl⟩
      rw [hq] at FL d0 d1 d2 d3 d4 d5 d6 d7
      obtain ⟨kk, bb, ee, ss, ⟨xx, yy⟩, uu, gg⟩ := q
      have HS := Lib.hid (fun w => ref_has (xx, yy) t w)
      unfold spV at HS
      simp only at HS d0 d1 d2 d3 d4 d5 d6 d7 FL
      obtain ⟨hb, hhb⟩ : ∃ hb, hasB (xx, yy) t = hb := ⟨_, rfl⟩
      rw [hhb] at HS FL
      have HJ1 := Lib.hid hj1
      clear hq hbb e1 hhb
      cases hb
      · have FN := Lib.hid (show findO o t = findO (o.take j) t from by rw [FJ.out, FL.out]; rfl)
        go_wp2_with fail
        refine (HS.out _).mono ?_
        rintro z w3 ⟨rfl, hb3⟩
        have G3 := Lib.hid (GW.out.trans (hb3.mono GW.out.size))
        have B3 := Lib.hid (BY.out.later hb3)
        have O3 := Lib.hid (ON.out.on hb3)
        clear hb3 d0 d1 d2 d3 d4 d5 d6 d7
        go_wp2_with fail
        go_roundw
        case rel => exact ⟨j, rfl, by have := HJ1.out; omega, FN.out, B3.out, O3.out, G3.out⟩
        case measure => simp [intOf]
      · have FN := Lib.hid (show findO o t = some ⟨kk, bb, ee, ss, (xx, yy), uu, gg⟩ from by rw [FJ.out, FL.out]; rfl)
        go_wp2_with fail
        refine (HS.out _).mono ?_
        rintro z w3 ⟨rfl, hb3⟩
        have G3 := Lib.hid (GW.out.trans (hb3.mono GW.out.size))
        have B3 := Lib.hid (BY.out.later hb3)
        have hlo : b < wo.heap.size := cell_lt d0
        have k0 := (hb3.cell (p := ⟨b, oo + j * 8, none⟩) hlo).trans d0
        have k1 := (hb3.cell (p := ⟨b, oo + j * 8 + 1, none⟩) hlo).trans d1
        have k2 := (hb3.cell (p := ⟨b, oo + j * 8 + 2, none⟩) hlo).trans d2
        have k3 := (hb3.cell (p := ⟨b, oo + j * 8 + 3, none⟩) hlo).trans d3
        have k4 := (hb3.cell (p := ⟨b, oo + j * 8 + 4, none⟩) hlo).trans d4
        have k5 := (hb3.cell (p := ⟨b, oo + j * 8 + 5, none⟩) hlo).trans d5
        have k6 := (hb3.cell (p := ⟨b, oo + j * 8 + 6, none⟩) hlo).trans d6
        have k7 := (hb3.cell (p := ⟨b, oo + j * 8 + 7, none⟩) hlo).trans d7
        have z0 := B3.out.cell 0 _ rfl
        have z1 := B3.out.cell 1 _ rfl
        have z2 := B3.out.cell 2 _ rfl
        have z3 := B3.out.cell 3 _ rfl
        have z4 := B3.out.cell 4 _ rfl
        have z5 := B3.out.cell 5 _ rfl
        have z6 := B3.out.cell 6 _ rfl
        have z7 := B3.out.cell 7 _ rfl
        have f0 := B3.out.frozen 0
        have f1 := B3.out.frozen 1
        have f2 := B3.out.frozen 2
        have f3 := B3.out.frozen 3
        have f4 := B3.out.frozen 4
        have f5 := B3.out.frozen 5
        have f6 := B3.out.frozen 6
        have f7 := B3.out.frozen 7
        have G8 := Lib.hid (below_putF (.string kk) (.int .i64 bb) (.int .i64 ee) (.int .i64 ss) (.int .i64 xx) (.int .i64 yy) (.string uu) (.bool gg) G3.out (Nat.le_refl _))
        clear hb3 d0 d1 d2 d3 d4 d5 d6 d7 hlo
        go_wp2_with fail
        refine bodyPost_ret (v := .tuple #[.agg #[.string kk, .int .i64 bb, .int .i64 ee, .int .i64 ss, .int .i64 xx, .int .i64 yy, .string uu, .bool gg], .bool true]) ?_ rfl ⟨by unfold findV; rw [FN.out]; rfl, G8.out⟩
        rw [results_cell_tmp rfl]
        go_simp
set_option maxHeartbeats 4000000 in
set_option maxRecDepth 100000 in
theorem ref14_get (va vp : Value) (l : List Ver) (p : List (Int × Int)) (t : Int) (w : World) (B Bp : Nat) (ha : RdVr w B va l) (hB : B ≤ w.heap.size) (hp : RdX lgL w Bp vp p) (hBp : Bp ≤ w.heap.size) (hl : l.length ≤ 1000) (hpl : p.length ≤ 1000) :
    Calls Try.prog 21 #[va, vp, .int .i64 t] w fun z w' => z = .returned (.tuple #[.string (getV (orderV l p) t).1, .bool (getV (orderV l p) t).2]) ∧ Below w.heap.size w w' := by
  have FI := Lib.hid (ref14_find va vp l p t w B Bp ha hB hp hBp hl hpl)
  obtain ⟨A, ca, rfl, -⟩ := ha
  obtain ⟨Ap, cp, rfl, -⟩ := hp
  obtain ⟨o, ho⟩ : ∃ o, orderV l p = o := ⟨_, rfl⟩
  rw [ho] at FI ⊢
  have GF := Lib.hid (get_find o t)
  clear hB hBp hl hpl ho
  unfold findV at FI
  rw [GF.out]
  cases hf : findO o t with
  | none =>
    rw [hf] at FI
    clear hf GF
    unfold verV zV at FI
    simp only at FI ⊢
    go_enter Try.func21, Try.ntmps21
    go_wp2_with fail
    refine (FI.out).mono ?_
    rintro z w1 ⟨rfl, hb1⟩
    have G := Lib.hid (hb1.trans ((alloc_below w1 (.cells #[.string ⟨#[]⟩, .int .i64 0, .int .i64 0, .int .i64 0, .int .i64 0, .int .i64 0, .string ⟨#[]⟩, .bool false] 50)).mono hb1.size))
    clear hb1 FI
    go_wp2_with fail
    go_ret2
    exact ⟨rfl, G.out⟩
  | some v =>
    obtain ⟨kk, bb, ee, ss, ⟨xx, yy⟩, uu, gg⟩ := v
    rw [hf] at FI
    clear hf GF
    unfold verV at FI
    unfold tellV
    simp only at FI ⊢
    have GQ := Lib.hid (fun (g : Bool) (w1 : World) (h : Below w.heap.size w w1) => h.trans ((alloc_below w1 (.cells #[.string kk, .int .i64 bb, .int .i64 ee, .int .i64 ss, .int .i64 xx, .int .i64 yy, .string uu, .bool g] 50)).mono h.size))
    cases gg
    all_goals
      go_enter Try.func21, Try.ntmps21
      go_wp2_with fail
      refine (FI.out).mono ?_
      rintro z w1 ⟨rfl, hb1⟩
      have HB1 := Lib.hid hb1
      clear hb1 FI
      go_wp2_with fail
      go_ret2
      exact ⟨rfl, GQ.out _ _ HB1.out⟩
end Go.Proofs.Ytlpakooogbaclaa
