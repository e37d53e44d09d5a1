/- Layer 13: where a version belongs among versions (slices.BinarySearchFunc with the project's order). -/
import Derived.Test.YtigdkflknhdbgaaCd
import Derived.Shelf.Abstract
import Derived.BigQuiet
namespace Go.Proofs.Ytigdkflknhdbgaa
open Go.RowKit Go.Shelf
set_option linter.unusedVariables false

def atV (l : List Ver) (i : Nat) : Ver := l.getD i zeroV
theorem atV_get {l : List Ver} {i : Nat} (h : i < l.length) : atV l i = l[i] := by unfold atV; rw [List.getD_eq_getElem?_getD, List.getElem?_eq_getElem h]; rfl
/-- Where the first version is that c does not tell to be ahead. -/
def FoundV (l : List Ver) (c : Ver → Int) (i : Nat) : Prop := i ≤ l.length ∧ (0 < i → c (atV l (i - 1)) < 0) ∧ (i < l.length → 0 ≤ c (atV l i))
def isAt (l : List Ver) (c : Ver → Int) (i : Nat) : Bool := decide (i < l.length) && (c (atV l i) == 0)
theorem ret_ib {a b : Int} {p q : Bool} (h : a = b) (k : p = q) : Ending.returned (.tuple #[.int .i64 a, .bool p]) = .returned (.tuple #[.int .i64 b, .bool q]) := by rw [h, k]

set_option maxHeartbeats 4000000 in
set_option maxRecDepth 100000 in
theorem p_bsearch (va : Value) (l : List Ver) (v : Ver) (w : World) (ha : RdVr w w.heap.size va l) (hl : l.length ≤ 1000) :
    Calls Try.prog 39 #[va, verV v, .func (.func 40) #[] #[]] w fun e w' => ∃ i : Nat, e = .returned (.tuple #[.int .i64 i, .bool (isAt l (fun a => cmpV a v) i)]) ∧ FoundV l (fun a => cmpV a v) i ∧ Below w.heap.size w w' := by
  have HL := Lib.hid hl
  have CMP := Lib.hid (fun a w => row_compare a v w)
  have RC := enters_of Try.func40 (by kernel_rfl) rfl
  obtain ⟨c, hc⟩ : ∃ c : Ver → Int, (fun a => cmpV a v) = c := ⟨_, rfl⟩
  have hca : ∀ a, cmpV a v = c a := fun a => congrFun hc a
  rw [hc]
  simp only [hca] at CMP ⊢
  clear hc hca
  obtain ⟨A, ca, rfl, -⟩ := id ha
  have HA := Lib.hid ha
  have HDEF := Lib.hid (fun (i : Nat) (h1 : i ≤ l.length) (h2 : 0 < i → c (atV l (i - 1)) < 0) (h3 : i < l.length → 0 ≤ c (atV l i)) => (show FoundV l c i from ⟨h1, h2, h3⟩))
  obtain ⟨k0, b0, e0, s0, ⟨x0, y0⟩, u0, g0⟩ := v
  unfold verV at CMP ⊢
  simp only at CMP ⊢
  obtain ⟨W0, hW0⟩ : ∃ W0, w.alloc (.cells #[.string k0, .int .i64 b0, .int .i64 e0, .int .i64 s0, .int .i64 x0, .int .i64 y0, .string u0, .bool g0] 47) = W0 := ⟨_, rfl⟩
  have BX := Lib.hid (show Box W0 w.heap.size #[.string k0, .int .i64 b0, .int .i64 e0, .int .i64 s0, .int .i64 x0, .int .i64 y0, .string u0, .bool g0] 47 from by rw [← hW0]; exact Box.new w _ _ _ rfl)
  have G0 := Lib.hid (show Below w.heap.size w W0 from by rw [← hW0]; exact alloc_below _ _)
  clear hl ha
  go_enter Try.func39, Try.ntmps39
  go_wp2_with fail
  clear hW0
  go_loopw [9, 10] (fun x y wr => ∃ i j : Nat, x = .int .i64 i ∧ y = .int .i64 j ∧ i ≤ j ∧ j ≤ l.length ∧ (0 < i → c (atV l (i - 1)) < 0) ∧ (j < l.length → 0 ≤ c (atV l j)) ∧ Box wr w.heap.size #[.string k0, .int .i64 b0, .int .i64 e0, .int .i64 s0, .int .i64 x0, .int .i64 y0, .string u0, .bool g0] 47 ∧ Below w.heap.size w wr) (fun x y _ => (intOf y).toNat - (intOf x).toNat)
  case atStart => exact ⟨0, l.length, rfl, rfl, Nat.zero_le _, Nat.le_refl _, by simp, by simp, BX.out, G0.out⟩
  case round =>
    obtain ⟨i, j, rfl, rfl, hij, hjm, hi1, hj1, hbx, hbw⟩ := hrel
    rename World => wo
    have HI := Lib.hid hi1
    have HJ := Lib.hid hj1
    have BX := Lib.hid hbx
    have G := Lib.hid hbw
    have q0 := hbx.cell 0 _ rfl
    have q1 := hbx.cell 1 _ rfl
    have q2 := hbx.cell 2 _ rfl
    have q3 := hbx.cell 3 _ rfl
    have q4 := hbx.cell 4 _ rfl
    have q5 := hbx.cell 5 _ rfl
    have q6 := hbx.cell 6 _ rfl
    have q7 := hbx.cell 7 _ rfl
    clear hi1 hj1 hbx hbw G0
    by_cases hlt : i < j
    · have zl : decide ((i : Int) < (j : Int)) = true := by simp; omega
      have zl2 : decide (i < j) = true := by simp; omega
      obtain ⟨h, hh⟩ : ∃ h : Nat, h = (i + j) / 2 := ⟨_, rfl⟩
      have hhl : h < l.length := by omega
      have hhi : (h : Int) < (l.length : Int) := by omega
      have hh1 : i ≤ h := by omega
      have hh2 : h < j := by omega
      have hhs : ((i : Int) + (j : Int)) / 2 = (h : Int) := by omega
      have hu64 : IntKind.u64.wrap ((i : Int) + (j : Int)) = (i : Int) + (j : Int) := by rw [IntKind.wrap_u64]; have := HL.out; omega
      have hwh : IntKind.i64.wrap (h : Int) = (h : Int) := by rw [IntKind.wrap_i64]; have := HL.out; omega
      have hw64 : IntKind.i64.wrap ((i : Int) + (j : Int)) = (i : Int) + (j : Int) := by rw [IntKind.wrap_i64]; have := HL.out; omega
      obtain ⟨x, hx⟩ : ∃ x, l[h] = x := ⟨_, rfl⟩
      have AH := Lib.hid (show atV l h = x from (atV_get hhl).trans hx)
      have CM := Lib.hid (fun w => CMP.out x w)
      obtain ⟨cv, hcv⟩ : ∃ cv, c x = cv := ⟨_, rfl⟩
      rw [hcv] at CM
      have HCV := Lib.hid (show c (atV l h) = cv from by rw [AH.out]; exact hcv)
      obtain ⟨k1, b1, e1, s1, ⟨x1, y1⟩, u1, g1⟩ := x
      obtain ⟨bL, oL, rfl, -, c0, c1, c2, c3, c4, c5, c6, c7⟩ := RdVr.here (HA.out.below G.out) h hhl
      simp only [hx] at c0 c1 c2 c3 c4 c5 c6 c7
      simp only at CM
      clear hh hcv hx AH
      go_wp2_with fail
      obtain ⟨bq, hbq⟩ : ∃ bq, decide (cv < 0) = bq := ⟨_, rfl⟩
      have HQ : (fun W => W = wo.drew) wo.drew := rfl
      refine regk_start [6] (fun W => W = wo.drew) (by kernel_rfl) ?_
      refine regk_free 0 24 (v := ?_) (T' := ?_) (fun _ => HQ) (by kernel_rfl) (by kernel_rfl) (by kernel_rfl) (by kernel_rfl) (fun _ _ _ h => h) (fun o ho => ?_) ?_ ?_
      rotate_left 2
      · cases ho
        refine ⟨rfl, rfl, fun W => ?_⟩
        go_simp; (try with_reducible rfl)
      · simp only [List.setIfInBounds_toArray, List.set_cons_succ, List.set_cons_zero]; exact rfl
      refine regk_free 1 25 (v := ?_) (T' := ?_) (fun _ => HQ) (by kernel_rfl) (by kernel_rfl) (by kernel_rfl) (by kernel_rfl) (fun _ _ _ h => h) (fun o ho => ?_) ?_ ?_
      rotate_left 2
      · cases ho
        refine ⟨rfl, rfl, fun W => ?_⟩
        go_simp; (try with_reducible rfl)
      · simp only [List.setIfInBounds_toArray, List.set_cons_succ, List.set_cons_zero]; exact rfl
      refine regk_free 2 26 (v := ?_) (T' := ?_) (fun _ => HQ) (by kernel_rfl) (by kernel_rfl) (by kernel_rfl) (by kernel_rfl) (fun _ _ _ h => h) (fun o ho => ?_) ?_ ?_
      rotate_left 2
      · cases ho
        refine ⟨rfl, rfl, fun W => ?_⟩
        go_simp; (try with_reducible rfl)
      · simp only [List.setIfInBounds_toArray, List.set_cons_succ, List.set_cons_zero]; exact rfl
      refine regk_free 3 27 (v := ?_) (T' := ?_) (fun _ => HQ) (by kernel_rfl) (by kernel_rfl) (by kernel_rfl) (by kernel_rfl) (fun _ _ _ h => h) (fun o ho => ?_) ?_ ?_
      rotate_left 2
      · cases ho
        refine ⟨rfl, rfl, fun W => ?_⟩
        go_simp; (try with_reducible rfl)
      · simp only [List.setIfInBounds_toArray, List.set_cons_succ, List.set_cons_zero]; exact rfl
      refine regk_take 4 28 (v := ?_) (T' := ?_) HQ (by kernel_rfl) (by kernel_rfl) (by kernel_rfl) (by kernel_rfl) (by kernel_rfl) (by kernel_rfl) (fun _ _ _ h => h) (fun o ho => ?_) ?_ ?_
      rotate_left 2
      · cases ho
        refine ⟨rfl, rfl, fun W hW => ?_⟩
        have hW := (show W = _ from hW); subst hW; go_simp; (try with_reducible rfl)
      · simp only [List.setIfInBounds_toArray, List.set_cons_succ, List.set_cons_zero]; exact rfl
      refine regk_take 5 29 (v := ?_) (T' := ?_) HQ (by kernel_rfl) (by kernel_rfl) (by kernel_rfl) (by kernel_rfl) (by kernel_rfl) (by kernel_rfl) (fun _ _ _ h => h) (fun o ho => ?_) ?_ ?_
      rotate_left 2
      · cases ho
        refine ⟨rfl, rfl, fun W hW => ?_⟩
        have hW := (show W = _ from hW); subst hW; go_simp; (try with_reducible rfl)
      · simp only [List.setIfInBounds_toArray, List.set_cons_succ, List.set_cons_zero]; exact rfl
      refine regk_call (I' := (fun W => W = wo.drew)) (fun _ h => h) 6 30 (by kernel_rfl) 40 #[.agg #[.string k1, .int .i64 b1, .int .i64 e1, .int .i64 s1, .int .i64 x1, .int .i64 y1, .string u1, .bool g1], .agg #[.string k0, .int .i64 b0, .int .i64 e0, .int .i64 s0, .int .i64 x0, .int .i64 y0, .string u0, .bool g0]] (fun o ho => by cases ho; exact ⟨rfl, rfl, fun W => by go_simp⟩) ?_
      refine (CM.out _).mono ?_
      rintro e w1 ⟨rfl, hb1⟩
      have BN := Lib.hid (BX.out.later (show Below wo.heap.size wo w1 from ((Below.refl _ wo).drewN 1).trans hb1))
      have GN := Lib.hid (G.out.trans ((show Below wo.heap.size wo w1 from ((Below.refl _ wo).drewN 1).trans hb1).mono G.out.size))
      clear hb1
      refine ⟨_, _, rfl, noB_no (by kernel_rfl), (by simp only [List.setIfInBounds_toArray, List.set_cons_succ, List.set_cons_zero]; exact rfl), ?_⟩
      refine regk_free 7 31 (v := ?_) (T' := ?_) (noB_no (by kernel_rfl)) (by kernel_rfl) (by kernel_rfl) (by kernel_rfl) (by kernel_rfl) (fun _ _ _ h => h) (fun o ho => ?_) ?_ ?_
      rotate_left 2
      · cases ho
        refine ⟨rfl, rfl, fun W => ?_⟩
        go_simp; (try with_reducible rfl)
      · simp only [List.setIfInBounds_toArray, List.set_cons_succ, List.set_cons_zero]; exact rfl
      refine regk_done (by kernel_rfl) ?_
      have HBQ := Lib.hid hbq
      clear hbq
      have BX := Lib.hid BN.out
      have G := Lib.hid GN.out
      clear c0 c1 c2 c3 c4 c5 c6 c7 q0 q1 q2 q3 q4 q5 q6 q7
      cases bq
      rotate_left
      · have hc : cv < 0 := of_decide_eq_true HBQ.out
        have HN := Lib.hid (show 0 < h + 1 → c (atV l (h + 1 - 1)) < 0 from fun _ => by rw [Nat.add_sub_cancel, HCV.out]; exact hc)
        have hw1 : IntKind.i64.wrap ((h : Int) + 1) = (h : Int) + 1 := by rw [IntKind.wrap_i64]; have := HL.out; omega
        clear hc
        go_wp2_with fail
        go_roundw
        case rel => exact ⟨h + 1, j, by go_num, rfl, by omega, hjm, HN.out, HJ.out, BX.out, G.out⟩
        case measure => simp [intOf]; omega
      · have hc : ¬ cv < 0 := of_decide_eq_false HBQ.out
        have HN := Lib.hid (show h < l.length → 0 ≤ c (atV l h) from fun _ => by rw [HCV.out]; omega)
        clear hc
        go_wp2_with fail
        go_roundw
        case rel => exact ⟨i, h, rfl, rfl, hh1, by omega, HI.out, HN.out, BX.out, G.out⟩
        case measure => simp [intOf]; omega
    · have hij2 : i = j := by omega
      subst hij2
      have zl : decide ((i : Int) < (i : Int)) = false := by simp
      have FO := Lib.hid (HDEF.out i hjm HI.out HJ.out)
      by_cases hm : i < l.length
      · have zm : decide ((i : Int) < (l.length : Int)) = true := by simp; omega
        have zm2 : decide (i < l.length) = true := by simp; omega
        have hmi : (i : Int) < (l.length : Int) := by omega
        obtain ⟨x, hx⟩ : ∃ x, l[i] = x := ⟨_, rfl⟩
        have AH := Lib.hid (show atV l i = x from (atV_get hm).trans hx)
        have CM := Lib.hid (fun w => CMP.out x w)
        obtain ⟨cv, hcv⟩ : ∃ cv, c x = cv := ⟨_, rfl⟩
        rw [hcv] at CM
        have FIN := Lib.hid (show (cv == 0) = isAt l c i from by unfold isAt; rw [AH.out, hcv, decide_eq_true hm, Bool.true_and])
        obtain ⟨k1, b1, e1, s1, ⟨x1, y1⟩, u1, g1⟩ := x
        obtain ⟨bL, oL, rfl, -, c0, c1, c2, c3, c4, c5, c6, c7⟩ := RdVr.here (HA.out.below G.out) i hm
        simp only [hx] at c0 c1 c2 c3 c4 c5 c6 c7
        simp only at CM
        clear hcv hx AH hlt
        go_wp2_with fail
        have HQ : (fun W => W = wo.drew) wo.drew := rfl
        refine regk_start [11] (fun W => W = wo.drew) (by kernel_rfl) ?_
        refine regk_free 0 35 (v := ?_) (T' := ?_) (fun _ => HQ) (by kernel_rfl) (by kernel_rfl) (by kernel_rfl) (by kernel_rfl) (fun _ _ _ h => h) (fun o ho => ?_) ?_ ?_
        rotate_left 2
        · cases ho
          refine ⟨rfl, rfl, fun W => ?_⟩
          go_simp; (try with_reducible rfl)
        · simp only [List.setIfInBounds_toArray, List.set_cons_succ, List.set_cons_zero]; exact rfl
        refine regk_free 1 36 (v := ?_) (T' := ?_) (fun _ => HQ) (by kernel_rfl) (by kernel_rfl) (by kernel_rfl) (by kernel_rfl) (fun _ _ _ h => h) (fun o ho => ?_) ?_ ?_
        rotate_left 2
        · cases ho
          refine ⟨rfl, rfl, fun W => ?_⟩
          go_simp; (try with_reducible rfl)
        · simp only [List.setIfInBounds_toArray, List.set_cons_succ, List.set_cons_zero]; exact rfl
        refine regk_free 2 37 (v := ?_) (T' := ?_) (fun _ => HQ) (by kernel_rfl) (by kernel_rfl) (by kernel_rfl) (by kernel_rfl) (fun _ _ _ h => h) (fun o ho => ?_) ?_ ?_
        rotate_left 2
        · cases ho
          refine ⟨rfl, rfl, fun W => ?_⟩
          go_simp; (try with_reducible rfl)
        · simp only [List.setIfInBounds_toArray, List.set_cons_succ, List.set_cons_zero]; exact rfl
        refine regk_free 3 38 (v := ?_) (T' := ?_) (fun _ => HQ) (by kernel_rfl) (by kernel_rfl) (by kernel_rfl) (by kernel_rfl) (fun _ _ _ h => h) (fun o ho => ?_) ?_ ?_
        rotate_left 2
        · cases ho
          refine ⟨rfl, rfl, fun W => ?_⟩
          go_simp; (try with_reducible rfl)
        · simp only [List.setIfInBounds_toArray, List.set_cons_succ, List.set_cons_zero]; exact rfl
        refine regk_free 4 39 (v := ?_) (T' := ?_) (fun _ => HQ) (by kernel_rfl) (by kernel_rfl) (by kernel_rfl) (by kernel_rfl) (fun _ _ _ h => h) (fun o ho => ?_) ?_ ?_
        rotate_left 2
        · cases ho
          refine ⟨rfl, rfl, fun W => ?_⟩
          go_simp; (try with_reducible rfl)
        · simp only [List.setIfInBounds_toArray, List.set_cons_succ, List.set_cons_zero]; exact rfl
        refine regk_free 5 40 (v := ?_) (T' := ?_) (fun _ => HQ) (by kernel_rfl) (by kernel_rfl) (by kernel_rfl) (by kernel_rfl) (fun _ _ _ h => h) (fun o ho => ?_) ?_ ?_
        rotate_left 2
        · cases ho
          refine ⟨rfl, rfl, fun W => ?_⟩
          go_simp; (try with_reducible rfl)
        · simp only [List.setIfInBounds_toArray, List.set_cons_succ, List.set_cons_zero]; exact rfl
        refine regk_free 6 41 (v := ?_) (T' := ?_) (fun _ => HQ) (by kernel_rfl) (by kernel_rfl) (by kernel_rfl) (by kernel_rfl) (fun _ _ _ h => h) (fun o ho => ?_) ?_ ?_
        rotate_left 2
        · cases ho
          refine ⟨rfl, rfl, fun W => ?_⟩
          go_simp; (try with_reducible rfl)
        · simp only [List.setIfInBounds_toArray, List.set_cons_succ, List.set_cons_zero]; exact rfl
        refine regk_free 7 42 (v := ?_) (T' := ?_) (fun _ => HQ) (by kernel_rfl) (by kernel_rfl) (by kernel_rfl) (by kernel_rfl) (fun _ _ _ h => h) (fun o ho => ?_) ?_ ?_
        rotate_left 2
        · cases ho
          refine ⟨rfl, rfl, fun W => ?_⟩
          go_simp; (try with_reducible rfl)
        · simp only [List.setIfInBounds_toArray, List.set_cons_succ, List.set_cons_zero]; exact rfl
        refine regk_free 8 43 (v := ?_) (T' := ?_) (fun _ => HQ) (by kernel_rfl) (by kernel_rfl) (by kernel_rfl) (by kernel_rfl) (fun _ _ _ h => h) (fun o ho => ?_) ?_ ?_
        rotate_left 2
        · cases ho
          refine ⟨rfl, rfl, fun W => ?_⟩
          go_simp; (try with_reducible rfl)
        · simp only [List.setIfInBounds_toArray, List.set_cons_succ, List.set_cons_zero]; exact rfl
        refine regk_take 9 44 (v := ?_) (T' := ?_) HQ (by kernel_rfl) (by kernel_rfl) (by kernel_rfl) (by kernel_rfl) (by kernel_rfl) (by kernel_rfl) (fun _ _ _ h => h) (fun o ho => ?_) ?_ ?_
        rotate_left 2
        · cases ho
          refine ⟨rfl, rfl, fun W hW => ?_⟩
          have hW := (show W = _ from hW); subst hW; go_simp; (try with_reducible rfl)
        · simp only [List.setIfInBounds_toArray, List.set_cons_succ, List.set_cons_zero]; exact rfl
        refine regk_take 10 45 (v := ?_) (T' := ?_) HQ (by kernel_rfl) (by kernel_rfl) (by kernel_rfl) (by kernel_rfl) (by kernel_rfl) (by kernel_rfl) (fun _ _ _ h => h) (fun o ho => ?_) ?_ ?_
        rotate_left 2
        · cases ho
          refine ⟨rfl, rfl, fun W hW => ?_⟩
          have hW := (show W = _ from hW); subst hW; go_simp; (try with_reducible rfl)
        · simp only [List.setIfInBounds_toArray, List.set_cons_succ, List.set_cons_zero]; exact rfl
        refine regk_call (I' := (fun W => W = wo.drew)) (fun _ h => h) 11 46 (by kernel_rfl) 40 #[.agg #[.string k1, .int .i64 b1, .int .i64 e1, .int .i64 s1, .int .i64 x1, .int .i64 y1, .string u1, .bool g1], .agg #[.string k0, .int .i64 b0, .int .i64 e0, .int .i64 s0, .int .i64 x0, .int .i64 y0, .string u0, .bool g0]] (fun o ho => by cases ho; exact ⟨rfl, rfl, fun W => by go_simp⟩) ?_
        refine (CM.out _).mono ?_
        rintro e w1 ⟨rfl, hb1⟩
        have BN := Lib.hid (BX.out.later (show Below wo.heap.size wo w1 from ((Below.refl _ wo).drewN 1).trans hb1))
        have GN := Lib.hid (G.out.trans ((show Below wo.heap.size wo w1 from ((Below.refl _ wo).drewN 1).trans hb1).mono G.out.size))
        clear hb1
        refine ⟨_, _, rfl, noB_no (by kernel_rfl), (by simp only [List.setIfInBounds_toArray, List.set_cons_succ, List.set_cons_zero]; exact rfl), ?_⟩
        refine regk_free 12 47 (v := ?_) (T' := ?_) (noB_no (by kernel_rfl)) (by kernel_rfl) (by kernel_rfl) (by kernel_rfl) (by kernel_rfl) (fun _ _ _ h => h) (fun o ho => ?_) ?_ ?_
        rotate_left 2
        · cases ho
          refine ⟨rfl, rfl, fun W => ?_⟩
          go_simp; (try with_reducible rfl)
        · simp only [List.setIfInBounds_toArray, List.set_cons_succ, List.set_cons_zero]; exact rfl
        refine regk_free 13 48 (v := ?_) (T' := ?_) (noB_no (by kernel_rfl)) (by kernel_rfl) (by kernel_rfl) (by kernel_rfl) (by kernel_rfl) (fun _ _ _ h => h) (fun o ho => ?_) ?_ ?_
        rotate_left 2
        · cases ho
          refine ⟨rfl, rfl, fun W => ?_⟩
          go_simp; (try with_reducible rfl)
        · simp only [List.setIfInBounds_toArray, List.set_cons_succ, List.set_cons_zero]; exact rfl
        refine regk_free 14 6 (v := ?_) (T' := ?_) (noB_no (by kernel_rfl)) (by kernel_rfl) (by kernel_rfl) (by kernel_rfl) (by kernel_rfl) (fun _ _ _ h => h) (fun o ho => ?_) ?_ ?_
        rotate_left 2
        · cases ho
          refine ⟨rfl, rfl, fun W => ?_⟩
          go_simp; (try with_reducible rfl)
        · simp only [List.setIfInBounds_toArray, List.set_cons_succ, List.set_cons_zero]; exact rfl
        refine regk_free 15 7 (v := ?_) (T' := ?_) (noB_no (by kernel_rfl)) (by kernel_rfl) (by kernel_rfl) (by kernel_rfl) (by kernel_rfl) (fun _ _ _ h => h) (fun o ho => ?_) ?_ ?_
        rotate_left 2
        · cases ho
          refine ⟨rfl, rfl, fun W => ?_⟩
          go_simp; (try with_reducible rfl)
        · simp only [List.setIfInBounds_toArray, List.set_cons_succ, List.set_cons_zero]; exact rfl
        refine regk_done (by kernel_rfl) ?_
        have G := Lib.hid GN.out
        clear c0 c1 c2 c3 c4 c5 c6 c7 q0 q1 q2 q3 q4 q5 q6 q7
        go_wp2_with fail
        go_ret2
        exact ⟨i, ret_ib rfl FIN.out, FO.out, G.out⟩
      · have zm : decide ((i : Int) < (l.length : Int)) = false := by simp; omega
        have FIN := Lib.hid (show false = isAt l c i from by unfold isAt; rw [decide_eq_false hm, Bool.false_and])
        clear hlt
        go_wp2_with fail
        go_quiet (fail)
        go_wp2_with fail
        go_ret2
        exact ⟨i, ret_ib rfl FIN.out, FO.out, G.out.drewN nq⟩

section
variable {l : List Ver} {v : Ver} {i : Nat}
theorem cmp_less {a v : Ver} : cmpV a v < 0 ↔ lessV a v = true := by rw [lessV_iff, decide_eq_true_eq]
theorem cmp_not {a v : Ver} : 0 ≤ cmpV a v ↔ lessV a v = false := by
  rw [lessV_iff, decide_eq_false_iff_not]; omega
theorem cmp_zero {a v : Ver} : cmpV a v = 0 ↔ alikeV v a = true := by
  have h := ver_tells.anti a v
  unfold alikeV
  rw [Bool.and_eq_true, Bool.not_eq_true', Bool.not_eq_true', ← cmp_not, ← cmp_not]
  omega
theorem found_ahead (hs : AscV l) (h : FoundV l (fun a => cmpV a v) i) {k : Nat} (hk : k < l.length) (hki : k < i) : lessV l[k] v = true := by
  have h1 := cmp_less.1 (h.2.1 (by omega))
  have hi1 : i - 1 < l.length := by have := h.1; omega
  rw [atV_get hi1] at h1
  rcases Nat.lt_or_ge k (i - 1) with h2 | h2
  · exact lessV_trans (List.pairwise_iff_getElem.1 hs k (i - 1) hk hi1 h2) h1
  · obtain rfl : k = i - 1 := by omega
    exact h1
theorem found_behind (hs : AscV l) (h : FoundV l (fun a => cmpV a v) i) {k : Nat} (hk : k < l.length) (hki : i ≤ k) : lessV l[k] v = false := by
  have hi : i < l.length := by omega
  have h1 := cmp_not.1 (h.2.2 hi)
  rw [atV_get hi] at h1
  rcases Nat.lt_or_ge i k with h2 | h2
  · cases h3 : lessV l[k] v
    · rfl
    · have := lessV_trans (List.pairwise_iff_getElem.1 hs i k hi hk h2) h3
      rw [h1] at this; cases this
  · obtain rfl : k = i := by omega
    exact h1
/-- Whether one is there that is alike. -/
theorem found_any' (hs : AscV l) (h : FoundV l (fun a => cmpV a v) i) : l.any (alikeV v) = true ↔ i < l.length ∧ cmpV (atV l i) v = 0 := by
  rw [List.any_eq_true]
  constructor
  · rintro ⟨x, hx, ha⟩
    obtain ⟨k, hk, rfl⟩ := List.getElem_of_mem hx
    have h0 := cmp_zero.2 ha
    have hnl : lessV l[k] v = false := cmp_not.1 (by omega)
    have hik : i ≤ k := by
      rcases Nat.lt_or_ge k i with h1 | h1
      · rw [found_ahead hs h hk h1] at hnl; cases hnl
      · exact h1
    rcases Nat.lt_or_ge i k with h2 | h2
    · have hi : i < l.length := by omega
      have h3 := List.pairwise_iff_getElem.1 hs i k hi hk h2
      have h4 := found_behind hs h hi (Nat.le_refl _)
      have h5 : lessV v l[k] = false := by
        unfold alikeV at ha
        rw [Bool.and_eq_true, Bool.not_eq_true', Bool.not_eq_true'] at ha
        exact ha.1
      have c1 := cmp_less.2 h3
      have : cmpV l[i] v < 0 := by
        have := ver_tells.trans l[i] l[k] v (by omega) (by omega)
        rcases Int.lt_or_eq_of_le this with h6 | h6
        · exact h6
        · exfalso
          have e1 := ver_tells.anti l[i] v
          have e2 := ver_tells.trans l[k] v l[i] (by omega) (by omega)
          have e3 := ver_tells.anti l[i] l[k]
          omega
      rw [cmp_less.1 this] at h4; cases h4
    · obtain rfl : k = i := by omega
      exact ⟨hk, by rw [atV_get hk]; exact h0⟩
  · rintro ⟨hi, h0⟩
    rw [atV_get hi] at h0
    exact ⟨_, List.getElem_mem hi, cmp_zero.1 h0⟩
theorem found_any (hs : AscV l) (h : FoundV l (fun a => cmpV a v) i) : isAt l (fun a => cmpV a v) i = l.any (alikeV v) := by
  have := found_any' hs h
  unfold isAt
  rw [Bool.eq_iff_iff, this, Bool.and_eq_true, decide_eq_true_eq, beq_iff_eq]
/-- The version in its place. -/
theorem found_ins (hs : AscV l) (h : FoundV l (fun a => cmpV a v) i) (hn : l.any (alikeV v) = false) : insA v l = l.take i ++ v :: l.drop i := by
  have key : ∀ k, k ≤ i → insA v (l.drop k) = (l.drop k).take (i - k) ++ v :: l.drop i := by
    intro k
    induction hk : i - k generalizing k with
    | zero =>
      intro hki
      obtain rfl : k = i := by omega
      rw [List.take_zero, List.nil_append]
      rcases Nat.lt_or_ge k l.length with h1 | h1
      · rw [insA_drop v h1, if_pos, ← List.drop_eq_getElem_cons h1]
        have h2 := found_behind hs h h1 (Nat.le_refl _)
        cases h3 : lessV v l[k]
        · have : l.any (alikeV v) = true := List.any_eq_true.2 ⟨_, List.getElem_mem h1, by unfold alikeV; rw [h2, h3]; rfl⟩
          rw [hn] at this; cases this
        · rfl
      · rw [List.drop_eq_nil_of_le h1]; rfl
    | succ n ih =>
      intro hki
      have h1 : k < l.length := by have := h.1; omega
      have h2 := found_ahead hs h h1 (by omega)
      rw [insA_drop v h1, if_neg (by rw [lessV_asymm h2]; decide), ih (k + 1) (by omega) (by omega), List.drop_eq_getElem_cons h1, List.take_succ_cons, List.cons_append]
  have := key 0 (Nat.zero_le _)
  rwa [List.drop_zero, Nat.sub_zero] at this
end
end Go.Proofs.Ytigdkflknhdbgaa
