/- SpanTwo (P4.1): for every two spans and every time: which may be, which times lie in them, what two have in common, and what of one is left without the other, is told as the document says, and the document's example holds. No condition. -/
import Derived.Test.YtoikhgldffgelaaPk
import Derived.Test.YtoikhgldffgelaaBlaw
import Derived.BigQuiet
namespace Go.Proofs.Ytoikhgldffgelaa.L01
open Go.RowKit Go.ChangeShapes Go.WideShapes Go.ChangeAt
set_option linter.unusedVariables false

set_option maxHeartbeats 4000000 in
theorem walk (s t : Sp) (u : Int) (U : World) : Calls Try.prog 3 #[spV s, spV t, .int .i64 u] U fun e W' => e = .returned (.bool true) ∧ Below U.heap.size U W' := by
  have M1 := Lib.hid (fun w => p_meet s t w)
  have M2 := Lib.hid (fun w => ref_meet s t w)
  have N1 := Lib.hid (fun w => p_minus s t w)
  have N2 := Lib.hid (fun w => ref_minus s t w)
  have Y1 := Lib.hid (fun w => p_may s w)
  have Y2 := Lib.hid (fun w => ref_may s w)
  have H1 := Lib.hid (fun w => p_has s u w)
  have H2 := Lib.hid (fun w => ref_has s u w)
  obtain ⟨a1, a2⟩ := s
  obtain ⟨b1, b2⟩ := t
  have hsp : ∀ x : Sp, spV x = .agg #[.int .i64 x.1, .int .i64 x.2] := fun _ => rfl
  simp only [hsp] at M1 M2 N1 N2 Y1 Y2 H1 H2
  rw [hsp, hsp]
  clear hsp
  generalize meetF (a1, a2) (b1, b2) = r at *
  obtain ⟨⟨m1, m2⟩, z⟩ := r
  have hml := minus_len (a1, a2) (b1, b2)
  generalize minusF (a1, a2) (b1, b2) = ms at *
  generalize mayB (a1, a2) = y at *
  generalize hasB (a1, a2) u = hu at *
  have BA := Lib.hid ((Box.new U #[.int .i64 a1, .int .i64 a2] 23 _ rfl).alloc (.cells #[.int .i64 b1, .int .i64 b2] 23))
  have BB := Lib.hid (Box.new (U.alloc (.cells #[.int .i64 a1, .int .i64 a2] 23)) #[.int .i64 b1, .int .i64 b2] 23 (U.heap.size + 1) (by simp))
  have G := Lib.hid (((Below.refl U.heap.size U).alloc (Nat.le_refl _) (.cells #[.int .i64 a1, .int .i64 a2] 23)).alloc (by simp) (.cells #[.int .i64 b1, .int .i64 b2] 23))
  go_enter Try.func3, Try.ntmps3
  go_wp2_with fail
  generalize (U.alloc (.cells #[.int .i64 a1, .int .i64 a2] 23)).alloc (.cells #[.int .i64 b1, .int .i64 b2] 23) = w0 at *
  refine (M1.out _).mono ?_
  rintro e w1 ⟨rfl, hb1⟩
  have hbx := hb1.alloc hb1.size (.cells #[.int .i64 m1, .int .i64 m2] 23)
  have BA := Lib.hid (BA.out.later hbx)
  have BB := Lib.hid (BB.out.later hbx)
  have G := Lib.hid (G.out.trans (hbx.mono G.out.size))
  have BM := Lib.hid (Box.new w1 #[.int .i64 m1, .int .i64 m2] 23 _ rfl)
  clear hb1 hbx
  have ca0 := BA.out.cell 0 (.int .i64 a1) rfl
  have ca1 := BA.out.cell 1 (.int .i64 a2) rfl
  have cb0 := BB.out.cell 0 (.int .i64 b1) rfl
  have cb1 := BB.out.cell 1 (.int .i64 b2) rfl
  generalize hw1 : w1.alloc (.cells #[.int .i64 m1, .int .i64 m2] 23) = wm at *
  go_wp2_with fail
  clear hw1
  refine (M2.out _).mono ?_
  rintro e w2 ⟨rfl, hb2⟩
  have hbx := hb2.alloc hb2.size (.cells #[.int .i64 m1, .int .i64 m2] 23)
  have BA := Lib.hid (BA.out.later hbx)
  have BB := Lib.hid (BB.out.later hbx)
  have BM := Lib.hid (BM.out.later hbx)
  have G := Lib.hid (G.out.trans (hbx.mono G.out.size))
  have BN := Lib.hid (Box.new w2 #[.int .i64 m1, .int .i64 m2] 23 _ rfl)
  clear hb2 hbx ca0 ca1 cb0 cb1
  have ca0 := BA.out.cell 0 (.int .i64 a1) rfl
  have ca1 := BA.out.cell 1 (.int .i64 a2) rfl
  have cb0 := BB.out.cell 0 (.int .i64 b1) rfl
  have cb1 := BB.out.cell 1 (.int .i64 b2) rfl
  generalize hw2 : w2.alloc (.cells #[.int .i64 m1, .int .i64 m2] 23) = wn at *
  go_wp2_with fail
  clear hw2
  refine (N1.out _).mono ?_
  rintro e w3 ⟨v1, rfl, ho1, hb3⟩
  have BA := Lib.hid (BA.out.later hb3)
  have BB := Lib.hid (BB.out.later hb3)
  have BM := Lib.hid (BM.out.later hb3)
  have BN := Lib.hid (BN.out.later hb3)
  have G := Lib.hid (G.out.trans (hb3.mono G.out.size))
  have R1 := Lib.hid ho1.rd
  clear ho1 hb3 ca0 ca1 cb0 cb1
  have ca0 := BA.out.cell 0 (.int .i64 a1) rfl
  have ca1 := BA.out.cell 1 (.int .i64 a2) rfl
  have cb0 := BB.out.cell 0 (.int .i64 b1) rfl
  have cb1 := BB.out.cell 1 (.int .i64 b2) rfl
  go_wp2_with fail
  refine (N2.out _).mono ?_
  rintro e w4 ⟨v2, rfl, ho2, hb4⟩
  have BA := Lib.hid (BA.out.later hb4)
  have BM := Lib.hid (BM.out.later hb4)
  have BN := Lib.hid (BN.out.later hb4)
  have G := Lib.hid (G.out.trans (hb4.mono G.out.size))
  have R1 := Lib.hid (R1.out.on hb4)
  have R2 := Lib.hid ho2.rd
  clear ho2 hb4 ca0 ca1 cb0 cb1
  obtain ⟨A1, c1, e1, -⟩ := R1.out
  obtain ⟨A2, c2, e2, -⟩ := R2.out
  subst e1
  subst e2
  go_wp2_with fail
  go_loopw [13] (fun i wr => ∃ k : Nat, i = .int .i64 k ∧ k ≤ ms.length ∧ Below w4.heap.size w4 wr) (fun i _ => ms.length - (intOf i).toNat)
  case atStart => exact ⟨0, rfl, Nat.zero_le _, Below.refl _ _⟩
  case round =>
    obtain ⟨k, rfl, hk, hb⟩ := hrel
    have GW := Lib.hid hb
    clear hb
    by_cases hlt : k < ms.length
    · obtain ⟨ba, oa, rfl, hba, c0, d0⟩ := RdSp.here (R1.out.below GW.out) k hlt
      obtain ⟨bb, ob, rfl, hbb, c1, d1⟩ := RdSp.here (R2.out.below GW.out) k hlt
      generalize ms[k] = x at *
      obtain ⟨x1, x2⟩ := x
      have hne := fun W => sp_neq W (x1, x2) (x1, x2)
      simp only [decide_true, Bool.not_true] at hne
      unfold spV at hne
      go_wp2_with fail
      go_quiet (fail)
      go_wp2_with fail
      go_roundw
      case rel => exact ⟨k + 1, by go_num, by omega, GW.out.drewN _⟩
      case measure => simp [intOf]; omega
    · have BA := Lib.hid (BA.out.later GW.out)
      have BM := Lib.hid (BM.out.later GW.out)
      have BN := Lib.hid (BN.out.later GW.out)
      have G := Lib.hid (G.out.trans (GW.out.mono G.out.size))
      have LA := Lib.hid BA.out.lt
      have LM := Lib.hid BM.out.lt
      have LN := Lib.hid BN.out.lt
      have hmm := fun W => sp_eql W (m1, m2) (m1, m2)
      simp only [decide_true] at hmm
      unfold spV at hmm
      have hzz : (z == z) = true := by simp
      have hyy : (y == y) = true := by simp
      have huu : (hu == hu) = true := by simp
      go_wp2_with fail
      have HI : (fun X => Below wr.heap.size wr.drew X) wr.drew := Below.refl _ _
-- REGION A
      refine regk_start [] (fun X => Below wr.heap.size wr.drew X) (by kernel_rfl) ?_
      refine regk_take 0 52 (v := ?_) (T' := ?_) HI (by kernel_rfl) (by kernel_rfl) (by kernel_rfl) (by kernel_rfl) (by kernel_rfl) (by kernel_rfl) (fun _ _ _ h => h) (fun o ho => ?_) ?_ ?_
      rotate_left 2
      · cases ho
        refine ⟨rfl, rfl, fun W hW => ?_⟩
        have hV0 := (Below.cell (p := ⟨w1.heap.size, 0, none⟩) (show Below wr.heap.size wr.drew W from hW) LM.out).trans (show wr.drew.cell? _ = _ from BM.out.cell 0 (.int .i64 m1) rfl)
        have hV1 := (Below.cell (p := ⟨w1.heap.size, 1, none⟩) (show Below wr.heap.size wr.drew W from hW) LM.out).trans (show wr.drew.cell? _ = _ from BM.out.cell 1 (.int .i64 m2) rfl)
        go_simp; (try with_reducible rfl)
      · simp only [List.setIfInBounds_toArray, List.set_cons_succ, List.set_cons_zero]; exact rfl
      refine regk_take 1 53 (v := ?_) (T' := ?_) HI (by kernel_rfl) (by kernel_rfl) (by kernel_rfl) (by kernel_rfl) (by kernel_rfl) (by kernel_rfl) (fun _ _ _ h => h) (fun o ho => ?_) ?_ ?_
      rotate_left 2
      · cases ho
        refine ⟨rfl, rfl, fun W hW => ?_⟩
        have hV0 := (Below.cell (p := ⟨w2.heap.size, 0, none⟩) (show Below wr.heap.size wr.drew W from hW) LN.out).trans (show wr.drew.cell? _ = _ from BN.out.cell 0 (.int .i64 m1) rfl)
        have hV1 := (Below.cell (p := ⟨w2.heap.size, 1, none⟩) (show Below wr.heap.size wr.drew W from hW) LN.out).trans (show wr.drew.cell? _ = _ from BN.out.cell 1 (.int .i64 m2) rfl)
        go_simp; (try with_reducible rfl)
      · simp only [List.setIfInBounds_toArray, List.set_cons_succ, List.set_cons_zero]; exact rfl
      refine regk_free 2 54 (v := ?_) (T' := ?_) (fun _ => HI) (by kernel_rfl) (by kernel_rfl) (by kernel_rfl) (by kernel_rfl) (fun _ _ _ h => h) (fun o ho => ?_) ?_ ?_
      rotate_left 2
      · cases ho
        refine ⟨rfl, rfl, fun W => ?_⟩
        go_simp; (try with_reducible rfl)
      · simp only [List.setIfInBounds_toArray, List.set_cons_succ, List.set_cons_zero]; exact rfl
      refine regk_free 3 55 (v := ?_) (T' := ?_) (fun _ => HI) (by kernel_rfl) (by kernel_rfl) (by kernel_rfl) (by kernel_rfl) (fun _ _ _ h => h) (fun o ho => ?_) ?_ ?_
      rotate_left 2
      · cases ho
        refine ⟨rfl, rfl, fun W => ?_⟩
        go_simp; (try with_reducible rfl)
      · simp only [List.setIfInBounds_toArray, List.set_cons_succ, List.set_cons_zero]; exact rfl
      refine regk_free 4 56 (v := ?_) (T' := ?_) (fun _ => HI) (by kernel_rfl) (by kernel_rfl) (by kernel_rfl) (by kernel_rfl) (fun _ _ _ h => h) (fun o ho => ?_) ?_ ?_
      rotate_left 2
      · cases ho
        refine ⟨rfl, rfl, fun W => ?_⟩
        go_simp; (try with_reducible rfl)
      · simp only [List.setIfInBounds_toArray, List.set_cons_succ, List.set_cons_zero]; exact rfl
      refine regk_free 5 57 (v := ?_) (T' := ?_) (fun _ => HI) (by kernel_rfl) (by kernel_rfl) (by kernel_rfl) (by kernel_rfl) (fun _ _ _ h => h) (fun o ho => ?_) ?_ ?_
      rotate_left 2
      · cases ho
        refine ⟨rfl, rfl, fun W => ?_⟩
        go_simp; (try with_reducible rfl)
      · simp only [List.setIfInBounds_toArray, List.set_cons_succ, List.set_cons_zero]; exact rfl
      refine regk_free 6 58 (v := ?_) (T' := ?_) (fun _ => HI) (by kernel_rfl) (by kernel_rfl) (by kernel_rfl) (by kernel_rfl) (fun _ _ _ h => h) (fun o ho => ?_) ?_ ?_
      rotate_left 2
      · cases ho
        refine ⟨rfl, rfl, fun W => ?_⟩
        go_simp; (try with_reducible rfl)
      · simp only [List.setIfInBounds_toArray, List.set_cons_succ, List.set_cons_zero]; exact rfl
      refine regk_free 7 59 (v := ?_) (T' := ?_) (fun _ => HI) (by kernel_rfl) (by kernel_rfl) (by kernel_rfl) (by kernel_rfl) (fun _ _ _ h => h) (fun o ho => ?_) ?_ ?_
      rotate_left 2
      · cases ho
        refine ⟨rfl, rfl, fun W => ?_⟩
        go_simp; (try with_reducible rfl)
      · simp only [List.setIfInBounds_toArray, List.set_cons_succ, List.set_cons_zero]; exact rfl
      refine regk_free 8 60 (v := ?_) (T' := ?_) (fun _ => HI) (by kernel_rfl) (by kernel_rfl) (by kernel_rfl) (by kernel_rfl) (fun _ _ _ h => h) (fun o ho => ?_) ?_ ?_
      rotate_left 2
      · cases ho
        refine ⟨rfl, rfl, fun W => ?_⟩
        go_simp; (try with_reducible rfl)
      · simp only [List.setIfInBounds_toArray, List.set_cons_succ, List.set_cons_zero]; exact rfl
      refine regk_take 9 61 (v := ?_) (T' := ?_) HI (by kernel_rfl) (by kernel_rfl) (by kernel_rfl) (by kernel_rfl) (by kernel_rfl) (by kernel_rfl) (fun _ _ _ h => h) (fun o ho => ?_) ?_ ?_
      rotate_left 2
      · cases ho
        refine ⟨rfl, rfl, fun W hW => ?_⟩
        have hV0 := (Below.cell (p := ⟨U.heap.size, 0, none⟩) (show Below wr.heap.size wr.drew W from hW) LA.out).trans (show wr.drew.cell? _ = _ from BA.out.cell 0 (.int .i64 a1) rfl)
        have hV1 := (Below.cell (p := ⟨U.heap.size, 1, none⟩) (show Below wr.heap.size wr.drew W from hW) LA.out).trans (show wr.drew.cell? _ = _ from BA.out.cell 1 (.int .i64 a2) rfl)
        go_simp; (try with_reducible rfl)
      · simp only [List.setIfInBounds_toArray, List.set_cons_succ, List.set_cons_zero]; exact rfl
      refine regk_take 11 63 (v := ?_) (T' := ?_) HI (by kernel_rfl) (by kernel_rfl) (by kernel_rfl) (by kernel_rfl) (by kernel_rfl) (by kernel_rfl) (fun _ _ _ h => h) (fun o ho => ?_) ?_ ?_
      rotate_left 2
      · cases ho
        refine ⟨rfl, rfl, fun W hW => ?_⟩
        have hV0 := (Below.cell (p := ⟨U.heap.size, 0, none⟩) (show Below wr.heap.size wr.drew W from hW) LA.out).trans (show wr.drew.cell? _ = _ from BA.out.cell 0 (.int .i64 a1) rfl)
        have hV1 := (Below.cell (p := ⟨U.heap.size, 1, none⟩) (show Below wr.heap.size wr.drew W from hW) LA.out).trans (show wr.drew.cell? _ = _ from BA.out.cell 1 (.int .i64 a2) rfl)
        go_simp; (try with_reducible rfl)
      · simp only [List.setIfInBounds_toArray, List.set_cons_succ, List.set_cons_zero]; exact rfl
      refine regk_call (I' := (fun X => Below wr.heap.size wr.drew X)) (fun _ h => h) 10 62 (by kernel_rfl) 15 #[.agg #[.int .i64 a1, .int .i64 a2]] (fun o ho => by cases ho; exact ⟨rfl, rfl, fun W => by go_simp⟩) ?_
      refine (Y1.out _).mono ?_
      rintro e x5 ⟨rfl, hc⟩
      have hb5 := hc
      clear hc
      have HI : (fun X => Below wr.heap.size wr.drew X) x5 := hb5
      refine ⟨_, _, rfl, fun _ => HI, (by simp only [List.setIfInBounds_toArray, List.set_cons_succ, List.set_cons_zero]; exact rfl), ?_⟩
      refine regk_call (I' := (fun X => Below wr.heap.size wr.drew X)) (fun _ h => h) 12 64 (by kernel_rfl) 16 #[.agg #[.int .i64 a1, .int .i64 a2]] (fun o ho => by cases ho; exact ⟨rfl, rfl, fun W => by go_simp⟩) ?_
      refine (Y2.out _).mono ?_
      rintro e x6 ⟨rfl, hc⟩
      have hb6 := hb5.trans (hc.mono hb5.size)
      clear hc
      have HI : (fun X => Below wr.heap.size wr.drew X) x6 := hb6
      refine ⟨_, _, rfl, fun _ => HI, (by simp only [List.setIfInBounds_toArray, List.set_cons_succ, List.set_cons_zero]; exact rfl), ?_⟩
      refine regk_free 13 65 (v := ?_) (T' := ?_) (fun _ => HI) (by kernel_rfl) (by kernel_rfl) (by kernel_rfl) (by kernel_rfl) (fun _ _ _ h => h) (fun o ho => ?_) ?_ ?_
      rotate_left 2
      · cases ho
        refine ⟨rfl, rfl, fun W => ?_⟩
        go_simp; (try with_reducible rfl)
      · simp only [List.setIfInBounds_toArray, List.set_cons_succ, List.set_cons_zero]; exact rfl
      refine regk_free 14 66 (v := ?_) (T' := ?_) (fun _ => HI) (by kernel_rfl) (by kernel_rfl) (by kernel_rfl) (by kernel_rfl) (fun _ _ _ h => h) (fun o ho => ?_) ?_ ?_
      rotate_left 2
      · cases ho
        refine ⟨rfl, rfl, fun W => ?_⟩
        go_simp; (try with_reducible rfl)
      · simp only [List.setIfInBounds_toArray, List.set_cons_succ, List.set_cons_zero]; exact rfl
      refine regk_free 15 67 (v := ?_) (T' := ?_) (fun _ => HI) (by kernel_rfl) (by kernel_rfl) (by kernel_rfl) (by kernel_rfl) (fun _ _ _ h => h) (fun o ho => ?_) ?_ ?_
      rotate_left 2
      · cases ho
        refine ⟨rfl, rfl, fun W => ?_⟩
        go_simp; (try with_reducible rfl)
      · simp only [List.setIfInBounds_toArray, List.set_cons_succ, List.set_cons_zero]; exact rfl
      refine regk_take 16 68 (v := ?_) (T' := ?_) HI (by kernel_rfl) (by kernel_rfl) (by kernel_rfl) (by kernel_rfl) (by kernel_rfl) (by kernel_rfl) (fun _ _ _ h => h) (fun o ho => ?_) ?_ ?_
      rotate_left 2
      · cases ho
        refine ⟨rfl, rfl, fun W hW => ?_⟩
        have hV0 := (Below.cell (p := ⟨U.heap.size, 0, none⟩) (show Below wr.heap.size wr.drew W from hW) LA.out).trans (show wr.drew.cell? _ = _ from BA.out.cell 0 (.int .i64 a1) rfl)
        have hV1 := (Below.cell (p := ⟨U.heap.size, 1, none⟩) (show Below wr.heap.size wr.drew W from hW) LA.out).trans (show wr.drew.cell? _ = _ from BA.out.cell 1 (.int .i64 a2) rfl)
        go_simp; (try with_reducible rfl)
      · simp only [List.setIfInBounds_toArray, List.set_cons_succ, List.set_cons_zero]; exact rfl
      refine regk_free 17 69 (v := ?_) (T' := ?_) (fun _ => HI) (by kernel_rfl) (by kernel_rfl) (by kernel_rfl) (by kernel_rfl) (fun _ _ _ h => h) (fun o ho => ?_) ?_ ?_
      rotate_left 2
      · cases ho
        refine ⟨rfl, rfl, fun W => ?_⟩
        go_simp; (try with_reducible rfl)
      · simp only [List.setIfInBounds_toArray, List.set_cons_succ, List.set_cons_zero]; exact rfl
      refine regk_take 19 71 (v := ?_) (T' := ?_) HI (by kernel_rfl) (by kernel_rfl) (by kernel_rfl) (by kernel_rfl) (by kernel_rfl) (by kernel_rfl) (fun _ _ _ h => h) (fun o ho => ?_) ?_ ?_
      rotate_left 2
      · cases ho
        refine ⟨rfl, rfl, fun W hW => ?_⟩
        have hV0 := (Below.cell (p := ⟨U.heap.size, 0, none⟩) (show Below wr.heap.size wr.drew W from hW) LA.out).trans (show wr.drew.cell? _ = _ from BA.out.cell 0 (.int .i64 a1) rfl)
        have hV1 := (Below.cell (p := ⟨U.heap.size, 1, none⟩) (show Below wr.heap.size wr.drew W from hW) LA.out).trans (show wr.drew.cell? _ = _ from BA.out.cell 1 (.int .i64 a2) rfl)
        go_simp; (try with_reducible rfl)
      · simp only [List.setIfInBounds_toArray, List.set_cons_succ, List.set_cons_zero]; exact rfl
      refine regk_free 20 72 (v := ?_) (T' := ?_) (fun _ => HI) (by kernel_rfl) (by kernel_rfl) (by kernel_rfl) (by kernel_rfl) (fun _ _ _ h => h) (fun o ho => ?_) ?_ ?_
      rotate_left 2
      · cases ho
        refine ⟨rfl, rfl, fun W => ?_⟩
        go_simp; (try with_reducible rfl)
      · simp only [List.setIfInBounds_toArray, List.set_cons_succ, List.set_cons_zero]; exact rfl
      refine regk_call (I' := (fun X => Below wr.heap.size wr.drew X)) (fun _ h => h) 18 70 (by kernel_rfl) 17 #[.agg #[.int .i64 a1, .int .i64 a2], .int .i64 u] (fun o ho => by cases ho; exact ⟨rfl, rfl, fun W => by go_simp⟩) ?_
      refine (H1.out _).mono ?_
      rintro e x7 ⟨rfl, hc⟩
      have hb7 := hb6.trans (hc.mono hb6.size)
      clear hc
      have HI : (fun X => Below wr.heap.size wr.drew X) x7 := hb7
      refine ⟨_, _, rfl, fun _ => HI, (by simp only [List.setIfInBounds_toArray, List.set_cons_succ, List.set_cons_zero]; exact rfl), ?_⟩
      refine regk_call (I' := (fun X => Below wr.heap.size wr.drew X)) (fun _ h => h) 21 73 (by kernel_rfl) 18 #[.agg #[.int .i64 a1, .int .i64 a2], .int .i64 u] (fun o ho => by cases ho; exact ⟨rfl, rfl, fun W => by go_simp⟩) ?_
      refine (H2.out _).mono ?_
      rintro e x8 ⟨rfl, hc⟩
      have hb8 := hb7.trans (hc.mono hb7.size)
      clear hc
      have HI : (fun X => Below wr.heap.size wr.drew X) x8 := hb8
      refine ⟨_, _, rfl, fun _ => HI, (by simp only [List.setIfInBounds_toArray, List.set_cons_succ, List.set_cons_zero]; exact rfl), ?_⟩
      refine regk_free 22 74 (v := ?_) (T' := ?_) (fun _ => HI) (by kernel_rfl) (by kernel_rfl) (by kernel_rfl) (by kernel_rfl) (fun _ _ _ h => h) (fun o ho => ?_) ?_ ?_
      rotate_left 2
      · cases ho
        refine ⟨rfl, rfl, fun W => ?_⟩
        go_simp; (try with_reducible rfl)
      · simp only [List.setIfInBounds_toArray, List.set_cons_succ, List.set_cons_zero]; exact rfl
      refine regk_free 23 75 (v := ?_) (T' := ?_) (fun _ => HI) (by kernel_rfl) (by kernel_rfl) (by kernel_rfl) (by kernel_rfl) (fun _ _ _ h => h) (fun o ho => ?_) ?_ ?_
      rotate_left 2
      · cases ho
        refine ⟨rfl, rfl, fun W => ?_⟩
        go_simp; (try with_reducible rfl)
      · simp only [List.setIfInBounds_toArray, List.set_cons_succ, List.set_cons_zero]; exact rfl
      refine regk_free 24 76 (v := ?_) (T' := ?_) (fun _ => HI) (by kernel_rfl) (by kernel_rfl) (by kernel_rfl) (by kernel_rfl) (fun _ _ _ h => h) (fun o ho => ?_) ?_ ?_
      rotate_left 2
      · cases ho
        refine ⟨rfl, rfl, fun W => ?_⟩
        go_simp; (try with_reducible rfl)
      · simp only [List.setIfInBounds_toArray, List.set_cons_succ, List.set_cons_zero]; exact rfl
      refine regk_call (I' := (fun X => Below wr.heap.size wr.drew X)) (fun _ h => h) 25 77 (by kernel_rfl) 19 #[] (fun o ho => by cases ho; exact ⟨rfl, rfl, fun W => by go_simp⟩) ?_
      refine (lives_any _).mono ?_
      rintro e x9 ⟨rfl, hc⟩
      have hb9 := hb8.trans (hc.mono hb8.size)
      clear hc
      have HI : (fun X => Below wr.heap.size wr.drew X) x9 := hb9
      refine ⟨_, _, rfl, fun _ => HI, (by simp only [List.setIfInBounds_toArray, List.set_cons_succ, List.set_cons_zero]; exact rfl), ?_⟩
      refine regk_free 26 78 (v := ?_) (T' := ?_) (fun _ => HI) (by kernel_rfl) (by kernel_rfl) (by kernel_rfl) (by kernel_rfl) (fun _ _ _ h => h) (fun o ho => ?_) ?_ ?_
      rotate_left 2
      · cases ho
        refine ⟨rfl, rfl, fun W => ?_⟩
        go_simp; (try with_reducible rfl)
      · simp only [List.setIfInBounds_toArray, List.set_cons_succ, List.set_cons_zero]; exact rfl
      refine regk_free 27 6 (v := ?_) (T' := ?_) (fun _ => HI) (by kernel_rfl) (by kernel_rfl) (by kernel_rfl) (by kernel_rfl) (fun _ _ _ h => h) (fun o ho => ?_) ?_ ?_
      rotate_left 2
      · cases ho
        refine ⟨rfl, rfl, fun W => ?_⟩
        go_simp; (try with_reducible rfl)
      · simp only [List.setIfInBounds_toArray, List.set_cons_succ, List.set_cons_zero]; exact rfl
      refine regk_done (by kernel_rfl) ?_
-- DONE A
      have G := Lib.hid ((G.out.drewN 1).trans (hb9.mono G.out.size))
      clear hb9
      go_wp2_with fail
      go_ret
      exact ⟨rfl, G.out⟩
-- END
set_option maxRecDepth 100000 in
theorem lifted (os : Os) (started : os.Started) (H : Type) (enc : TypeId × Value → H) :
    ReturnsInHanded {} Try.checked os 3 .any (Rows.spanTwoSpec.pre6 enc Try.prog Try.f3 Rows.spanTwoRow.domain false) (Rows.spanTwoSpec.post enc Try.prog Try.f3 false true false false) := by
  refine returnsInHanded_of_change (C := Try.checked) Try.own started (by kernel_rfl) Try.func3
    (ChangeSpec.witness6 (enc := enc) (C := Try.checked) false ⟨#[], #[.agg #[.int .i64 0, .int .i64 0], .agg #[.int .i64 0, .int .i64 0], .int .i64 0], []⟩ 8 (by kernel_rfl) (by kernel_rfl) (by kernel_rfl) (by kernel_rfl)) ?_
  intro W base args ds gs before hval0 hW _ _
  have hval : ∀ (j : Nat) t v, Try.f3.params[j]? = some t → args[j]? = some v → Value.okWide Try.prog W .any base t v := hval0
  have hW' := hW
  obtain ⟨p, q, hA0, hV, rfl, _, _⟩ := hW
  have hA : DataW.TrodAll enc Try.prog W 0 (fun _ => true) true Try.f3.params.toList args.toList ds p := hA0
  rw [Try.params3] at hA hval
  obtain ⟨v0, v1, v2, d0, d1, d2, p0, p1, p2, rfl, rfl, rfl, h0, h1, h2⟩ := trodAll_three hA
  obtain ⟨rfl, rfl⟩ := trodVars_none hV
  obtain ⟨a0, rfl, w0, x0⟩ := open_sp (hval 0 _ v0 rfl rfl) h0
  obtain ⟨a1, rfl, w1, x1⟩ := open_sp (hval 1 _ v1 rfl rfl) h1
  obtain ⟨a2, rfl, rfl, rfl, w2⟩ := open_int Try.underlying3 (hval 2 _ v2 rfl rfl) h2
  have w2 := wf_int w2
  refine (walk a0 a1 a2 W).mono fun e W' ⟨he, hb⟩ => ⟨_, he, ?_⟩
  exact law_post Try.laidOut (by decide +kernel) rfl Try.underlying4 rfl hW' rfl hb

theorem holds : Rows.SpanTwoSaid :=
  OpenClaim.holds_of_wide 3 Try.f3 rfl rfl rfl rfl rfl rfl rfl ⟨rfl, rfl, rfl, rfl, rfl⟩ rfl rfl rfl rfl rfl (by kernel_rfl) Try.func3 (by kernel_rfl)
    (of_decide_eq_true (by kernel_rfl)) (by unfold Func.isWrapper; first | (rw [if_pos (by decide +kernel)]; kernel_rfl) | (rw [if_neg (by decide +kernel)]; exact ⟨rfl, rfl⟩))
    (fun os started H enc _ => lifted os started H enc)
end Go.Proofs.Ytoikhgldffgelaa.L01
