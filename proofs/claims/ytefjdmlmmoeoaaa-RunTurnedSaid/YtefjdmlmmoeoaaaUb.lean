/- Layer 8: what a block is, by the project. -/
import Derived.Test.YtefjdmlmmoeoaaaTb
import Derived.Test.YtefjdmlmmoeoaaaRR
namespace Go.Proofs.Ytefjdmlmmoeoaaa
open Go.RowKit
set_option linter.unusedVariables false

theorem cmp_less {a b : Ver} (h : lessV a b = true) : cmpV a b < 0 := by rw [lessV_iff, decide_eq_true_eq] at h; exact h
theorem cmp_more {a b : Ver} (h : lessV a b = false) : 0 ≤ cmpV a b := by rw [lessV_iff, decide_eq_false_iff_not] at h; omega

set_option maxHeartbeats 8000000 in
set_option maxRecDepth 100000 in
theorem blk_mayP (va : Value) (l : List Ver) (w : World) (ha : RdVr w w.heap.size va l) (hk : ∀ v ∈ l, v.key.size ≤ 1000000) :
    Calls Try.prog 70 #[va] w fun e w' => e = .returned (.bool (blkB l)) ∧ Below w.heap.size w w' := by
  have HA := Lib.hid ha
  have HK := Lib.hid hk
  have HR := Lib.hid (show blkB l = (okTo l l.length && decide (1 ≤ l.length) && decide (l.length ≤ 8)) from rfl)
  obtain ⟨A, ca, rfl, hla, hca, -⟩ := ha
  generalize blkB l = res at *
  clear hk
  by_cases h0 : l.length = 0
  · have z0 : ((l.length : Int) == 0) = true := by rw [beq_iff_eq]; omega
    have hr := HR.out
    rw [show decide (1 ≤ l.length) = false from by rw [decide_eq_false_iff_not]; omega, Bool.and_false, Bool.false_and] at hr
    have HR2 := Lib.hid hr
    clear hr
    go_enter Try.func70, Try.ntmps70
    go_wp2_with fail
    go_ret
    exact ⟨ret_bool (by rw [HR2.out]), Below.refl _ _⟩
  have z0 : ((l.length : Int) == 0) = false := by rw [beq_eq_false_iff_ne]; omega
  by_cases h8 : 8 < l.length
  · have z8 : decide ((8 : Int) < (l.length : Int)) = true := by simp; omega
    have hr := HR.out
    rw [show decide (l.length ≤ 8) = false from by rw [decide_eq_false_iff_not]; omega, Bool.and_false] at hr
    have HR2 := Lib.hid hr
    clear hr
    go_enter Try.func70, Try.ntmps70
    go_wp2_with fail
    go_ret
    exact ⟨ret_bool (by rw [HR2.out]), Below.refl _ _⟩
  have z8 : decide ((8 : Int) < (l.length : Int)) = false := by rw [decide_eq_false_iff_not]; omega
  have H8 := Lib.hid (show 1 ≤ l.length ∧ l.length ≤ 8 from by omega)
  clear h0 h8
  go_enter Try.func70, Try.ntmps70
  go_wp2_with fail
  clear z0 z8
  go_loopw [15] (fun i wr => ∃ k : Nat, i = .int .i64 k ∧ k ≤ l.length ∧ okTo l k = true ∧ Below w.heap.size w wr) (fun i _ => l.length - (intOf i).toNat)
  case atStart => exact ⟨0, rfl, Nat.zero_le _, rfl, Below.refl _ _⟩
  case round =>
    obtain ⟨k, rfl, hk, hok, hbw⟩ := hrel
    have G := Lib.hid hbw
    have OK := Lib.hid hok
    clear hbw hok
    by_cases hlt : k < l.length
    · have zl : decide ((k : Int) < (l.length : Int)) = true := by simp; omega
      have hat : okAt l k = (mayV l[k] && (decide (k = 0) || lessV (l.getD (k - 1) zeroV) l[k])) := by unfold okAt; rw [getD_at hlt]
      have HBAD := Lib.hid (fun h => okTo_bad (l := l) (k := k) (n := l.length) h hlt)
      have HOK := Lib.hid (show okAt l k = true → okTo l (k + 1) = true from fun h => by rw [okTo_succ, OK.out, h]; rfl)
      have HAT := Lib.hid hat
      have MV := Lib.hid (fun w => row_may l[k] w (HK.out _ (List.getElem_mem hlt)))
      obtain ⟨b, o, eA, hbb, c0, c1, c2, c3, c4, c5, c6, c7⟩ := RdVr.here (HA.out.below G.out) k hlt
      subst eA
      have CMP := Lib.hid (fun w => row_compare (l.getD (k - 1) zeroV) l[k] w)
      obtain ⟨p, hp⟩ : ∃ p, l[k] = p := ⟨_, rfl⟩
      rw [hp] at MV CMP HAT c0 c1 c2 c3 c4 c5 c6 c7
      clear hat
      obtain ⟨kk, bb, ee, ss, ⟨xx, yy⟩, uu, gg⟩ := p
      unfold verV at MV CMP
      simp only at MV CMP c0 c1 c2 c3 c4 c5 c6 c7
      clear hp hbb
      have BX := Lib.hid (show Box (wr.alloc (.cells #[.string kk, .int .i64 bb, .int .i64 ee, .int .i64 ss, .int .i64 xx, .int .i64 yy, .string uu, .bool gg] 42)).drew wr.heap.size #[.string kk, .int .i64 bb, .int .i64 ee, .int .i64 ss, .int .i64 xx, .int .i64 yy, .string uu, .bool gg] 42 from Box.new wr #[.string kk, .int .i64 bb, .int .i64 ee, .int .i64 ss, .int .i64 xx, .int .i64 yy, .string uu, .bool gg] 42 _ rfl)
      have G := Lib.hid (show Below w.heap.size w (wr.alloc (.cells #[.string kk, .int .i64 bb, .int .i64 ee, .int .i64 ss, .int .i64 xx, .int .i64 yy, .string uu, .bool gg] 42)).drew from (G.out.alloc G.out.size _).drew)
      cases hm : mayV ⟨kk, bb, ee, ss, (xx, yy), uu, gg⟩
      · rw [hm, Bool.false_and] at HAT
        rw [hm] at MV
        have HB := Lib.hid (HBAD.out HAT.out)
        clear hm
        go_wp2_with fail
        generalize hw4 : wr.alloc (.cells #[.string kk, .int .i64 bb, .int .i64 ee, .int .i64 ss, .int .i64 xx, .int .i64 yy, .string uu, .bool gg] 42) = w4 at *
        clear hw4 c0 c1 c2 c3 c4 c5 c6 c7
        refine reg_start (by kernel_rfl) ?_
        refine reg_take2 0 20 (v := ?_) (T' := ?_) (Later.refl _) (by kernel_rfl) (by kernel_rfl) (by kernel_rfl) (fun _ _ _ h => h) (fun o ho => ?_) ?_ ?_
        rotate_left 2
        · cases ho
          refine ⟨rfl, rfl, fun W hW => ?_⟩
          have BW := BX.out.later hW
          have c0 := BW.cell 0 (.string kk) rfl
          have c1 := BW.cell 1 (.int .i64 bb) rfl
          have c2 := BW.cell 2 (.int .i64 ee) rfl
          have c3 := BW.cell 3 (.int .i64 ss) rfl
          have c4 := BW.cell 4 (.int .i64 xx) rfl
          have c5 := BW.cell 5 (.int .i64 yy) rfl
          have c6 := BW.cell 6 (.string uu) rfl
          have c7 := BW.cell 7 (.bool gg) rfl
          go_simp; (try with_reducible rfl)
        · simp only [List.setIfInBounds_toArray, List.set_cons_succ, List.set_cons_zero]; exact rfl
        refine reg_call2 1 21 (Later.refl _) (by kernel_rfl) 87 #[.agg #[.string kk, .int .i64 bb, .int .i64 ee, .int .i64 ss, .int .i64 xx, .int .i64 yy, .string uu, .bool gg]] (fun o ho => by cases ho; exact ⟨rfl, rfl, fun W => by go_simp⟩) ?_
        refine (MV.out _).mono ?_
        rintro e x1 ⟨rfl, hb1⟩
        have BX := Lib.hid (BX.out.later hb1)
        have G := Lib.hid (G.out.trans (hb1.mono G.out.size))
        refine ⟨_, _, rfl, hb1, (by simp only [List.setIfInBounds_toArray, List.set_cons_succ, List.set_cons_zero]; exact rfl), ?_⟩
        clear hb1
        refine reg_take2 2 22 (v := ?_) (T' := ?_) (Later.refl _) (by kernel_rfl) (by kernel_rfl) (by kernel_rfl) (fun _ _ _ h => h) (fun o ho => ?_) ?_ ?_
        rotate_left 2
        · cases ho
          refine ⟨rfl, rfl, fun W hW => ?_⟩
          go_simp; (try with_reducible rfl)
        · simp only [List.setIfInBounds_toArray, List.set_cons_succ, List.set_cons_zero]; exact rfl
        refine reg_take2 3 23 (v := ?_) (T' := ?_) (Later.refl _) (by kernel_rfl) (by kernel_rfl) (by kernel_rfl) (fun _ _ _ h => h) (fun o ho => ?_) ?_ ?_
        rotate_left 2
        · cases ho
          refine ⟨rfl, rfl, fun W hW => ?_⟩
          go_simp; (try with_reducible rfl)
        · simp only [List.setIfInBounds_toArray, List.set_cons_succ, List.set_cons_zero]; exact rfl
        refine reg_skip2 4 24 (T' := ?_) (Later.refl _) (by kernel_rfl) (by kernel_rfl) (by kernel_rfl) (fun _ _ _ h => h) (fun o ho => by cases ho; exact ⟨rfl, rfl⟩) ?_ ?_
        rotate_left
        · simp only [List.setIfInBounds_toArray, List.set_cons_succ, List.set_cons_zero]; exact rfl
        refine reg_skip2 5 25 (T' := ?_) (Later.refl _) (by kernel_rfl) (by kernel_rfl) (by kernel_rfl) (fun _ _ _ h => h) (fun o ho => by cases ho; exact ⟨rfl, rfl⟩) ?_ ?_
        rotate_left
        · simp only [List.setIfInBounds_toArray, List.set_cons_succ, List.set_cons_zero]; exact rfl
        refine reg_skip2 6 26 (T' := ?_) (Later.refl _) (by kernel_rfl) (by kernel_rfl) (by kernel_rfl) (fun _ _ _ h => h) (fun o ho => by cases ho; exact ⟨rfl, rfl⟩) ?_ ?_
        rotate_left
        · simp only [List.setIfInBounds_toArray, List.set_cons_succ, List.set_cons_zero]; exact rfl
        refine reg_skip2 7 27 (T' := ?_) (Later.refl _) (by kernel_rfl) (by kernel_rfl) (by kernel_rfl) (fun _ _ _ h => h) (fun o ho => by cases ho; exact ⟨rfl, rfl⟩) ?_ ?_
        rotate_left
        · simp only [List.setIfInBounds_toArray, List.set_cons_succ, List.set_cons_zero]; exact rfl
        refine reg_skip2 8 28 (T' := ?_) (Later.refl _) (by kernel_rfl) (by kernel_rfl) (by kernel_rfl) (fun _ _ _ h => h) (fun o ho => by cases ho; exact ⟨rfl, rfl⟩) ?_ ?_
        rotate_left
        · simp only [List.setIfInBounds_toArray, List.set_cons_succ, List.set_cons_zero]; exact rfl
        refine reg_skip2 9 29 (T' := ?_) (Later.refl _) (by kernel_rfl) (by kernel_rfl) (by kernel_rfl) (fun _ _ _ h => h) (fun o ho => by cases ho; exact ⟨rfl, rfl⟩) ?_ ?_
        rotate_left
        · simp only [List.setIfInBounds_toArray, List.set_cons_succ, List.set_cons_zero]; exact rfl
        refine reg_skip2 10 30 (T' := ?_) (Later.refl _) (by kernel_rfl) (by kernel_rfl) (by kernel_rfl) (fun _ _ _ h => h) (fun o ho => by cases ho; exact ⟨rfl, rfl⟩) ?_ ?_
        rotate_left
        · simp only [List.setIfInBounds_toArray, List.set_cons_succ, List.set_cons_zero]; exact rfl
        refine reg_skip2 11 31 (T' := ?_) (Later.refl _) (by kernel_rfl) (by kernel_rfl) (by kernel_rfl) (fun _ _ _ h => h) (fun o ho => by cases ho; exact ⟨rfl, rfl⟩) ?_ ?_
        rotate_left
        · simp only [List.setIfInBounds_toArray, List.set_cons_succ, List.set_cons_zero]; exact rfl
        refine reg_skip2 12 32 (T' := ?_) (Later.refl _) (by kernel_rfl) (by kernel_rfl) (by kernel_rfl) (fun _ _ _ h => h) (fun o ho => by cases ho; exact ⟨rfl, rfl⟩) ?_ ?_
        rotate_left
        · simp only [List.setIfInBounds_toArray, List.set_cons_succ, List.set_cons_zero]; exact rfl
        refine reg_skip2 13 33 (T' := ?_) (Later.refl _) (by kernel_rfl) (by kernel_rfl) (by kernel_rfl) (fun _ _ _ h => h) (fun o ho => by cases ho; exact ⟨rfl, rfl⟩) ?_ ?_
        rotate_left
        · simp only [List.setIfInBounds_toArray, List.set_cons_succ, List.set_cons_zero]; exact rfl
        refine reg_skip2 14 34 (T' := ?_) (Later.refl _) (by kernel_rfl) (by kernel_rfl) (by kernel_rfl) (fun _ _ _ h => h) (fun o ho => by cases ho; exact ⟨rfl, rfl⟩) ?_ ?_
        rotate_left
        · simp only [List.setIfInBounds_toArray, List.set_cons_succ, List.set_cons_zero]; exact rfl
        refine reg_skip2 15 35 (T' := ?_) (Later.refl _) (by kernel_rfl) (by kernel_rfl) (by kernel_rfl) (fun _ _ _ h => h) (fun o ho => by cases ho; exact ⟨rfl, rfl⟩) ?_ ?_
        rotate_left
        · simp only [List.setIfInBounds_toArray, List.set_cons_succ, List.set_cons_zero]; exact rfl
        refine reg_take2 16 36 (v := ?_) (T' := ?_) (Later.refl _) (by kernel_rfl) (by kernel_rfl) (by kernel_rfl) (fun _ _ _ h => h) (fun o ho => ?_) ?_ ?_
        rotate_left 2
        · cases ho
          refine ⟨rfl, rfl, fun W hW => ?_⟩
          go_simp; (try with_reducible rfl)
        · simp only [List.setIfInBounds_toArray, List.set_cons_succ, List.set_cons_zero]; exact rfl
        refine reg_done (by kernel_rfl) ?_
        go_wp2_with fail
        go_ret
        exact ⟨ret_bool (by rw [HR.out, HB.out]; rfl), G.out⟩
      · rw [hm, Bool.true_and] at HAT
        rw [hm] at MV
        clear hm
        by_cases hk0 : k = 0
        · rw [decide_eq_true hk0, Bool.true_or] at HAT
          have HN := Lib.hid (HOK.out HAT.out)
          have zk : decide ((0 : Int) < (k : Int)) = false := by rw [decide_eq_false_iff_not]; omega
          have zk2 : decide (0 < k) = false := by rw [decide_eq_false_iff_not]; omega
          clear hk0
          go_wp2_with fail
          generalize hw4 : wr.alloc (.cells #[.string kk, .int .i64 bb, .int .i64 ee, .int .i64 ss, .int .i64 xx, .int .i64 yy, .string uu, .bool gg] 42) = w4 at *
          clear hw4 c0 c1 c2 c3 c4 c5 c6 c7
          refine reg_start (by kernel_rfl) ?_
          refine reg_take2 0 20 (v := ?_) (T' := ?_) (Later.refl _) (by kernel_rfl) (by kernel_rfl) (by kernel_rfl) (fun _ _ _ h => h) (fun o ho => ?_) ?_ ?_
          rotate_left 2
          · cases ho
            refine ⟨rfl, rfl, fun W hW => ?_⟩
            have BW := BX.out.later hW
            have c0 := BW.cell 0 (.string kk) rfl
            have c1 := BW.cell 1 (.int .i64 bb) rfl
            have c2 := BW.cell 2 (.int .i64 ee) rfl
            have c3 := BW.cell 3 (.int .i64 ss) rfl
            have c4 := BW.cell 4 (.int .i64 xx) rfl
            have c5 := BW.cell 5 (.int .i64 yy) rfl
            have c6 := BW.cell 6 (.string uu) rfl
            have c7 := BW.cell 7 (.bool gg) rfl
            go_simp; (try with_reducible rfl)
          · simp only [List.setIfInBounds_toArray, List.set_cons_succ, List.set_cons_zero]; exact rfl
          refine reg_call2 1 21 (Later.refl _) (by kernel_rfl) 87 #[.agg #[.string kk, .int .i64 bb, .int .i64 ee, .int .i64 ss, .int .i64 xx, .int .i64 yy, .string uu, .bool gg]] (fun o ho => by cases ho; exact ⟨rfl, rfl, fun W => by go_simp⟩) ?_
          refine (MV.out _).mono ?_
          rintro e x1 ⟨rfl, hb1⟩
          have BX := Lib.hid (BX.out.later hb1)
          have G := Lib.hid (G.out.trans (hb1.mono G.out.size))
          refine ⟨_, _, rfl, hb1, (by simp only [List.setIfInBounds_toArray, List.set_cons_succ, List.set_cons_zero]; exact rfl), ?_⟩
          clear hb1
          refine reg_take2 2 22 (v := ?_) (T' := ?_) (Later.refl _) (by kernel_rfl) (by kernel_rfl) (by kernel_rfl) (fun _ _ _ h => h) (fun o ho => ?_) ?_ ?_
          rotate_left 2
          · cases ho
            refine ⟨rfl, rfl, fun W hW => ?_⟩
            go_simp; (try with_reducible rfl)
          · simp only [List.setIfInBounds_toArray, List.set_cons_succ, List.set_cons_zero]; exact rfl
          refine reg_take2 3 23 (v := ?_) (T' := ?_) (Later.refl _) (by kernel_rfl) (by kernel_rfl) (by kernel_rfl) (fun _ _ _ h => h) (fun o ho => ?_) ?_ ?_
          rotate_left 2
          · cases ho
            refine ⟨rfl, rfl, fun W hW => ?_⟩
            go_simp; (try with_reducible rfl)
          · simp only [List.setIfInBounds_toArray, List.set_cons_succ, List.set_cons_zero]; exact rfl
          refine reg_take2 4 24 (v := ?_) (T' := ?_) (Later.refl _) (by kernel_rfl) (by kernel_rfl) (by kernel_rfl) (fun _ _ _ h => h) (fun o ho => ?_) ?_ ?_
          rotate_left 2
          · cases ho
            refine ⟨rfl, rfl, fun W hW => ?_⟩
            go_simp; (try with_reducible rfl)
          · simp only [List.setIfInBounds_toArray, List.set_cons_succ, List.set_cons_zero]; exact rfl
          refine reg_take2 5 25 (v := ?_) (T' := ?_) (Later.refl _) (by kernel_rfl) (by kernel_rfl) (by kernel_rfl) (fun _ _ _ h => h) (fun o ho => ?_) ?_ ?_
          rotate_left 2
          · cases ho
            refine ⟨rfl, rfl, fun W hW => ?_⟩
            go_simp; (try with_reducible rfl)
          · simp only [List.setIfInBounds_toArray, List.set_cons_succ, List.set_cons_zero]; exact rfl
          refine reg_take2 6 26 (v := ?_) (T' := ?_) (Later.refl _) (by kernel_rfl) (by kernel_rfl) (by kernel_rfl) (fun _ _ _ h => h) (fun o ho => ?_) ?_ ?_
          rotate_left 2
          · cases ho
            refine ⟨rfl, rfl, fun W hW => ?_⟩
            go_simp; (try with_reducible rfl)
          · simp only [List.setIfInBounds_toArray, List.set_cons_succ, List.set_cons_zero]; exact rfl
          refine reg_skip2 7 27 (T' := ?_) (Later.refl _) (by kernel_rfl) (by kernel_rfl) (by kernel_rfl) (fun _ _ _ h => h) (fun o ho => by cases ho; exact ⟨rfl, rfl⟩) ?_ ?_
          rotate_left
          · simp only [List.setIfInBounds_toArray, List.set_cons_succ, List.set_cons_zero]; exact rfl
          refine reg_skip2 8 28 (T' := ?_) (Later.refl _) (by kernel_rfl) (by kernel_rfl) (by kernel_rfl) (fun _ _ _ h => h) (fun o ho => by cases ho; exact ⟨rfl, rfl⟩) ?_ ?_
          rotate_left
          · simp only [List.setIfInBounds_toArray, List.set_cons_succ, List.set_cons_zero]; exact rfl
          refine reg_skip2 9 29 (T' := ?_) (Later.refl _) (by kernel_rfl) (by kernel_rfl) (by kernel_rfl) (fun _ _ _ h => h) (fun o ho => by cases ho; exact ⟨rfl, rfl⟩) ?_ ?_
          rotate_left
          · simp only [List.setIfInBounds_toArray, List.set_cons_succ, List.set_cons_zero]; exact rfl
          refine reg_skip2 10 30 (T' := ?_) (Later.refl _) (by kernel_rfl) (by kernel_rfl) (by kernel_rfl) (fun _ _ _ h => h) (fun o ho => by cases ho; exact ⟨rfl, rfl⟩) ?_ ?_
          rotate_left
          · simp only [List.setIfInBounds_toArray, List.set_cons_succ, List.set_cons_zero]; exact rfl
          refine reg_skip2 11 31 (T' := ?_) (Later.refl _) (by kernel_rfl) (by kernel_rfl) (by kernel_rfl) (fun _ _ _ h => h) (fun o ho => by cases ho; exact ⟨rfl, rfl⟩) ?_ ?_
          rotate_left
          · simp only [List.setIfInBounds_toArray, List.set_cons_succ, List.set_cons_zero]; exact rfl
          refine reg_skip2 12 32 (T' := ?_) (Later.refl _) (by kernel_rfl) (by kernel_rfl) (by kernel_rfl) (fun _ _ _ h => h) (fun o ho => by cases ho; exact ⟨rfl, rfl⟩) ?_ ?_
          rotate_left
          · simp only [List.setIfInBounds_toArray, List.set_cons_succ, List.set_cons_zero]; exact rfl
          refine reg_skip2 13 33 (T' := ?_) (Later.refl _) (by kernel_rfl) (by kernel_rfl) (by kernel_rfl) (fun _ _ _ h => h) (fun o ho => by cases ho; exact ⟨rfl, rfl⟩) ?_ ?_
          rotate_left
          · simp only [List.setIfInBounds_toArray, List.set_cons_succ, List.set_cons_zero]; exact rfl
          refine reg_skip2 14 34 (T' := ?_) (Later.refl _) (by kernel_rfl) (by kernel_rfl) (by kernel_rfl) (fun _ _ _ h => h) (fun o ho => by cases ho; exact ⟨rfl, rfl⟩) ?_ ?_
          rotate_left
          · simp only [List.setIfInBounds_toArray, List.set_cons_succ, List.set_cons_zero]; exact rfl
          refine reg_take2 15 35 (v := ?_) (T' := ?_) (Later.refl _) (by kernel_rfl) (by kernel_rfl) (by kernel_rfl) (fun _ _ _ h => h) (fun o ho => ?_) ?_ ?_
          rotate_left 2
          · cases ho
            refine ⟨rfl, rfl, fun W hW => ?_⟩
            go_simp; (try with_reducible rfl)
          · simp only [List.setIfInBounds_toArray, List.set_cons_succ, List.set_cons_zero]; exact rfl
          refine reg_take2 16 36 (v := ?_) (T' := ?_) (Later.refl _) (by kernel_rfl) (by kernel_rfl) (by kernel_rfl) (fun _ _ _ h => h) (fun o ho => ?_) ?_ ?_
          rotate_left 2
          · cases ho
            refine ⟨rfl, rfl, fun W hW => ?_⟩
            go_simp; (try with_reducible rfl)
          · simp only [List.setIfInBounds_toArray, List.set_cons_succ, List.set_cons_zero]; exact rfl
          refine reg_done (by kernel_rfl) ?_
          go_wp2_with fail
          go_roundw
          case rel => exact ⟨k + 1, by go_num, by omega, HN.out, G.out⟩
          case measure => simp [intOf]; omega
        · rw [decide_eq_false hk0, Bool.false_or] at HAT
          have hlt1 : k - 1 < l.length := by omega
          rw [getD_at hlt1] at HAT CMP
          have zk : decide ((0 : Int) < (k : Int)) = true := by simp; omega
          have zk2 : decide (0 < k) = true := by simp; omega
          have hsub : (k : Int) - 1 = ((k - 1 : Nat) : Int) := by omega
          have hw64 : IntKind.i64.wrap ((k - 1 : Nat) : Int) = ((k - 1 : Nat) : Int) := by rw [IntKind.wrap_i64]; have := H8.out; omega
          have hi1 : ((k - 1 : Nat) : Int) < (l.length : Int) := by omega
          obtain ⟨q, hq⟩ : ∃ q, l[k - 1] = q := ⟨_, rfl⟩
          rw [hq] at HAT CMP
          obtain ⟨kk', bb', ee', ss', ⟨xx', yy'⟩, uu', gg'⟩ := q
          have QQ := Lib.hid hq
          simp only at CMP
          clear hq
          have HCL := Lib.hid (fun h => cmp_less (a := ⟨kk', bb', ee', ss', (xx', yy'), uu', gg'⟩) (b := ⟨kk, bb, ee, ss, (xx, yy), uu, gg⟩) h)
          have HCM := Lib.hid (fun h => cmp_more (a := ⟨kk', bb', ee', ss', (xx', yy'), uu', gg'⟩) (b := ⟨kk, bb, ee, ss, (xx, yy), uu, gg⟩) h)
          generalize cmpV ⟨kk', bb', ee', ss', (xx', yy'), uu', gg'⟩ ⟨kk, bb, ee, ss, (xx, yy), uu, gg⟩ = cq at *
          cases hls : lessV ⟨kk', bb', ee', ss', (xx', yy'), uu', gg'⟩ ⟨kk, bb, ee, ss, (xx, yy), uu, gg⟩
          · rw [hls] at HAT
            have hcq := HCM.out hls
            have zc : decide ((0 : Int) ≤ cq) = true := by simp; omega
            have HB := Lib.hid (HBAD.out HAT.out)
            clear hls HCL HCM
            go_wp2_with fail
            generalize hw4 : wr.alloc (.cells #[.string kk, .int .i64 bb, .int .i64 ee, .int .i64 ss, .int .i64 xx, .int .i64 yy, .string uu, .bool gg] 42) = w4 at *
            clear hw4 c0 c1 c2 c3 c4 c5 c6 c7
            refine reg_start (by kernel_rfl) ?_
            refine reg_take2 0 20 (v := ?_) (T' := ?_) (Later.refl _) (by kernel_rfl) (by kernel_rfl) (by kernel_rfl) (fun _ _ _ h => h) (fun o ho => ?_) ?_ ?_
            rotate_left 2
            · cases ho
              refine ⟨rfl, rfl, fun W hW => ?_⟩
              have BW := BX.out.later hW
              have c0 := BW.cell 0 (.string kk) rfl
              have c1 := BW.cell 1 (.int .i64 bb) rfl
              have c2 := BW.cell 2 (.int .i64 ee) rfl
              have c3 := BW.cell 3 (.int .i64 ss) rfl
              have c4 := BW.cell 4 (.int .i64 xx) rfl
              have c5 := BW.cell 5 (.int .i64 yy) rfl
              have c6 := BW.cell 6 (.string uu) rfl
              have c7 := BW.cell 7 (.bool gg) rfl
              go_simp; (try with_reducible rfl)
            · simp only [List.setIfInBounds_toArray, List.set_cons_succ, List.set_cons_zero]; exact rfl
            refine reg_call2 1 21 (Later.refl _) (by kernel_rfl) 87 #[.agg #[.string kk, .int .i64 bb, .int .i64 ee, .int .i64 ss, .int .i64 xx, .int .i64 yy, .string uu, .bool gg]] (fun o ho => by cases ho; exact ⟨rfl, rfl, fun W => by go_simp⟩) ?_
            refine (MV.out _).mono ?_
            rintro e x1 ⟨rfl, hb1⟩
            have BX := Lib.hid (BX.out.later hb1)
            have G := Lib.hid (G.out.trans (hb1.mono G.out.size))
            refine ⟨_, _, rfl, hb1, (by simp only [List.setIfInBounds_toArray, List.set_cons_succ, List.set_cons_zero]; exact rfl), ?_⟩
            clear hb1
            refine reg_take2 2 22 (v := ?_) (T' := ?_) (Later.refl _) (by kernel_rfl) (by kernel_rfl) (by kernel_rfl) (fun _ _ _ h => h) (fun o ho => ?_) ?_ ?_
            rotate_left 2
            · cases ho
              refine ⟨rfl, rfl, fun W hW => ?_⟩
              go_simp; (try with_reducible rfl)
            · simp only [List.setIfInBounds_toArray, List.set_cons_succ, List.set_cons_zero]; exact rfl
            refine reg_take2 3 23 (v := ?_) (T' := ?_) (Later.refl _) (by kernel_rfl) (by kernel_rfl) (by kernel_rfl) (fun _ _ _ h => h) (fun o ho => ?_) ?_ ?_
            rotate_left 2
            · cases ho
              refine ⟨rfl, rfl, fun W hW => ?_⟩
              go_simp; (try with_reducible rfl)
            · simp only [List.setIfInBounds_toArray, List.set_cons_succ, List.set_cons_zero]; exact rfl
            refine reg_take2 4 24 (v := ?_) (T' := ?_) (Later.refl _) (by kernel_rfl) (by kernel_rfl) (by kernel_rfl) (fun _ _ _ h => h) (fun o ho => ?_) ?_ ?_
            rotate_left 2
            · cases ho
              refine ⟨rfl, rfl, fun W hW => ?_⟩
              go_simp; (try with_reducible rfl)
            · simp only [List.setIfInBounds_toArray, List.set_cons_succ, List.set_cons_zero]; exact rfl
            refine reg_take2 5 25 (v := ?_) (T' := ?_) (Later.refl _) (by kernel_rfl) (by kernel_rfl) (by kernel_rfl) (fun _ _ _ h => h) (fun o ho => ?_) ?_ ?_
            rotate_left 2
            · cases ho
              refine ⟨rfl, rfl, fun W hW => ?_⟩
              go_simp; (try with_reducible rfl)
            · simp only [List.setIfInBounds_toArray, List.set_cons_succ, List.set_cons_zero]; exact rfl
            refine reg_take2 6 26 (v := ?_) (T' := ?_) (Later.refl _) (by kernel_rfl) (by kernel_rfl) (by kernel_rfl) (fun _ _ _ h => h) (fun o ho => ?_) ?_ ?_
            rotate_left 2
            · cases ho
              refine ⟨rfl, rfl, fun W hW => ?_⟩
              go_simp; (try with_reducible rfl)
            · simp only [List.setIfInBounds_toArray, List.set_cons_succ, List.set_cons_zero]; exact rfl
            refine reg_take2 7 27 (v := ?_) (T' := ?_) (Later.refl _) (by kernel_rfl) (by kernel_rfl) (by kernel_rfl) (fun _ _ _ h => h) (fun o ho => ?_) ?_ ?_
            rotate_left 2
            · cases ho
              refine ⟨rfl, rfl, fun W hW => ?_⟩
              go_simp; (try with_reducible rfl)
            · simp only [List.setIfInBounds_toArray, List.set_cons_succ, List.set_cons_zero]; exact rfl
            refine reg_take2 8 28 (v := ?_) (T' := ?_) (Later.refl _) (by kernel_rfl) (by kernel_rfl) (by kernel_rfl) (fun _ _ _ h => h) (fun o ho => ?_) ?_ ?_
            rotate_left 2
            · cases ho
              refine ⟨rfl, rfl, fun W hW => ?_⟩
              go_simp; (try with_reducible rfl)
            · simp only [List.setIfInBounds_toArray, List.set_cons_succ, List.set_cons_zero]; exact rfl
            refine reg_take2 9 29 (v := ?_) (T' := ?_) (Later.refl _) (by kernel_rfl) (by kernel_rfl) (by kernel_rfl) (fun _ _ _ h => h) (fun o ho => ?_) ?_ ?_
            rotate_left 2
            · cases ho
              refine ⟨rfl, rfl, fun W hW => ?_⟩
              go_simp; (try with_reducible rfl)
            · simp only [List.setIfInBounds_toArray, List.set_cons_succ, List.set_cons_zero]; exact rfl
            refine reg_take2 10 30 (v := ?_) (T' := ?_) (Later.refl _) (by kernel_rfl) (by kernel_rfl) (by kernel_rfl) (fun _ _ _ h => h) (fun o ho => ?_) ?_ ?_
            rotate_left 2
            · cases ho
              refine ⟨rfl, rfl, fun W hW => ?_⟩
              go_simp; (try with_reducible rfl)
            · simp only [List.setIfInBounds_toArray, List.set_cons_succ, List.set_cons_zero]; exact rfl
            refine reg_take2 11 31 (v := ?_) (T' := ?_) (Later.refl _) (by kernel_rfl) (by kernel_rfl) (by kernel_rfl) (fun _ _ _ h => h) (fun o ho => ?_) ?_ ?_
            rotate_left 2
            · cases ho
              refine ⟨rfl, rfl, fun W hW => ?_⟩
              obtain ⟨-, d0, d1, d2, d3, d4, d5, d6, d7⟩ := RdVr.cells1 (HA.out.below (G.out.trans (hW.mono G.out.size))) (k - 1) hlt1 QQ.out
              go_simp; (try with_reducible rfl)
            · simp only [List.setIfInBounds_toArray, List.set_cons_succ, List.set_cons_zero]; exact rfl
            refine reg_take2 12 32 (v := ?_) (T' := ?_) (Later.refl _) (by kernel_rfl) (by kernel_rfl) (by kernel_rfl) (fun _ _ _ h => h) (fun o ho => ?_) ?_ ?_
            rotate_left 2
            · cases ho
              refine ⟨rfl, rfl, fun W hW => ?_⟩
              have BW := BX.out.later hW
              have c0 := BW.cell 0 (.string kk) rfl
              have c1 := BW.cell 1 (.int .i64 bb) rfl
              have c2 := BW.cell 2 (.int .i64 ee) rfl
              have c3 := BW.cell 3 (.int .i64 ss) rfl
              have c4 := BW.cell 4 (.int .i64 xx) rfl
              have c5 := BW.cell 5 (.int .i64 yy) rfl
              have c6 := BW.cell 6 (.string uu) rfl
              have c7 := BW.cell 7 (.bool gg) rfl
              go_simp; (try with_reducible rfl)
            · simp only [List.setIfInBounds_toArray, List.set_cons_succ, List.set_cons_zero]; exact rfl
            refine reg_call2 13 33 (Later.refl _) (by kernel_rfl) 50 #[.agg #[.string kk', .int .i64 bb', .int .i64 ee', .int .i64 ss', .int .i64 xx', .int .i64 yy', .string uu', .bool gg'], .agg #[.string kk, .int .i64 bb, .int .i64 ee, .int .i64 ss, .int .i64 xx, .int .i64 yy, .string uu, .bool gg]] (fun o ho => by cases ho; exact ⟨rfl, rfl, fun W => by go_simp⟩) ?_
            refine (CMP.out _).mono ?_
            rintro e x2 ⟨rfl, hb2⟩
            have G := Lib.hid (G.out.trans (hb2.mono G.out.size))
            refine ⟨_, _, rfl, hb2, (by simp only [List.setIfInBounds_toArray, List.set_cons_succ, List.set_cons_zero]; exact rfl), ?_⟩
            clear hb2
            refine reg_take2 14 34 (v := ?_) (T' := ?_) (Later.refl _) (by kernel_rfl) (by kernel_rfl) (by kernel_rfl) (fun _ _ _ h => h) (fun o ho => ?_) ?_ ?_
            rotate_left 2
            · cases ho
              refine ⟨rfl, rfl, fun W hW => ?_⟩
              go_simp; (try with_reducible rfl)
            · simp only [List.setIfInBounds_toArray, List.set_cons_succ, List.set_cons_zero]; exact rfl
            refine reg_take2 15 35 (v := ?_) (T' := ?_) (Later.refl _) (by kernel_rfl) (by kernel_rfl) (by kernel_rfl) (fun _ _ _ h => h) (fun o ho => ?_) ?_ ?_
            rotate_left 2
            · cases ho
              refine ⟨rfl, rfl, fun W hW => ?_⟩
              go_simp; (try with_reducible rfl)
            · simp only [List.setIfInBounds_toArray, List.set_cons_succ, List.set_cons_zero]; exact rfl
            refine reg_take2 16 36 (v := ?_) (T' := ?_) (Later.refl _) (by kernel_rfl) (by kernel_rfl) (by kernel_rfl) (fun _ _ _ h => h) (fun o ho => ?_) ?_ ?_
            rotate_left 2
            · cases ho
              refine ⟨rfl, rfl, fun W hW => ?_⟩
              go_simp; (try with_reducible rfl)
            · simp only [List.setIfInBounds_toArray, List.set_cons_succ, List.set_cons_zero]; exact rfl
            refine reg_done (by kernel_rfl) ?_
            go_wp2_with fail
            go_ret
            exact ⟨ret_bool (by rw [HR.out, HB.out]; rfl), G.out⟩
          · rw [hls] at HAT
            have hcq := HCL.out hls
            have zc : decide ((0 : Int) ≤ cq) = false := by rw [decide_eq_false_iff_not]; omega
            have HN := Lib.hid (HOK.out HAT.out)
            clear hls HCL HCM
            go_wp2_with fail
            generalize hw4 : wr.alloc (.cells #[.string kk, .int .i64 bb, .int .i64 ee, .int .i64 ss, .int .i64 xx, .int .i64 yy, .string uu, .bool gg] 42) = w4 at *
            clear hw4 c0 c1 c2 c3 c4 c5 c6 c7
            refine reg_start (by kernel_rfl) ?_
            refine reg_take2 0 20 (v := ?_) (T' := ?_) (Later.refl _) (by kernel_rfl) (by kernel_rfl) (by kernel_rfl) (fun _ _ _ h => h) (fun o ho => ?_) ?_ ?_
            rotate_left 2
            · cases ho
              refine ⟨rfl, rfl, fun W hW => ?_⟩
              have BW := BX.out.later hW
              have c0 := BW.cell 0 (.string kk) rfl
              have c1 := BW.cell 1 (.int .i64 bb) rfl
              have c2 := BW.cell 2 (.int .i64 ee) rfl
              have c3 := BW.cell 3 (.int .i64 ss) rfl
              have c4 := BW.cell 4 (.int .i64 xx) rfl
              have c5 := BW.cell 5 (.int .i64 yy) rfl
              have c6 := BW.cell 6 (.string uu) rfl
              have c7 := BW.cell 7 (.bool gg) rfl
              go_simp; (try with_reducible rfl)
            · simp only [List.setIfInBounds_toArray, List.set_cons_succ, List.set_cons_zero]; exact rfl
            refine reg_call2 1 21 (Later.refl _) (by kernel_rfl) 87 #[.agg #[.string kk, .int .i64 bb, .int .i64 ee, .int .i64 ss, .int .i64 xx, .int .i64 yy, .string uu, .bool gg]] (fun o ho => by cases ho; exact ⟨rfl, rfl, fun W => by go_simp⟩) ?_
            refine (MV.out _).mono ?_
            rintro e x1 ⟨rfl, hb1⟩
            have BX := Lib.hid (BX.out.later hb1)
            have G := Lib.hid (G.out.trans (hb1.mono G.out.size))
            refine ⟨_, _, rfl, hb1, (by simp only [List.setIfInBounds_toArray, List.set_cons_succ, List.set_cons_zero]; exact rfl), ?_⟩
            clear hb1
            refine reg_take2 2 22 (v := ?_) (T' := ?_) (Later.refl _) (by kernel_rfl) (by kernel_rfl) (by kernel_rfl) (fun _ _ _ h => h) (fun o ho => ?_) ?_ ?_
            rotate_left 2
            · cases ho
              refine ⟨rfl, rfl, fun W hW => ?_⟩
              go_simp; (try with_reducible rfl)
            · simp only [List.setIfInBounds_toArray, List.set_cons_succ, List.set_cons_zero]; exact rfl
            refine reg_take2 3 23 (v := ?_) (T' := ?_) (Later.refl _) (by kernel_rfl) (by kernel_rfl) (by kernel_rfl) (fun _ _ _ h => h) (fun o ho => ?_) ?_ ?_
            rotate_left 2
            · cases ho
              refine ⟨rfl, rfl, fun W hW => ?_⟩
              go_simp; (try with_reducible rfl)
            · simp only [List.setIfInBounds_toArray, List.set_cons_succ, List.set_cons_zero]; exact rfl
            refine reg_take2 4 24 (v := ?_) (T' := ?_) (Later.refl _) (by kernel_rfl) (by kernel_rfl) (by kernel_rfl) (fun _ _ _ h => h) (fun o ho => ?_) ?_ ?_
            rotate_left 2
            · cases ho
              refine ⟨rfl, rfl, fun W hW => ?_⟩
              go_simp; (try with_reducible rfl)
            · simp only [List.setIfInBounds_toArray, List.set_cons_succ, List.set_cons_zero]; exact rfl
            refine reg_take2 5 25 (v := ?_) (T' := ?_) (Later.refl _) (by kernel_rfl) (by kernel_rfl) (by kernel_rfl) (fun _ _ _ h => h) (fun o ho => ?_) ?_ ?_
            rotate_left 2
            · cases ho
              refine ⟨rfl, rfl, fun W hW => ?_⟩
              go_simp; (try with_reducible rfl)
            · simp only [List.setIfInBounds_toArray, List.set_cons_succ, List.set_cons_zero]; exact rfl
            refine reg_take2 6 26 (v := ?_) (T' := ?_) (Later.refl _) (by kernel_rfl) (by kernel_rfl) (by kernel_rfl) (fun _ _ _ h => h) (fun o ho => ?_) ?_ ?_
            rotate_left 2
            · cases ho
              refine ⟨rfl, rfl, fun W hW => ?_⟩
              go_simp; (try with_reducible rfl)
            · simp only [List.setIfInBounds_toArray, List.set_cons_succ, List.set_cons_zero]; exact rfl
            refine reg_take2 7 27 (v := ?_) (T' := ?_) (Later.refl _) (by kernel_rfl) (by kernel_rfl) (by kernel_rfl) (fun _ _ _ h => h) (fun o ho => ?_) ?_ ?_
            rotate_left 2
            · cases ho
              refine ⟨rfl, rfl, fun W hW => ?_⟩
              go_simp; (try with_reducible rfl)
            · simp only [List.setIfInBounds_toArray, List.set_cons_succ, List.set_cons_zero]; exact rfl
            refine reg_take2 8 28 (v := ?_) (T' := ?_) (Later.refl _) (by kernel_rfl) (by kernel_rfl) (by kernel_rfl) (fun _ _ _ h => h) (fun o ho => ?_) ?_ ?_
            rotate_left 2
            · cases ho
              refine ⟨rfl, rfl, fun W hW => ?_⟩
              go_simp; (try with_reducible rfl)
            · simp only [List.setIfInBounds_toArray, List.set_cons_succ, List.set_cons_zero]; exact rfl
            refine reg_take2 9 29 (v := ?_) (T' := ?_) (Later.refl _) (by kernel_rfl) (by kernel_rfl) (by kernel_rfl) (fun _ _ _ h => h) (fun o ho => ?_) ?_ ?_
            rotate_left 2
            · cases ho
              refine ⟨rfl, rfl, fun W hW => ?_⟩
              go_simp; (try with_reducible rfl)
            · simp only [List.setIfInBounds_toArray, List.set_cons_succ, List.set_cons_zero]; exact rfl
            refine reg_take2 10 30 (v := ?_) (T' := ?_) (Later.refl _) (by kernel_rfl) (by kernel_rfl) (by kernel_rfl) (fun _ _ _ h => h) (fun o ho => ?_) ?_ ?_
            rotate_left 2
            · cases ho
              refine ⟨rfl, rfl, fun W hW => ?_⟩
              go_simp; (try with_reducible rfl)
            · simp only [List.setIfInBounds_toArray, List.set_cons_succ, List.set_cons_zero]; exact rfl
            refine reg_take2 11 31 (v := ?_) (T' := ?_) (Later.refl _) (by kernel_rfl) (by kernel_rfl) (by kernel_rfl) (fun _ _ _ h => h) (fun o ho => ?_) ?_ ?_
            rotate_left 2
            · cases ho
              refine ⟨rfl, rfl, fun W hW => ?_⟩
              obtain ⟨-, d0, d1, d2, d3, d4, d5, d6, d7⟩ := RdVr.cells1 (HA.out.below (G.out.trans (hW.mono G.out.size))) (k - 1) hlt1 QQ.out
              go_simp; (try with_reducible rfl)
            · simp only [List.setIfInBounds_toArray, List.set_cons_succ, List.set_cons_zero]; exact rfl
            refine reg_take2 12 32 (v := ?_) (T' := ?_) (Later.refl _) (by kernel_rfl) (by kernel_rfl) (by kernel_rfl) (fun _ _ _ h => h) (fun o ho => ?_) ?_ ?_
            rotate_left 2
            · cases ho
              refine ⟨rfl, rfl, fun W hW => ?_⟩
              have BW := BX.out.later hW
              have c0 := BW.cell 0 (.string kk) rfl
              have c1 := BW.cell 1 (.int .i64 bb) rfl
              have c2 := BW.cell 2 (.int .i64 ee) rfl
              have c3 := BW.cell 3 (.int .i64 ss) rfl
              have c4 := BW.cell 4 (.int .i64 xx) rfl
              have c5 := BW.cell 5 (.int .i64 yy) rfl
              have c6 := BW.cell 6 (.string uu) rfl
              have c7 := BW.cell 7 (.bool gg) rfl
              go_simp; (try with_reducible rfl)
            · simp only [List.setIfInBounds_toArray, List.set_cons_succ, List.set_cons_zero]; exact rfl
            refine reg_call2 13 33 (Later.refl _) (by kernel_rfl) 50 #[.agg #[.string kk', .int .i64 bb', .int .i64 ee', .int .i64 ss', .int .i64 xx', .int .i64 yy', .string uu', .bool gg'], .agg #[.string kk, .int .i64 bb, .int .i64 ee, .int .i64 ss, .int .i64 xx, .int .i64 yy, .string uu, .bool gg]] (fun o ho => by cases ho; exact ⟨rfl, rfl, fun W => by go_simp⟩) ?_
            refine (CMP.out _).mono ?_
            rintro e x2 ⟨rfl, hb2⟩
            have G := Lib.hid (G.out.trans (hb2.mono G.out.size))
            refine ⟨_, _, rfl, hb2, (by simp only [List.setIfInBounds_toArray, List.set_cons_succ, List.set_cons_zero]; exact rfl), ?_⟩
            clear hb2
            refine reg_take2 14 34 (v := ?_) (T' := ?_) (Later.refl _) (by kernel_rfl) (by kernel_rfl) (by kernel_rfl) (fun _ _ _ h => h) (fun o ho => ?_) ?_ ?_
            rotate_left 2
            · cases ho
              refine ⟨rfl, rfl, fun W hW => ?_⟩
              go_simp; (try with_reducible rfl)
            · simp only [List.setIfInBounds_toArray, List.set_cons_succ, List.set_cons_zero]; exact rfl
            refine reg_take2 15 35 (v := ?_) (T' := ?_) (Later.refl _) (by kernel_rfl) (by kernel_rfl) (by kernel_rfl) (fun _ _ _ h => h) (fun o ho => ?_) ?_ ?_
            rotate_left 2
            · cases ho
              refine ⟨rfl, rfl, fun W hW => ?_⟩
              go_simp; (try with_reducible rfl)
            · simp only [List.setIfInBounds_toArray, List.set_cons_succ, List.set_cons_zero]; exact rfl
            refine reg_take2 16 36 (v := ?_) (T' := ?_) (Later.refl _) (by kernel_rfl) (by kernel_rfl) (by kernel_rfl) (fun _ _ _ h => h) (fun o ho => ?_) ?_ ?_
            rotate_left 2
            · cases ho
              refine ⟨rfl, rfl, fun W hW => ?_⟩
              go_simp; (try with_reducible rfl)
            · simp only [List.setIfInBounds_toArray, List.set_cons_succ, List.set_cons_zero]; exact rfl
            refine reg_done (by kernel_rfl) ?_
            go_wp2_with fail
            go_roundw
            case rel => exact ⟨k + 1, by go_num, by omega, HN.out, G.out⟩
            case measure => simp [intOf]; omega
    · have zl : decide ((k : Int) < (l.length : Int)) = false := by rw [decide_eq_false_iff_not]; omega
      have hke : k = l.length := by omega
      subst hke
      have h8 := H8.out
      have hr := HR.out
      rw [OK.out, Bool.true_and, decide_eq_true h8.1, decide_eq_true h8.2] at hr
      have HR2 := Lib.hid hr
      clear hr HR h8
      go_wp2_with fail
      go_ret
      exact ⟨ret_bool (by rw [HR2.out]; rfl), G.out⟩
end Go.Proofs.Ytefjdmlmmoeoaaa
