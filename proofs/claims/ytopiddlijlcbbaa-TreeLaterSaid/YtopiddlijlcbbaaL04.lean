/- TreeLater: what a branch sees up to an epoch it sees up to a later one, and nothing of an epoch behind it: any branches that may be (made of the first 7), any branch, any two epochs, any stamp. No conditions. -/
import Derived.Test.YtopiddlijlcbbaaQk
import Derived.Test.YtopiddlijlcbbaaTc
import Derived.Test.YtopiddlijlcbbaaTd
import Derived.Test.YtopiddlijlcbbaaBE
namespace Go.Proofs.Ytopiddlijlcbbaa.L04
open Go.RowKit Go.ChangeShapes Go.WideShapes Go.ChangeAt
set_option linter.unusedVariables false

theorem later {N : List Br} (hm : mayT N = true) (br a b sb se : Int) (h : a ≤ b) (hs : seesT (pathT N br a) sb se = true) : seesT (pathT N br b) sb se = true ∧ se ≤ a := by
  by_cases hr : mayT N = true ∧ 0 ≤ br ∧ br < N.length
  · obtain ⟨k, rfl⟩ : ∃ k : Nat, br = (k : Int) := ⟨br.toNat, by omega⟩
    exact ⟨sees_up hm sb se k a b (by omega) h hs, sees_le (fun g hg => (path_low hm k a (by omega) g hg).2.2) hs⟩
  · rw [path_none hr] at hs
    cases hs
set_option maxHeartbeats 4000000 in
set_option maxRecDepth 100000 in
theorem walk0 (KP : PathK) (KL : LiveK) (KS : SeesK) (v : Value) (l : List Br) (br a b sb se sq : Int) (w : World) (h : RdX brL w w.heap.size v l) (hok : OkBr l) :
    Calls Try.prog 6 #[v, .int .i64 br, .int .i64 a, .int .i64 b, .agg #[.int .i64 sb, .int .i64 se, .int .i64 sq]] w fun z w' => z = .returned (.bool true) ∧ Below w.heap.size w w' := by
  have LV := Lib.hid (law11_lives KP KL)
  have KS := Lib.hid KS
  have KP := Lib.hid KP
  have hb0 := alloc_below w (.cells #[.int .i64 sb, .int .i64 se, .int .i64 sq] 32)
  have GD := Lib.hid (ref_good v l _ (h.on hb0) hok)
  have BX := Lib.hid (Box.new w #[.int .i64 sb, .int .i64 se, .int .i64 sq] 32 _ rfl)
  have G := Lib.hid hb0
  have HMAY := Lib.hid (good_may l)
  obtain ⟨A, ca, rfl, -⟩ := h
  clear hb0 hok
  generalize goodT l = N at *
  rcases Int.lt_or_le b a with hab | hab
  · have zab : decide (b < a) = true := by simp; omega
    have HAB := Lib.hid (show b ≤ a from by omega)
    clear hab
    go_enter Try.func6, Try.ntmps6
    go_wp2_with fail
    refine GD.out.mono ?_
    rintro z w1 ⟨v1, rfl, ho1, hb1⟩
    have R := Lib.hid ho1.rd
    have BX := Lib.hid (Box.later BX.out hb1)
    have G := Lib.hid (G.out.trans (hb1.mono G.out.size))
    obtain ⟨A1, c1, e1, -⟩ := ho1.rd
    subst e1
    clear ho1 hb1 GD
    go_wp2_with fail
    have R := Lib.hid (show RdX brL w1.drew w1.drew.heap.size (.slice A1 N.length c1) N from R.out)
    have G := Lib.hid (G.out.drewN 1)
    have BX := Lib.hid (show Box w1.drew w.heap.size #[.int .i64 sb, .int .i64 se, .int .i64 sq] 32 from BX.out)
    refine reg_start (by kernel_rfl) ?_
    refine reg_take2 0 23 (v := ?_) (T' := ?_) (Later.refl _) (by kernel_rfl) (by kernel_rfl) (by kernel_rfl) (fun _ _ _ h => h) (fun o ho => ?_) ?_ ?_
    rotate_left 2
    · cases ho
      refine ⟨rfl, rfl, fun W hW => ?_⟩
      go_simp; (try with_reducible rfl)
    · simp only [List.setIfInBounds_toArray, List.set_cons_succ, List.set_cons_zero]; exact rfl
    refine reg_take2 1 24 (v := ?_) (T' := ?_) (Later.refl _) (by kernel_rfl) (by kernel_rfl) (by kernel_rfl) (fun _ _ _ h => h) (fun o ho => ?_) ?_ ?_
    rotate_left 2
    · cases ho
      refine ⟨rfl, rfl, fun W hW => ?_⟩
      go_simp; (try with_reducible rfl)
    · simp only [List.setIfInBounds_toArray, List.set_cons_succ, List.set_cons_zero]; exact rfl
    refine reg_take2 2 25 (v := ?_) (T' := ?_) (Later.refl _) (by kernel_rfl) (by kernel_rfl) (by kernel_rfl) (fun _ _ _ h => h) (fun o ho => ?_) ?_ ?_
    rotate_left 2
    · cases ho
      refine ⟨rfl, rfl, fun W hW => ?_⟩
      go_simp; (try with_reducible rfl)
    · simp only [List.setIfInBounds_toArray, List.set_cons_succ, List.set_cons_zero]; exact rfl
    refine reg_take2 4 27 (v := ?_) (T' := ?_) (Later.refl _) (by kernel_rfl) (by kernel_rfl) (by kernel_rfl) (fun _ _ _ h => h) (fun o ho => ?_) ?_ ?_
    rotate_left 2
    · cases ho
      refine ⟨rfl, rfl, fun W hW => ?_⟩
      have BW := Box.later BX.out hW
      have d0 := BW.cell 0 (.int .i64 sb) rfl
      have d1 := BW.cell 1 (.int .i64 se) rfl
      have d2 := BW.cell 2 (.int .i64 sq) rfl
      go_simp; (try with_reducible rfl)
    · simp only [List.setIfInBounds_toArray, List.set_cons_succ, List.set_cons_zero]; exact rfl
    refine reg_call2 3 26 (Later.refl _) (by kernel_rfl) 11 #[.slice A1 N.length c1, .int .i64 br, .int .i64 b] (fun o ho => by cases ho; exact ⟨rfl, rfl, fun W => by go_simp⟩) ?_
    refine (KP.out _ N br b _ R.out).mono ?_
    rintro z x1 ⟨v2, rfl, ho, hb⟩
    have HLP1 := Lib.hid (Nat.le_trans (path_few N br b) (show 16 ≤ 1000 from by decide))
    generalize hPP1 : pathT N br b = P1 at *
    have HPP1 := Lib.hid hPP1
    clear hPP1
    have OP1 := Lib.hid ho.rd
    obtain ⟨B1, cB1, ev, -⟩ := ho.rd
    subst ev
    have R := Lib.hid (R.out.on hb)
    have BX := Lib.hid (Box.later BX.out hb)
    have G := Lib.hid (G.out.trans (hb.mono G.out.size))
    refine ⟨_, _, rfl, hb, (by simp only [List.setIfInBounds_toArray, List.set_cons_succ, List.set_cons_zero]; exact rfl), ?_⟩
    clear hb ho
    refine reg_call2 5 28 (Later.refl _) (by kernel_rfl) 16 #[.slice B1 P1.length cB1, .agg #[.int .i64 sb, .int .i64 se, .int .i64 sq]] (fun o ho => by cases ho; exact ⟨rfl, rfl, fun W => by go_simp⟩) ?_
    refine (KS.out _ P1 sb se sq _ OP1.out HLP1.out).mono ?_
    rintro z x2 ⟨rfl, hb⟩
    have R := Lib.hid (R.out.on hb)
    have BX := Lib.hid (Box.later BX.out hb)
    have G := Lib.hid (G.out.trans (hb.mono G.out.size))
    refine ⟨_, _, rfl, hb, (by simp only [List.setIfInBounds_toArray, List.set_cons_succ, List.set_cons_zero]; exact rfl), ?_⟩
    clear hb
    refine reg_take2 6 13 (v := ?_) (T' := ?_) (Later.refl _) (by kernel_rfl) (by kernel_rfl) (by kernel_rfl) (fun _ _ _ h => h) (fun o ho => ?_) ?_ ?_
    rotate_left 2
    · cases ho
      refine ⟨rfl, rfl, fun W hW => ?_⟩
      go_simp; (try with_reducible rfl)
    · simp only [List.setIfInBounds_toArray, List.set_cons_succ, List.set_cons_zero]; exact rfl
    refine reg_done (by kernel_rfl) ?_
    go_wp2_with fail
    have R := Lib.hid (show RdX brL x2.drew x2.drew.heap.size (.slice A1 N.length c1) N from R.out)
    have G := Lib.hid (G.out.drewN 1)
    have BX := Lib.hid (show Box x2.drew w.heap.size #[.int .i64 sb, .int .i64 se, .int .i64 sq] 32 from BX.out)
    skip
    refine reg_start (by kernel_rfl) ?_
    refine reg_take2 0 29 (v := ?_) (T' := ?_) (Later.refl _) (by kernel_rfl) (by kernel_rfl) (by kernel_rfl) (fun _ _ _ h => h) (fun o ho => ?_) ?_ ?_
    rotate_left 2
    · cases ho
      refine ⟨rfl, rfl, fun W hW => ?_⟩
      go_simp; (try with_reducible rfl)
    · simp only [List.setIfInBounds_toArray, List.set_cons_succ, List.set_cons_zero]; exact rfl
    refine reg_take2 1 30 (v := ?_) (T' := ?_) (Later.refl _) (by kernel_rfl) (by kernel_rfl) (by kernel_rfl) (fun _ _ _ h => h) (fun o ho => ?_) ?_ ?_
    rotate_left 2
    · cases ho
      refine ⟨rfl, rfl, fun W hW => ?_⟩
      go_simp; (try with_reducible rfl)
    · simp only [List.setIfInBounds_toArray, List.set_cons_succ, List.set_cons_zero]; exact rfl
    refine reg_take2 2 31 (v := ?_) (T' := ?_) (Later.refl _) (by kernel_rfl) (by kernel_rfl) (by kernel_rfl) (fun _ _ _ h => h) (fun o ho => ?_) ?_ ?_
    rotate_left 2
    · cases ho
      refine ⟨rfl, rfl, fun W hW => ?_⟩
      go_simp; (try with_reducible rfl)
    · simp only [List.setIfInBounds_toArray, List.set_cons_succ, List.set_cons_zero]; exact rfl
    refine reg_take2 4 33 (v := ?_) (T' := ?_) (Later.refl _) (by kernel_rfl) (by kernel_rfl) (by kernel_rfl) (fun _ _ _ h => h) (fun o ho => ?_) ?_ ?_
    rotate_left 2
    · cases ho
      refine ⟨rfl, rfl, fun W hW => ?_⟩
      have BW := Box.later BX.out hW
      have d0 := BW.cell 0 (.int .i64 sb) rfl
      have d1 := BW.cell 1 (.int .i64 se) rfl
      have d2 := BW.cell 2 (.int .i64 sq) rfl
      go_simp; (try with_reducible rfl)
    · simp only [List.setIfInBounds_toArray, List.set_cons_succ, List.set_cons_zero]; exact rfl
    refine reg_call2 3 32 (Later.refl _) (by kernel_rfl) 11 #[.slice A1 N.length c1, .int .i64 br, .int .i64 a] (fun o ho => by cases ho; exact ⟨rfl, rfl, fun W => by go_simp⟩) ?_
    refine (KP.out _ N br a _ R.out).mono ?_
    rintro z y1 ⟨v2, rfl, ho, hb⟩
    have HLP2 := Lib.hid (Nat.le_trans (path_few N br a) (show 16 ≤ 1000 from by decide))
    generalize hPP2 : pathT N br a = P2 at *
    have HPP2 := Lib.hid hPP2
    clear hPP2
    have OP2 := Lib.hid ho.rd
    obtain ⟨B2, cB2, ev, -⟩ := ho.rd
    subst ev
    have R := Lib.hid (R.out.on hb)
    have BX := Lib.hid (Box.later BX.out hb)
    have G := Lib.hid (G.out.trans (hb.mono G.out.size))
    refine ⟨_, _, rfl, hb, (by simp only [List.setIfInBounds_toArray, List.set_cons_succ, List.set_cons_zero]; exact rfl), ?_⟩
    clear hb ho
    refine reg_call2 5 34 (Later.refl _) (by kernel_rfl) 16 #[.slice B2 P2.length cB2, .agg #[.int .i64 sb, .int .i64 se, .int .i64 sq]] (fun o ho => by cases ho; exact ⟨rfl, rfl, fun W => by go_simp⟩) ?_
    refine (KS.out _ P2 sb se sq _ OP2.out HLP2.out).mono ?_
    rintro z y2 ⟨rfl, hb⟩
    have R := Lib.hid (R.out.on hb)
    have BX := Lib.hid (Box.later BX.out hb)
    have G := Lib.hid (G.out.trans (hb.mono G.out.size))
    refine ⟨_, _, rfl, hb, (by simp only [List.setIfInBounds_toArray, List.set_cons_succ, List.set_cons_zero]; exact rfl), ?_⟩
    clear hb
    refine reg_take2 6 14 (v := ?_) (T' := ?_) (Later.refl _) (by kernel_rfl) (by kernel_rfl) (by kernel_rfl) (fun _ _ _ h => h) (fun o ho => ?_) ?_ ?_
    rotate_left 2
    · cases ho
      refine ⟨rfl, rfl, fun W hW => ?_⟩
      go_simp; (try with_reducible rfl)
    · simp only [List.setIfInBounds_toArray, List.set_cons_succ, List.set_cons_zero]; exact rfl
    refine reg_done (by kernel_rfl) ?_
    have HLA := Lib.hid (later HMAY.out br b a sb se HAB.out)
    rw [HPP1.out, HPP2.out] at HLA
    have BX := BX.out
    have d1 := BX.cell 1 (.int .i64 se) rfl
    clear BX
    cases h1 : seesT P1 sb se
    case' false =>
      generalize seesT P2 sb se = two at *
    case' true =>
      obtain ⟨h2, h3⟩ := HLA.out h1
      rw [h2]
      have z3 : decide (se ≤ b) = true := by simp; exact h3
      clear h2 h3
    all_goals
      clear HLA h1
      go_wp2_with fail
      refine (LV.out _).mono ?_
      rintro z w8 ⟨rfl, hb⟩
      have G := Lib.hid (G.out.trans (hb.mono G.out.size))
      clear hb
      go_wp2_with fail
      go_ret
      exact ⟨rfl, G.out⟩
  · have zab : decide (b < a) = false := by rw [decide_eq_false_iff_not]; omega
    have HAB := Lib.hid (show a ≤ b from by omega)
    clear hab
    go_enter Try.func6, Try.ntmps6
    go_wp2_with fail
    refine GD.out.mono ?_
    rintro z w1 ⟨v1, rfl, ho1, hb1⟩
    have R := Lib.hid ho1.rd
    have BX := Lib.hid (Box.later BX.out hb1)
    have G := Lib.hid (G.out.trans (hb1.mono G.out.size))
    obtain ⟨A1, c1, e1, -⟩ := ho1.rd
    subst e1
    clear ho1 hb1 GD
    go_wp2_with fail
    have R := Lib.hid (show RdX brL w1.drew w1.drew.heap.size (.slice A1 N.length c1) N from R.out)
    have G := Lib.hid (G.out.drewN 1)
    have BX := Lib.hid (show Box w1.drew w.heap.size #[.int .i64 sb, .int .i64 se, .int .i64 sq] 32 from BX.out)
    refine reg_start (by kernel_rfl) ?_
    refine reg_take2 0 23 (v := ?_) (T' := ?_) (Later.refl _) (by kernel_rfl) (by kernel_rfl) (by kernel_rfl) (fun _ _ _ h => h) (fun o ho => ?_) ?_ ?_
    rotate_left 2
    · cases ho
      refine ⟨rfl, rfl, fun W hW => ?_⟩
      go_simp; (try with_reducible rfl)
    · simp only [List.setIfInBounds_toArray, List.set_cons_succ, List.set_cons_zero]; exact rfl
    refine reg_take2 1 24 (v := ?_) (T' := ?_) (Later.refl _) (by kernel_rfl) (by kernel_rfl) (by kernel_rfl) (fun _ _ _ h => h) (fun o ho => ?_) ?_ ?_
    rotate_left 2
    · cases ho
      refine ⟨rfl, rfl, fun W hW => ?_⟩
      go_simp; (try with_reducible rfl)
    · simp only [List.setIfInBounds_toArray, List.set_cons_succ, List.set_cons_zero]; exact rfl
    refine reg_take2 2 25 (v := ?_) (T' := ?_) (Later.refl _) (by kernel_rfl) (by kernel_rfl) (by kernel_rfl) (fun _ _ _ h => h) (fun o ho => ?_) ?_ ?_
    rotate_left 2
    · cases ho
      refine ⟨rfl, rfl, fun W hW => ?_⟩
      go_simp; (try with_reducible rfl)
    · simp only [List.setIfInBounds_toArray, List.set_cons_succ, List.set_cons_zero]; exact rfl
    refine reg_take2 4 27 (v := ?_) (T' := ?_) (Later.refl _) (by kernel_rfl) (by kernel_rfl) (by kernel_rfl) (fun _ _ _ h => h) (fun o ho => ?_) ?_ ?_
    rotate_left 2
    · cases ho
      refine ⟨rfl, rfl, fun W hW => ?_⟩
      have BW := Box.later BX.out hW
      have d0 := BW.cell 0 (.int .i64 sb) rfl
      have d1 := BW.cell 1 (.int .i64 se) rfl
      have d2 := BW.cell 2 (.int .i64 sq) rfl
      go_simp; (try with_reducible rfl)
    · simp only [List.setIfInBounds_toArray, List.set_cons_succ, List.set_cons_zero]; exact rfl
    refine reg_call2 3 26 (Later.refl _) (by kernel_rfl) 11 #[.slice A1 N.length c1, .int .i64 br, .int .i64 a] (fun o ho => by cases ho; exact ⟨rfl, rfl, fun W => by go_simp⟩) ?_
    refine (KP.out _ N br a _ R.out).mono ?_
    rintro z x1 ⟨v2, rfl, ho, hb⟩
    have HLP1 := Lib.hid (Nat.le_trans (path_few N br a) (show 16 ≤ 1000 from by decide))
    generalize hPP1 : pathT N br a = P1 at *
    have HPP1 := Lib.hid hPP1
    clear hPP1
    have OP1 := Lib.hid ho.rd
    obtain ⟨B1, cB1, ev, -⟩ := ho.rd
    subst ev
    have R := Lib.hid (R.out.on hb)
    have BX := Lib.hid (Box.later BX.out hb)
    have G := Lib.hid (G.out.trans (hb.mono G.out.size))
    refine ⟨_, _, rfl, hb, (by simp only [List.setIfInBounds_toArray, List.set_cons_succ, List.set_cons_zero]; exact rfl), ?_⟩
    clear hb ho
    refine reg_call2 5 28 (Later.refl _) (by kernel_rfl) 16 #[.slice B1 P1.length cB1, .agg #[.int .i64 sb, .int .i64 se, .int .i64 sq]] (fun o ho => by cases ho; exact ⟨rfl, rfl, fun W => by go_simp⟩) ?_
    refine (KS.out _ P1 sb se sq _ OP1.out HLP1.out).mono ?_
    rintro z x2 ⟨rfl, hb⟩
    have R := Lib.hid (R.out.on hb)
    have BX := Lib.hid (Box.later BX.out hb)
    have G := Lib.hid (G.out.trans (hb.mono G.out.size))
    refine ⟨_, _, rfl, hb, (by simp only [List.setIfInBounds_toArray, List.set_cons_succ, List.set_cons_zero]; exact rfl), ?_⟩
    clear hb
    refine reg_take2 6 13 (v := ?_) (T' := ?_) (Later.refl _) (by kernel_rfl) (by kernel_rfl) (by kernel_rfl) (fun _ _ _ h => h) (fun o ho => ?_) ?_ ?_
    rotate_left 2
    · cases ho
      refine ⟨rfl, rfl, fun W hW => ?_⟩
      go_simp; (try with_reducible rfl)
    · simp only [List.setIfInBounds_toArray, List.set_cons_succ, List.set_cons_zero]; exact rfl
    refine reg_done (by kernel_rfl) ?_
    go_wp2_with fail
    have R := Lib.hid (show RdX brL x2.drew x2.drew.heap.size (.slice A1 N.length c1) N from R.out)
    have G := Lib.hid (G.out.drewN 1)
    have BX := Lib.hid (show Box x2.drew w.heap.size #[.int .i64 sb, .int .i64 se, .int .i64 sq] 32 from BX.out)
    skip
    refine reg_start (by kernel_rfl) ?_
    refine reg_take2 0 29 (v := ?_) (T' := ?_) (Later.refl _) (by kernel_rfl) (by kernel_rfl) (by kernel_rfl) (fun _ _ _ h => h) (fun o ho => ?_) ?_ ?_
    rotate_left 2
    · cases ho
      refine ⟨rfl, rfl, fun W hW => ?_⟩
      go_simp; (try with_reducible rfl)
    · simp only [List.setIfInBounds_toArray, List.set_cons_succ, List.set_cons_zero]; exact rfl
    refine reg_take2 1 30 (v := ?_) (T' := ?_) (Later.refl _) (by kernel_rfl) (by kernel_rfl) (by kernel_rfl) (fun _ _ _ h => h) (fun o ho => ?_) ?_ ?_
    rotate_left 2
    · cases ho
      refine ⟨rfl, rfl, fun W hW => ?_⟩
      go_simp; (try with_reducible rfl)
    · simp only [List.setIfInBounds_toArray, List.set_cons_succ, List.set_cons_zero]; exact rfl
    refine reg_take2 2 31 (v := ?_) (T' := ?_) (Later.refl _) (by kernel_rfl) (by kernel_rfl) (by kernel_rfl) (fun _ _ _ h => h) (fun o ho => ?_) ?_ ?_
    rotate_left 2
    · cases ho
      refine ⟨rfl, rfl, fun W hW => ?_⟩
      go_simp; (try with_reducible rfl)
    · simp only [List.setIfInBounds_toArray, List.set_cons_succ, List.set_cons_zero]; exact rfl
    refine reg_take2 4 33 (v := ?_) (T' := ?_) (Later.refl _) (by kernel_rfl) (by kernel_rfl) (by kernel_rfl) (fun _ _ _ h => h) (fun o ho => ?_) ?_ ?_
    rotate_left 2
    · cases ho
      refine ⟨rfl, rfl, fun W hW => ?_⟩
      have BW := Box.later BX.out hW
      have d0 := BW.cell 0 (.int .i64 sb) rfl
      have d1 := BW.cell 1 (.int .i64 se) rfl
      have d2 := BW.cell 2 (.int .i64 sq) rfl
      go_simp; (try with_reducible rfl)
    · simp only [List.setIfInBounds_toArray, List.set_cons_succ, List.set_cons_zero]; exact rfl
    refine reg_call2 3 32 (Later.refl _) (by kernel_rfl) 11 #[.slice A1 N.length c1, .int .i64 br, .int .i64 b] (fun o ho => by cases ho; exact ⟨rfl, rfl, fun W => by go_simp⟩) ?_
    refine (KP.out _ N br b _ R.out).mono ?_
    rintro z y1 ⟨v2, rfl, ho, hb⟩
    have HLP2 := Lib.hid (Nat.le_trans (path_few N br b) (show 16 ≤ 1000 from by decide))
    generalize hPP2 : pathT N br b = P2 at *
    have HPP2 := Lib.hid hPP2
    clear hPP2
    have OP2 := Lib.hid ho.rd
    obtain ⟨B2, cB2, ev, -⟩ := ho.rd
    subst ev
    have R := Lib.hid (R.out.on hb)
    have BX := Lib.hid (Box.later BX.out hb)
    have G := Lib.hid (G.out.trans (hb.mono G.out.size))
    refine ⟨_, _, rfl, hb, (by simp only [List.setIfInBounds_toArray, List.set_cons_succ, List.set_cons_zero]; exact rfl), ?_⟩
    clear hb ho
    refine reg_call2 5 34 (Later.refl _) (by kernel_rfl) 16 #[.slice B2 P2.length cB2, .agg #[.int .i64 sb, .int .i64 se, .int .i64 sq]] (fun o ho => by cases ho; exact ⟨rfl, rfl, fun W => by go_simp⟩) ?_
    refine (KS.out _ P2 sb se sq _ OP2.out HLP2.out).mono ?_
    rintro z y2 ⟨rfl, hb⟩
    have R := Lib.hid (R.out.on hb)
    have BX := Lib.hid (Box.later BX.out hb)
    have G := Lib.hid (G.out.trans (hb.mono G.out.size))
    refine ⟨_, _, rfl, hb, (by simp only [List.setIfInBounds_toArray, List.set_cons_succ, List.set_cons_zero]; exact rfl), ?_⟩
    clear hb
    refine reg_take2 6 14 (v := ?_) (T' := ?_) (Later.refl _) (by kernel_rfl) (by kernel_rfl) (by kernel_rfl) (fun _ _ _ h => h) (fun o ho => ?_) ?_ ?_
    rotate_left 2
    · cases ho
      refine ⟨rfl, rfl, fun W hW => ?_⟩
      go_simp; (try with_reducible rfl)
    · simp only [List.setIfInBounds_toArray, List.set_cons_succ, List.set_cons_zero]; exact rfl
    refine reg_done (by kernel_rfl) ?_
    have HLA := Lib.hid (later HMAY.out br a b sb se HAB.out)
    rw [HPP1.out, HPP2.out] at HLA
    have BX := BX.out
    have d1 := BX.cell 1 (.int .i64 se) rfl
    clear BX
    cases h1 : seesT P1 sb se
    case' false =>
      generalize seesT P2 sb se = two at *
    case' true =>
      obtain ⟨h2, h3⟩ := HLA.out h1
      rw [h2]
      have z3 : decide (se ≤ a) = true := by simp; exact h3
      clear h2 h3
    all_goals
      clear HLA h1
      go_wp2_with fail
      refine (LV.out _).mono ?_
      rintro z w8 ⟨rfl, hb⟩
      have G := Lib.hid (G.out.trans (hb.mono G.out.size))
      clear hb
      go_wp2_with fail
      go_ret
      exact ⟨rfl, G.out⟩
-- END
set_option maxRecDepth 100000 in
theorem lifted (os : Os) (started : os.Started) (H : Type) (enc : TypeId × Value → H) :
    ReturnsInHanded {} Try.checked os 6 .any (Rows.treeLaterSpec.pre6 enc Try.prog Try.f6 Rows.treeLaterRow.domain false) (Rows.treeLaterSpec.post enc Try.prog Try.f6 false true false false) := by
  refine returnsInHanded_of_change (C := Try.checked) Try.own started (by kernel_rfl) Try.func6
    (ChangeSpec.witness6 (enc := enc) (C := Try.checked) false ⟨#[], #[.slice none 0 0, .int .i64 0, .int .i64 0, .int .i64 0, .agg #[.int .i64 0, .int .i64 0, .int .i64 0]], []⟩ 8 (by kernel_rfl) (by kernel_rfl) (by kernel_rfl) (by kernel_rfl)) ?_
  intro W base args ds gs before hval0 hW _ _
  have hval : ∀ (j : Nat) t v, Try.f6.params[j]? = some t → args[j]? = some v → Value.okWide Try.prog W .any base t v := hval0
  have hW' := hW
  obtain ⟨p, q, hA0, hV, rfl, _, _⟩ := hW
  have hA : DataW.TrodAll enc Try.prog W 0 (fun _ => true) true Try.f6.params.toList args.toList ds p := hA0
  rw [Try.params6] at hA hval
  obtain ⟨v0, v1, v2, v3, v4, d0, d1, d2, d3, d4, p0, p1, p2, p3, p4, rfl, rfl, rfl, h0, h1, h2, h3, h4⟩ := trodAll_five hA
  obtain ⟨rfl, rfl⟩ := trodVars_none hV
  have hlt := fun x hx => hW'.lt x hx
  obtain ⟨a0, r0, b0⟩ := open_brs (hval 0 _ v0 rfl rfl) h0 (fun x hx => by simpa using hlt x (by simp [hx]))
  obtain ⟨a1, rfl, rfl, rfl, w1⟩ := open_int Try.underlying3 (hval 1 _ v1 rfl rfl) h1
  have w1 := wf_int w1
  obtain ⟨a2, rfl, rfl, rfl, w2⟩ := open_int Try.underlying3 (hval 2 _ v2 rfl rfl) h2
  have w2 := wf_int w2
  obtain ⟨a3, rfl, rfl, rfl, w3⟩ := open_int Try.underlying3 (hval 3 _ v3 rfl rfl) h3
  have w3 := wf_int w3
  obtain ⟨⟨mb4, me4, mq4⟩, rfl, x4⟩ := open_st (hval 4 _ v4 rfl rfl) h4
  refine (walk0 path_k live_k sees_k v0 a0 a1 a2 a3 mb4 me4 mq4 _ r0 b0).mono fun e W' ⟨he, hb⟩ => ⟨_, he, ?_⟩
  exact law_post Try.laidOut (by decide +kernel) rfl Try.underlying4 rfl hW' rfl hb

theorem holds : Rows.TreeLaterSaid :=
  OpenClaim.holds_of_wide 6 Try.f6 rfl rfl rfl rfl rfl rfl rfl ⟨rfl, rfl, rfl, rfl, rfl⟩ rfl rfl rfl rfl rfl (by kernel_rfl) Try.func6 (by kernel_rfl)
    (of_decide_eq_true (by kernel_rfl)) (by unfold Func.isWrapper; first | (rw [if_pos (by decide +kernel)]; kernel_rfl) | (rw [if_neg (by decide +kernel)]; exact ⟨rfl, rfl⟩))
    (fun os started H enc _ => lifted os started H enc)
end Go.Proofs.Ytopiddlijlcbbaa.L04
