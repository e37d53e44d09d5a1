/- TreeShares: two branches see the same of a branch up to the epoch at which the later one was forked from it: any branches that may be (made of the first 7), any one of them that has a parent, any epoch, any stamp of another branch than itself. No conditions. -/
import Derived.Test.YtopiddlijlcbbaaQk
import Derived.Test.YtopiddlijlcbbaaTc
import Derived.Test.YtopiddlijlcbbaaTd
import Derived.Test.YtopiddlijlcbbaaBE
namespace Go.Proofs.Ytopiddlijlcbbaa.L05
open Go.RowKit Go.ChangeShapes Go.WideShapes Go.ChangeAt
set_option linter.unusedVariables false

theorem shares {N : List Br} (hm : mayT N = true) {k : Nat} (hk : k < N.length) (h0 : 0 < k) (e sb se : Int) (hs : sb ≠ (k : Int)) : ∃ q : Nat, N[k].par = (q : Int) ∧ seesT (pathT N k e) sb se = seesT (pathT N q (if N[k].fork < e then N[k].fork else e)) sb se := by
  obtain ⟨q, hq, -, h1⟩ := path_parts hm hk h0 e
  refine ⟨q, hq, ?_⟩
  rw [h1]
  unfold seesT
  rw [List.any_cons]
  have : ((k : Int) == sb) = false := by rw [beq_eq_false_iff_ne]; exact fun h => hs h.symm
  simp only [this]
  simp
set_option maxHeartbeats 4000000 in
set_option maxRecDepth 100000 in
theorem walk0 (KP : PathK) (KL : LiveK) (KS : SeesK) (v : Value) (l : List Br) (br e sb se sq : Int) (w : World) (h : RdX brL w w.heap.size v l) (hok : OkBr l) :
    Calls Try.prog 7 #[v, .int .i64 br, .int .i64 e, .agg #[.int .i64 sb, .int .i64 se, .int .i64 sq]] w fun z w' => z = .returned (.bool true) ∧ Below w.heap.size w w' := by
  have LV := Lib.hid (law11_lives KP KL)
  have KS := Lib.hid KS
  have KP := Lib.hid KP
  have hb0 := alloc_below w (.cells #[.int .i64 sb, .int .i64 se, .int .i64 sq] 32)
  have GD := Lib.hid (ref_good v l _ (h.on hb0) hok)
  have BX := Lib.hid (Box.new w #[.int .i64 sb, .int .i64 se, .int .i64 sq] 32 _ rfl)
  have G := Lib.hid hb0
  have HMAY := Lib.hid (good_may l)
  obtain ⟨A, ca, rfl, -⟩ := h
  clear hb0 hok
  generalize goodT l = N at *
  go_enter Try.func7, Try.ntmps7
  go_wp2_with fail
  refine GD.out.mono ?_
  rintro z w1 ⟨v1, rfl, ho1, hb1⟩
  have R := Lib.hid ho1.rd
  have BX := Lib.hid (Box.later BX.out hb1)
  have G := Lib.hid (G.out.trans (hb1.mono G.out.size))
  obtain ⟨A1, c1, e1, -⟩ := ho1.rd
  subst e1
  have d0 := BX.out.cell 0 (.int .i64 sb) rfl
  clear ho1 hb1 GD
  by_cases hin : 1 ≤ br ∧ br < (N.length : Int) ∧ sb ≠ br
  · obtain ⟨k, rfl⟩ : ∃ k : Nat, br = (k : Int) := ⟨br.toNat, by omega⟩
    have hk : k < N.length := by omega
    have z1 : decide ((k : Int) < 1) = false := by rw [decide_eq_false_iff_not]; omega
    have z1n : decide (k < 1) = false := by rw [decide_eq_false_iff_not]; omega
    have z2 : decide ((N.length : Int) ≤ (k : Int)) = false := by rw [decide_eq_false_iff_not]; omega
    have z2n : decide (N.length ≤ k) = false := by rw [decide_eq_false_iff_not]; omega
    have z3 : (sb == (k : Int)) = false := by rw [beq_eq_false_iff_ne]; exact hin.2.2
    have hki : (k : Int) < (N.length : Int) := by omega
    obtain ⟨q, hq, hsh⟩ := shares HMAY.out hk (by omega) e sb se hin.2.2
    obtain ⟨x, hx⟩ : ∃ x, N[k] = x := ⟨_, rfl⟩
    obtain ⟨p, f, fl, d⟩ := x
    rw [hx] at hq hsh
    simp only at hq hsh
    subst hq
    obtain ⟨bn, on, rfl, -, e0, e1, e2, e3⟩ := RdX.br R.out k hk hx
    have HK := Lib.hid hk
    have HX := Lib.hid hx
    have HSH := Lib.hid hsh
    clear hin hx hsh
    rcases Int.lt_or_le f e with hf | hf
    · have zf : decide (f < e) = true := by simp; omega
      have HSE := Lib.hid (show seesT (pathT N k e) sb se = seesT (pathT N q f) sb se from by rw [HSH.out, if_pos hf])
      clear hf HSH
      go_wp2_with fail
      have R := Lib.hid (show RdX brL w1.drew w1.drew.heap.size (.slice (some ⟨bn, on, none⟩) N.length c1) N from R.out)
      have G := Lib.hid (G.out.drewN 1)
      have BX := Lib.hid (show Box w1.drew w.heap.size #[.int .i64 sb, .int .i64 se, .int .i64 sq] 32 from BX.out)
      clear e0 e1 e2 e3 d0
      refine reg_start (by kernel_rfl) ?_
      refine reg_take2 0 41 (v := ?_) (T' := ?_) (Later.refl _) (by kernel_rfl) (by kernel_rfl) (by kernel_rfl) (fun _ _ _ h => h) (fun o ho => ?_) ?_ ?_
      rotate_left 2
      · cases ho
        refine ⟨rfl, rfl, fun W hW => ?_⟩
        go_simp; (try with_reducible rfl)
      · simp only [List.setIfInBounds_toArray, List.set_cons_succ, List.set_cons_zero]; exact rfl
      refine reg_take2 1 42 (v := ?_) (T' := ?_) (Later.refl _) (by kernel_rfl) (by kernel_rfl) (by kernel_rfl) (fun _ _ _ h => h) (fun o ho => ?_) ?_ ?_
      rotate_left 2
      · cases ho
        refine ⟨rfl, rfl, fun W hW => ?_⟩
        go_simp; (try with_reducible rfl)
      · simp only [List.setIfInBounds_toArray, List.set_cons_succ, List.set_cons_zero]; exact rfl
      refine reg_take2 2 43 (v := ?_) (T' := ?_) (Later.refl _) (by kernel_rfl) (by kernel_rfl) (by kernel_rfl) (fun _ _ _ h => h) (fun o ho => ?_) ?_ ?_
      rotate_left 2
      · cases ho
        refine ⟨rfl, rfl, fun W hW => ?_⟩
        go_simp; (try with_reducible rfl)
      · simp only [List.setIfInBounds_toArray, List.set_cons_succ, List.set_cons_zero]; exact rfl
      refine reg_take2 4 45 (v := ?_) (T' := ?_) (Later.refl _) (by kernel_rfl) (by kernel_rfl) (by kernel_rfl) (fun _ _ _ h => h) (fun o ho => ?_) ?_ ?_
      rotate_left 2
      · cases ho
        refine ⟨rfl, rfl, fun W hW => ?_⟩
        have BW := Box.later BX.out hW
        have d0 := BW.cell 0 (.int .i64 sb) rfl
        have d1 := BW.cell 1 (.int .i64 se) rfl
        have d2 := BW.cell 2 (.int .i64 sq) rfl
        go_simp; (try with_reducible rfl)
      · simp only [List.setIfInBounds_toArray, List.set_cons_succ, List.set_cons_zero]; exact rfl
      refine reg_take2 6 47 (v := ?_) (T' := ?_) (Later.refl _) (by kernel_rfl) (by kernel_rfl) (by kernel_rfl) (fun _ _ _ h => h) (fun o ho => ?_) ?_ ?_
      rotate_left 2
      · cases ho
        refine ⟨rfl, rfl, fun W hW => ?_⟩
        go_simp; (try with_reducible rfl)
      · simp only [List.setIfInBounds_toArray, List.set_cons_succ, List.set_cons_zero]; exact rfl
      refine reg_take2 7 48 (v := ?_) (T' := ?_) (Later.refl _) (by kernel_rfl) (by kernel_rfl) (by kernel_rfl) (fun _ _ _ h => h) (fun o ho => ?_) ?_ ?_
      rotate_left 2
      · cases ho
        refine ⟨rfl, rfl, fun W hW => ?_⟩
        go_simp; (try with_reducible rfl)
      · simp only [List.setIfInBounds_toArray, List.set_cons_succ, List.set_cons_zero]; exact rfl
      refine reg_take2 8 49 (v := ?_) (T' := ?_) (Later.refl _) (by kernel_rfl) (by kernel_rfl) (by kernel_rfl) (fun _ _ _ h => h) (fun o ho => ?_) ?_ ?_
      rotate_left 2
      · cases ho
        refine ⟨rfl, rfl, fun W hW => ?_⟩
        go_simp; (try with_reducible rfl)
      · simp only [List.setIfInBounds_toArray, List.set_cons_succ, List.set_cons_zero]; exact rfl
      refine reg_take2 9 50 (v := ?_) (T' := ?_) (Later.refl _) (by kernel_rfl) (by kernel_rfl) (by kernel_rfl) (fun _ _ _ h => h) (fun o ho => ?_) ?_ ?_
      rotate_left 2
      · cases ho
        refine ⟨rfl, rfl, fun W hW => ?_⟩
        go_simp; (try with_reducible rfl)
      · simp only [List.setIfInBounds_toArray, List.set_cons_succ, List.set_cons_zero]; exact rfl
      refine reg_take2 10 51 (v := ?_) (T' := ?_) (Later.refl _) (by kernel_rfl) (by kernel_rfl) (by kernel_rfl) (fun _ _ _ h => h) (fun o ho => ?_) ?_ ?_
      rotate_left 2
      · cases ho
        refine ⟨rfl, rfl, fun W hW => ?_⟩
        go_simp; (try with_reducible rfl)
      · simp only [List.setIfInBounds_toArray, List.set_cons_succ, List.set_cons_zero]; exact rfl
      refine reg_take2 11 52 (v := ?_) (T' := ?_) (Later.refl _) (by kernel_rfl) (by kernel_rfl) (by kernel_rfl) (fun _ _ _ h => h) (fun o ho => ?_) ?_ ?_
      rotate_left 2
      · cases ho
        refine ⟨rfl, rfl, fun W hW => ?_⟩
        obtain ⟨bq, oq, hq, -, n0, n1, n2, n3⟩ := RdX.br (R.out.below hW) k HK.out HX.out
        cases hq
        go_simp; (try with_reducible rfl)
      · simp only [List.setIfInBounds_toArray, List.set_cons_succ, List.set_cons_zero]; exact rfl
      refine reg_take2 12 53 (v := ?_) (T' := ?_) (Later.refl _) (by kernel_rfl) (by kernel_rfl) (by kernel_rfl) (fun _ _ _ h => h) (fun o ho => ?_) ?_ ?_
      rotate_left 2
      · cases ho
        refine ⟨rfl, rfl, fun W hW => ?_⟩
        go_simp; (try with_reducible rfl)
      · simp only [List.setIfInBounds_toArray, List.set_cons_succ, List.set_cons_zero]; exact rfl
      refine reg_take2 14 55 (v := ?_) (T' := ?_) (Later.refl _) (by kernel_rfl) (by kernel_rfl) (by kernel_rfl) (fun _ _ _ h => h) (fun o ho => ?_) ?_ ?_
      rotate_left 2
      · cases ho
        refine ⟨rfl, rfl, fun W hW => ?_⟩
        have BW := Box.later BX.out hW
        have d0 := BW.cell 0 (.int .i64 sb) rfl
        have d1 := BW.cell 1 (.int .i64 se) rfl
        have d2 := BW.cell 2 (.int .i64 sq) rfl
        go_simp; (try with_reducible rfl)
      · simp only [List.setIfInBounds_toArray, List.set_cons_succ, List.set_cons_zero]; exact rfl
      refine reg_call2 3 44 (Later.refl _) (by kernel_rfl) 11 #[.slice (some ⟨bn, on, none⟩) N.length c1, .int .i64 (k : Int), .int .i64 e] (fun o ho => by cases ho; exact ⟨rfl, rfl, fun W => by go_simp⟩) ?_
      refine (KP.out _ N (k : Int) e _ R.out).mono ?_
      rintro z x1 ⟨v2, rfl, ho, hb⟩
      have HLP1 := Lib.hid (Nat.le_trans (path_few N (k : Int) e) (show 16 ≤ 1000 from by decide))
      generalize hPP1 : pathT N (k : Int) e = P1 at *
      have HPP1 := Lib.hid hPP1
      clear hPP1
      have OP1 := Lib.hid ho.rd
      obtain ⟨B1, cB1, ev, -⟩ := ho.rd
      subst ev
      have R := Lib.hid (R.out.on hb)
      have BX := Lib.hid (Box.later BX.out hb)
      have G := Lib.hid (G.out.trans (hb.mono G.out.size))
      refine ⟨_, _, rfl, hb, (by simp only [List.setIfInBounds_toArray, List.set_cons_succ, List.set_cons_zero]; exact rfl), ?_⟩
      clear hb ho
      refine reg_call2 5 46 (Later.refl _) (by kernel_rfl) 16 #[.slice B1 P1.length cB1, .agg #[.int .i64 sb, .int .i64 se, .int .i64 sq]] (fun o ho => by cases ho; exact ⟨rfl, rfl, fun W => by go_simp⟩) ?_
      refine (KS.out _ P1 sb se sq _ OP1.out HLP1.out).mono ?_
      rintro z x2 ⟨rfl, hb⟩
      have R := Lib.hid (R.out.on hb)
      have BX := Lib.hid (Box.later BX.out hb)
      have G := Lib.hid (G.out.trans (hb.mono G.out.size))
      refine ⟨_, _, rfl, hb, (by simp only [List.setIfInBounds_toArray, List.set_cons_succ, List.set_cons_zero]; exact rfl), ?_⟩
      clear hb
      refine reg_call2 13 54 (Later.refl _) (by kernel_rfl) 11 #[.slice (some ⟨bn, on, none⟩) N.length c1, .int .i64 (q : Int), .int .i64 f] (fun o ho => by cases ho; exact ⟨rfl, rfl, fun W => by go_simp⟩) ?_
      refine (KP.out _ N (q : Int) f _ R.out).mono ?_
      rintro z x3 ⟨v2, rfl, ho, hb⟩
      have HLP2 := Lib.hid (Nat.le_trans (path_few N (q : Int) f) (show 16 ≤ 1000 from by decide))
      generalize hPP2 : pathT N (q : Int) f = P2 at *
      have HPP2 := Lib.hid hPP2
      clear hPP2
      have OP2 := Lib.hid ho.rd
      obtain ⟨B2, cB2, ev, -⟩ := ho.rd
      subst ev
      have R := Lib.hid (R.out.on hb)
      have BX := Lib.hid (Box.later BX.out hb)
      have G := Lib.hid (G.out.trans (hb.mono G.out.size))
      refine ⟨_, _, rfl, hb, (by simp only [List.setIfInBounds_toArray, List.set_cons_succ, List.set_cons_zero]; exact rfl), ?_⟩
      clear hb ho
      refine reg_call2 15 56 (Later.refl _) (by kernel_rfl) 16 #[.slice B2 P2.length cB2, .agg #[.int .i64 sb, .int .i64 se, .int .i64 sq]] (fun o ho => by cases ho; exact ⟨rfl, rfl, fun W => by go_simp⟩) ?_
      refine (KS.out _ P2 sb se sq _ OP2.out HLP2.out).mono ?_
      rintro z x4 ⟨rfl, hb⟩
      have R := Lib.hid (R.out.on hb)
      have BX := Lib.hid (Box.later BX.out hb)
      have G := Lib.hid (G.out.trans (hb.mono G.out.size))
      refine ⟨_, _, rfl, hb, (by simp only [List.setIfInBounds_toArray, List.set_cons_succ, List.set_cons_zero]; exact rfl), ?_⟩
      clear hb
      refine reg_take2 16 57 (v := ?_) (T' := ?_) (Later.refl _) (by kernel_rfl) (by kernel_rfl) (by kernel_rfl) (fun _ _ _ h => h) (fun o ho => ?_) ?_ ?_
      rotate_left 2
      · cases ho
        refine ⟨rfl, rfl, fun W hW => ?_⟩
        have hbb : seesT P1 sb se = seesT P2 sb se := HSE.out
        have hb2 : (seesT P1 sb se == seesT P2 sb se) = true := by rw [hbb]; simp
        go_simp; (try with_reducible rfl)
      · simp only [List.setIfInBounds_toArray, List.set_cons_succ, List.set_cons_zero]; exact rfl
      refine reg_take2 17 58 (v := ?_) (T' := ?_) (Later.refl _) (by kernel_rfl) (by kernel_rfl) (by kernel_rfl) (fun _ _ _ h => h) (fun o ho => ?_) ?_ ?_
      rotate_left 2
      · cases ho
        refine ⟨rfl, rfl, fun W hW => ?_⟩
        go_simp; (try with_reducible rfl)
      · simp only [List.setIfInBounds_toArray, List.set_cons_succ, List.set_cons_zero]; exact rfl
      refine reg_call2 18 59 (Later.refl _) (by kernel_rfl) 15 #[] (fun o ho => by cases ho; exact ⟨rfl, rfl, fun W => by go_simp⟩) ?_
      refine (LV.out _).mono ?_
      rintro z x5 ⟨rfl, hb⟩
      have G := Lib.hid (G.out.trans (hb.mono G.out.size))
      refine ⟨_, _, rfl, hb, (by simp only [List.setIfInBounds_toArray, List.set_cons_succ, List.set_cons_zero]; exact rfl), ?_⟩
      clear hb
      refine reg_take2 19 60 (v := ?_) (T' := ?_) (Later.refl _) (by kernel_rfl) (by kernel_rfl) (by kernel_rfl) (fun _ _ _ h => h) (fun o ho => ?_) ?_ ?_
      rotate_left 2
      · cases ho
        refine ⟨rfl, rfl, fun W hW => ?_⟩
        go_simp; (try with_reducible rfl)
      · simp only [List.setIfInBounds_toArray, List.set_cons_succ, List.set_cons_zero]; exact rfl
      refine reg_take2 20 8 (v := ?_) (T' := ?_) (Later.refl _) (by kernel_rfl) (by kernel_rfl) (by kernel_rfl) (fun _ _ _ h => h) (fun o ho => ?_) ?_ ?_
      rotate_left 2
      · cases ho
        refine ⟨rfl, rfl, fun W hW => ?_⟩
        go_simp; (try with_reducible rfl)
      · simp only [List.setIfInBounds_toArray, List.set_cons_succ, List.set_cons_zero]; exact rfl
      refine reg_done (by kernel_rfl) ?_
      go_wp2_with fail
      go_ret
      exact ⟨rfl, G.out⟩
    · have zf : decide (f < e) = false := by rw [decide_eq_false_iff_not]; omega
      have HSE := Lib.hid (show seesT (pathT N k e) sb se = seesT (pathT N q e) sb se from by rw [HSH.out, if_neg (by omega)])
      clear hf HSH
      go_wp2_with fail
      have R := Lib.hid (show RdX brL w1.drew w1.drew.heap.size (.slice (some ⟨bn, on, none⟩) N.length c1) N from R.out)
      have G := Lib.hid (G.out.drewN 1)
      have BX := Lib.hid (show Box w1.drew w.heap.size #[.int .i64 sb, .int .i64 se, .int .i64 sq] 32 from BX.out)
      clear e0 e1 e2 e3 d0
      refine reg_start (by kernel_rfl) ?_
      refine reg_take2 0 41 (v := ?_) (T' := ?_) (Later.refl _) (by kernel_rfl) (by kernel_rfl) (by kernel_rfl) (fun _ _ _ h => h) (fun o ho => ?_) ?_ ?_
      rotate_left 2
      · cases ho
        refine ⟨rfl, rfl, fun W hW => ?_⟩
        go_simp; (try with_reducible rfl)
      · simp only [List.setIfInBounds_toArray, List.set_cons_succ, List.set_cons_zero]; exact rfl
      refine reg_take2 1 42 (v := ?_) (T' := ?_) (Later.refl _) (by kernel_rfl) (by kernel_rfl) (by kernel_rfl) (fun _ _ _ h => h) (fun o ho => ?_) ?_ ?_
      rotate_left 2
      · cases ho
        refine ⟨rfl, rfl, fun W hW => ?_⟩
        go_simp; (try with_reducible rfl)
      · simp only [List.setIfInBounds_toArray, List.set_cons_succ, List.set_cons_zero]; exact rfl
      refine reg_take2 2 43 (v := ?_) (T' := ?_) (Later.refl _) (by kernel_rfl) (by kernel_rfl) (by kernel_rfl) (fun _ _ _ h => h) (fun o ho => ?_) ?_ ?_
      rotate_left 2
      · cases ho
        refine ⟨rfl, rfl, fun W hW => ?_⟩
        go_simp; (try with_reducible rfl)
      · simp only [List.setIfInBounds_toArray, List.set_cons_succ, List.set_cons_zero]; exact rfl
      refine reg_take2 4 45 (v := ?_) (T' := ?_) (Later.refl _) (by kernel_rfl) (by kernel_rfl) (by kernel_rfl) (fun _ _ _ h => h) (fun o ho => ?_) ?_ ?_
      rotate_left 2
      · cases ho
        refine ⟨rfl, rfl, fun W hW => ?_⟩
        have BW := Box.later BX.out hW
        have d0 := BW.cell 0 (.int .i64 sb) rfl
        have d1 := BW.cell 1 (.int .i64 se) rfl
        have d2 := BW.cell 2 (.int .i64 sq) rfl
        go_simp; (try with_reducible rfl)
      · simp only [List.setIfInBounds_toArray, List.set_cons_succ, List.set_cons_zero]; exact rfl
      refine reg_take2 6 47 (v := ?_) (T' := ?_) (Later.refl _) (by kernel_rfl) (by kernel_rfl) (by kernel_rfl) (fun _ _ _ h => h) (fun o ho => ?_) ?_ ?_
      rotate_left 2
      · cases ho
        refine ⟨rfl, rfl, fun W hW => ?_⟩
        go_simp; (try with_reducible rfl)
      · simp only [List.setIfInBounds_toArray, List.set_cons_succ, List.set_cons_zero]; exact rfl
      refine reg_take2 7 48 (v := ?_) (T' := ?_) (Later.refl _) (by kernel_rfl) (by kernel_rfl) (by kernel_rfl) (fun _ _ _ h => h) (fun o ho => ?_) ?_ ?_
      rotate_left 2
      · cases ho
        refine ⟨rfl, rfl, fun W hW => ?_⟩
        go_simp; (try with_reducible rfl)
      · simp only [List.setIfInBounds_toArray, List.set_cons_succ, List.set_cons_zero]; exact rfl
      refine reg_take2 8 49 (v := ?_) (T' := ?_) (Later.refl _) (by kernel_rfl) (by kernel_rfl) (by kernel_rfl) (fun _ _ _ h => h) (fun o ho => ?_) ?_ ?_
      rotate_left 2
      · cases ho
        refine ⟨rfl, rfl, fun W hW => ?_⟩
        go_simp; (try with_reducible rfl)
      · simp only [List.setIfInBounds_toArray, List.set_cons_succ, List.set_cons_zero]; exact rfl
      refine reg_take2 9 50 (v := ?_) (T' := ?_) (Later.refl _) (by kernel_rfl) (by kernel_rfl) (by kernel_rfl) (fun _ _ _ h => h) (fun o ho => ?_) ?_ ?_
      rotate_left 2
      · cases ho
        refine ⟨rfl, rfl, fun W hW => ?_⟩
        go_simp; (try with_reducible rfl)
      · simp only [List.setIfInBounds_toArray, List.set_cons_succ, List.set_cons_zero]; exact rfl
      refine reg_take2 10 51 (v := ?_) (T' := ?_) (Later.refl _) (by kernel_rfl) (by kernel_rfl) (by kernel_rfl) (fun _ _ _ h => h) (fun o ho => ?_) ?_ ?_
      rotate_left 2
      · cases ho
        refine ⟨rfl, rfl, fun W hW => ?_⟩
        go_simp; (try with_reducible rfl)
      · simp only [List.setIfInBounds_toArray, List.set_cons_succ, List.set_cons_zero]; exact rfl
      refine reg_take2 11 52 (v := ?_) (T' := ?_) (Later.refl _) (by kernel_rfl) (by kernel_rfl) (by kernel_rfl) (fun _ _ _ h => h) (fun o ho => ?_) ?_ ?_
      rotate_left 2
      · cases ho
        refine ⟨rfl, rfl, fun W hW => ?_⟩
        obtain ⟨bq, oq, hq, -, n0, n1, n2, n3⟩ := RdX.br (R.out.below hW) k HK.out HX.out
        cases hq
        go_simp; (try with_reducible rfl)
      · simp only [List.setIfInBounds_toArray, List.set_cons_succ, List.set_cons_zero]; exact rfl
      refine reg_take2 12 53 (v := ?_) (T' := ?_) (Later.refl _) (by kernel_rfl) (by kernel_rfl) (by kernel_rfl) (fun _ _ _ h => h) (fun o ho => ?_) ?_ ?_
      rotate_left 2
      · cases ho
        refine ⟨rfl, rfl, fun W hW => ?_⟩
        go_simp; (try with_reducible rfl)
      · simp only [List.setIfInBounds_toArray, List.set_cons_succ, List.set_cons_zero]; exact rfl
      refine reg_take2 14 55 (v := ?_) (T' := ?_) (Later.refl _) (by kernel_rfl) (by kernel_rfl) (by kernel_rfl) (fun _ _ _ h => h) (fun o ho => ?_) ?_ ?_
      rotate_left 2
      · cases ho
        refine ⟨rfl, rfl, fun W hW => ?_⟩
        have BW := Box.later BX.out hW
        have d0 := BW.cell 0 (.int .i64 sb) rfl
        have d1 := BW.cell 1 (.int .i64 se) rfl
        have d2 := BW.cell 2 (.int .i64 sq) rfl
        go_simp; (try with_reducible rfl)
      · simp only [List.setIfInBounds_toArray, List.set_cons_succ, List.set_cons_zero]; exact rfl
      refine reg_call2 3 44 (Later.refl _) (by kernel_rfl) 11 #[.slice (some ⟨bn, on, none⟩) N.length c1, .int .i64 (k : Int), .int .i64 e] (fun o ho => by cases ho; exact ⟨rfl, rfl, fun W => by go_simp⟩) ?_
      refine (KP.out _ N (k : Int) e _ R.out).mono ?_
      rintro z x1 ⟨v2, rfl, ho, hb⟩
      have HLP1 := Lib.hid (Nat.le_trans (path_few N (k : Int) e) (show 16 ≤ 1000 from by decide))
      generalize hPP1 : pathT N (k : Int) e = P1 at *
      have HPP1 := Lib.hid hPP1
      clear hPP1
      have OP1 := Lib.hid ho.rd
      obtain ⟨B1, cB1, ev, -⟩ := ho.rd
      subst ev
      have R := Lib.hid (R.out.on hb)
      have BX := Lib.hid (Box.later BX.out hb)
      have G := Lib.hid (G.out.trans (hb.mono G.out.size))
      refine ⟨_, _, rfl, hb, (by simp only [List.setIfInBounds_toArray, List.set_cons_succ, List.set_cons_zero]; exact rfl), ?_⟩
      clear hb ho
      refine reg_call2 5 46 (Later.refl _) (by kernel_rfl) 16 #[.slice B1 P1.length cB1, .agg #[.int .i64 sb, .int .i64 se, .int .i64 sq]] (fun o ho => by cases ho; exact ⟨rfl, rfl, fun W => by go_simp⟩) ?_
      refine (KS.out _ P1 sb se sq _ OP1.out HLP1.out).mono ?_
      rintro z x2 ⟨rfl, hb⟩
      have R := Lib.hid (R.out.on hb)
      have BX := Lib.hid (Box.later BX.out hb)
      have G := Lib.hid (G.out.trans (hb.mono G.out.size))
      refine ⟨_, _, rfl, hb, (by simp only [List.setIfInBounds_toArray, List.set_cons_succ, List.set_cons_zero]; exact rfl), ?_⟩
      clear hb
      refine reg_call2 13 54 (Later.refl _) (by kernel_rfl) 11 #[.slice (some ⟨bn, on, none⟩) N.length c1, .int .i64 (q : Int), .int .i64 e] (fun o ho => by cases ho; exact ⟨rfl, rfl, fun W => by go_simp⟩) ?_
      refine (KP.out _ N (q : Int) e _ R.out).mono ?_
      rintro z x3 ⟨v2, rfl, ho, hb⟩
      have HLP2 := Lib.hid (Nat.le_trans (path_few N (q : Int) e) (show 16 ≤ 1000 from by decide))
      generalize hPP2 : pathT N (q : Int) e = P2 at *
      have HPP2 := Lib.hid hPP2
      clear hPP2
      have OP2 := Lib.hid ho.rd
      obtain ⟨B2, cB2, ev, -⟩ := ho.rd
      subst ev
      have R := Lib.hid (R.out.on hb)
      have BX := Lib.hid (Box.later BX.out hb)
      have G := Lib.hid (G.out.trans (hb.mono G.out.size))
      refine ⟨_, _, rfl, hb, (by simp only [List.setIfInBounds_toArray, List.set_cons_succ, List.set_cons_zero]; exact rfl), ?_⟩
      clear hb ho
      refine reg_call2 15 56 (Later.refl _) (by kernel_rfl) 16 #[.slice B2 P2.length cB2, .agg #[.int .i64 sb, .int .i64 se, .int .i64 sq]] (fun o ho => by cases ho; exact ⟨rfl, rfl, fun W => by go_simp⟩) ?_
      refine (KS.out _ P2 sb se sq _ OP2.out HLP2.out).mono ?_
      rintro z x4 ⟨rfl, hb⟩
      have R := Lib.hid (R.out.on hb)
      have BX := Lib.hid (Box.later BX.out hb)
      have G := Lib.hid (G.out.trans (hb.mono G.out.size))
      refine ⟨_, _, rfl, hb, (by simp only [List.setIfInBounds_toArray, List.set_cons_succ, List.set_cons_zero]; exact rfl), ?_⟩
      clear hb
      refine reg_take2 16 57 (v := ?_) (T' := ?_) (Later.refl _) (by kernel_rfl) (by kernel_rfl) (by kernel_rfl) (fun _ _ _ h => h) (fun o ho => ?_) ?_ ?_
      rotate_left 2
      · cases ho
        refine ⟨rfl, rfl, fun W hW => ?_⟩
        have hbb : seesT P1 sb se = seesT P2 sb se := HSE.out
        have hb2 : (seesT P1 sb se == seesT P2 sb se) = true := by rw [hbb]; simp
        go_simp; (try with_reducible rfl)
      · simp only [List.setIfInBounds_toArray, List.set_cons_succ, List.set_cons_zero]; exact rfl
      refine reg_take2 17 58 (v := ?_) (T' := ?_) (Later.refl _) (by kernel_rfl) (by kernel_rfl) (by kernel_rfl) (fun _ _ _ h => h) (fun o ho => ?_) ?_ ?_
      rotate_left 2
      · cases ho
        refine ⟨rfl, rfl, fun W hW => ?_⟩
        go_simp; (try with_reducible rfl)
      · simp only [List.setIfInBounds_toArray, List.set_cons_succ, List.set_cons_zero]; exact rfl
      refine reg_call2 18 59 (Later.refl _) (by kernel_rfl) 15 #[] (fun o ho => by cases ho; exact ⟨rfl, rfl, fun W => by go_simp⟩) ?_
      refine (LV.out _).mono ?_
      rintro z x5 ⟨rfl, hb⟩
      have G := Lib.hid (G.out.trans (hb.mono G.out.size))
      refine ⟨_, _, rfl, hb, (by simp only [List.setIfInBounds_toArray, List.set_cons_succ, List.set_cons_zero]; exact rfl), ?_⟩
      clear hb
      refine reg_take2 19 60 (v := ?_) (T' := ?_) (Later.refl _) (by kernel_rfl) (by kernel_rfl) (by kernel_rfl) (fun _ _ _ h => h) (fun o ho => ?_) ?_ ?_
      rotate_left 2
      · cases ho
        refine ⟨rfl, rfl, fun W hW => ?_⟩
        go_simp; (try with_reducible rfl)
      · simp only [List.setIfInBounds_toArray, List.set_cons_succ, List.set_cons_zero]; exact rfl
      refine reg_take2 20 8 (v := ?_) (T' := ?_) (Later.refl _) (by kernel_rfl) (by kernel_rfl) (by kernel_rfl) (fun _ _ _ h => h) (fun o ho => ?_) ?_ ?_
      rotate_left 2
      · cases ho
        refine ⟨rfl, rfl, fun W hW => ?_⟩
        go_simp; (try with_reducible rfl)
      · simp only [List.setIfInBounds_toArray, List.set_cons_succ, List.set_cons_zero]; exact rfl
      refine reg_done (by kernel_rfl) ?_
      go_wp2_with fail
      go_ret
      exact ⟨rfl, G.out⟩
  · have hor : br < 1 ∨ (¬ br < 1 ∧ (N.length : Int) ≤ br) ∨ (¬ br < 1 ∧ ¬ (N.length : Int) ≤ br ∧ sb = br) := by
      by_cases h1 : br < 1
      · exact .inl h1
      · by_cases h2 : (N.length : Int) ≤ br
        · exact .inr (.inl ⟨h1, h2⟩)
        · refine .inr (.inr ⟨h1, h2, ?_⟩)
          by_cases h3 : sb = br
          · exact h3
          · exact absurd ⟨by omega, by omega, h3⟩ hin
    rcases hor with h1 | ⟨h1, h2⟩ | ⟨h1, h2, h3⟩
    case' inl =>
      have z1 : decide (br < 1) = true := by simp; omega
      clear h1
    case' inr.inl =>
      have z1 : decide (br < 1) = false := by rw [decide_eq_false_iff_not]; omega
      have z2 : decide ((N.length : Int) ≤ br) = true := by simp; omega
      clear h1 h2
    case' inr.inr =>
      have z1 : decide (br < 1) = false := by rw [decide_eq_false_iff_not]; omega
      have z2 : decide ((N.length : Int) ≤ br) = false := by rw [decide_eq_false_iff_not]; omega
      have z3 : (sb == br) = true := by rw [beq_iff_eq]; exact h3
      clear h1 h2 h3
    all_goals
      clear hin
      go_wp2_with fail
      refine (LV.out _).mono ?_
      rintro z w8 ⟨rfl, hb⟩
      have G := Lib.hid (G.out.trans (hb.mono G.out.size))
      clear hb
      go_wp2_with fail
      go_ret
      exact ⟨rfl, G.out⟩
-- END
set_option maxRecDepth 100000 in
theorem lifted (os : Os) (started : os.Started) (H : Type) (enc : TypeId × Value → H) :
    ReturnsInHanded {} Try.checked os 7 .any (Rows.treeSharesSpec.pre6 enc Try.prog Try.f7 Rows.treeSharesRow.domain false) (Rows.treeSharesSpec.post enc Try.prog Try.f7 false true false false) := by
  refine returnsInHanded_of_change (C := Try.checked) Try.own started (by kernel_rfl) Try.func7
    (ChangeSpec.witness6 (enc := enc) (C := Try.checked) false ⟨#[], #[.slice none 0 0, .int .i64 0, .int .i64 0, .agg #[.int .i64 0, .int .i64 0, .int .i64 0]], []⟩ 8 (by kernel_rfl) (by kernel_rfl) (by kernel_rfl) (by kernel_rfl)) ?_
  intro W base args ds gs before hval0 hW _ _
  have hval : ∀ (j : Nat) t v, Try.f7.params[j]? = some t → args[j]? = some v → Value.okWide Try.prog W .any base t v := hval0
  have hW' := hW
  obtain ⟨p, q, hA0, hV, rfl, _, _⟩ := hW
  have hA : DataW.TrodAll enc Try.prog W 0 (fun _ => true) true Try.f7.params.toList args.toList ds p := hA0
  rw [Try.params7] at hA hval
  obtain ⟨v0, v1, v2, v3, d0, d1, d2, d3, p0, p1, p2, p3, rfl, rfl, rfl, h0, h1, h2, h3⟩ := trodAll_four hA
  obtain ⟨rfl, rfl⟩ := trodVars_none hV
  have hlt := fun x hx => hW'.lt x hx
  obtain ⟨a0, r0, b0⟩ := open_brs (hval 0 _ v0 rfl rfl) h0 (fun x hx => by simpa using hlt x (by simp [hx]))
  obtain ⟨a1, rfl, rfl, rfl, w1⟩ := open_int Try.underlying3 (hval 1 _ v1 rfl rfl) h1
  have w1 := wf_int w1
  obtain ⟨a2, rfl, rfl, rfl, w2⟩ := open_int Try.underlying3 (hval 2 _ v2 rfl rfl) h2
  have w2 := wf_int w2
  obtain ⟨⟨mb3, me3, mq3⟩, rfl, x3⟩ := open_st (hval 3 _ v3 rfl rfl) h3
  refine (walk0 path_k live_k sees_k v0 a0 a1 a2 mb3 me3 mq3 _ r0 b0).mono fun e W' ⟨he, hb⟩ => ⟨_, he, ?_⟩
  exact law_post Try.laidOut (by decide +kernel) rfl Try.underlying4 rfl hW' rfl hb

theorem holds : Rows.TreeSharesSaid :=
  OpenClaim.holds_of_wide 7 Try.f7 rfl rfl rfl rfl rfl rfl rfl ⟨rfl, rfl, rfl, rfl, rfl⟩ rfl rfl rfl rfl rfl (by kernel_rfl) Try.func7 (by kernel_rfl)
    (of_decide_eq_true (by kernel_rfl)) (by unfold Func.isWrapper; first | (rw [if_pos (by decide +kernel)]; kernel_rfl) | (rw [if_neg (by decide +kernel)]; exact ⟨rfl, rfl⟩))
    (fun os started H enc _ => lifted os started H enc)
end Go.Proofs.Ytopiddlijlcbbaa.L05
