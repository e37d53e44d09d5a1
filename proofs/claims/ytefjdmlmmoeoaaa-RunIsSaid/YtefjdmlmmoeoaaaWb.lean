/- Layer 9: whether versions are a run, by the document. -/
import Derived.Test.YtefjdmlmmoeoaaaTa
import Derived.Test.YtefjdmlmmoeoaaaBE
namespace Go.Proofs.Ytefjdmlmmoeoaaa
open Go.RowKit
set_option linter.unusedVariables false

set_option maxHeartbeats 4000000 in
set_option maxRecDepth 100000 in
theorem ref9_is (va : Value) (l : List Ver) (w : World) (ha : RdVr w w.heap.size va l) (hk : ∀ v ∈ l, v.key.size ≤ 1000000) :
    Calls Try.prog 18 #[va] w fun e w' => e = .returned (.bool (okTo l l.length)) ∧ Below w.heap.size w w' := by
  have HA := Lib.hid ha
  have HK := Lib.hid hk
  obtain ⟨A, ca, rfl, hla, hca, -⟩ := ha
  have HR := Lib.hid (show okTo l l.length = okTo l l.length from rfl)
  generalize hres : okTo l l.length = res at *
  clear hk HR
  have HR := Lib.hid hres.symm
  clear hres
  go_enter Try.func18, Try.ntmps18
  go_wp2_with fail
  go_loopw [3] (fun i wr => ∃ k : Nat, i = .int .i64 k ∧ k ≤ l.length ∧ okTo l k = true ∧ Below w.heap.size w wr) (fun i _ => l.length - (intOf i).toNat)
  case atStart => exact ⟨0, rfl, Nat.zero_le _, rfl, Below.refl _ _⟩
  case round =>
    obtain ⟨k, rfl, hk, hok, hbw⟩ := hrel
    have G := Lib.hid hbw
    have OK := Lib.hid hok
    clear hbw hok
    by_cases hlt : k < l.length
    · have zl : decide ((k : Int) < (l.length : Int)) = true := by simp; omega
      obtain ⟨b, o, eA, hbb, c0, c1, c2, c3, c4, c5, c6, c7⟩ := RdVr.here (HA.out.below G.out) k hlt
      have hok2 := okTo_succ l k
      have hat : okAt l k = (mayV l[k] && (decide (k = 0) || lessV (l.getD (k - 1) zeroV) l[k])) := by unfold okAt; rw [getD_at hlt]
      have HBAD := Lib.hid (fun h => okTo_bad (l := l) (k := k) (n := l.length) h hlt)
      have MV := Lib.hid (fun w => ref6_may l[k] w (HK.out _ (List.getElem_mem hlt)))
      have HOK := Lib.hid hok2
      have HAT := Lib.hid hat
      clear hok2 hat
      by_cases hk0 : k = 0
      · subst hk0
        simp only [decide_true, Bool.true_or, Bool.and_true] at HAT
        subst eA
        simp only [Nat.zero_mul, Nat.add_zero] at c0 c1 c2 c3 c4 c5 c6 c7
        generalize l[0] = p at *
        obtain ⟨kk, bb, ee, ss, ⟨xx, yy⟩, uu, gg⟩ := p
        have MV2 := Lib.hid MV.out
        unfold verV at MV2
        simp only at MV2 c0 c1 c2 c3 c4 c5 c6 c7
        go_wp2_with fail
        refine (MV2.out _).mono ?_
        rintro e w2 ⟨rfl, hb2⟩
        have G2 := Lib.hid (G.out.trans (hb2.mono G.out.size))
        clear hb2 c0 c1 c2 c3 c4 c5 c6 c7
        cases hm : mayV ⟨kk, bb, ee, ss, (xx, yy), uu, gg⟩
        · rw [hm] at HAT
          have HB := Lib.hid (HBAD.out HAT.out)
          clear hm
          go_wp2_with fail
          go_quiet (fail)
          go_wp2_with fail
          go_ret
          exact ⟨ret_bool (by rw [HR.out, HB.out]), G2.out.drewN _⟩
        · rw [hm] at HAT
          have HN := Lib.hid (show okTo l (0 + 1) = true from by rw [HOK.out, OK.out, HAT.out]; rfl)
          clear hm
          go_wp2_with fail
          go_quiet (fail)
          go_wp2_with fail
          go_roundw
          case rel => exact ⟨1, by go_num, by omega, HN.out, G2.out.drewN _⟩
          case measure => simp [intOf]; omega
      · have zk : decide ((0 : Int) < (k : Int)) = true := by simp; omega
        have zk2 : decide (0 < k) = true := by simp; omega
        have hlt1 : k - 1 < l.length := by omega
        have hsub : (k : Int) - 1 = ((k - 1 : Nat) : Int) := by omega
        have hw64 : IntKind.i64.wrap ((k - 1 : Nat) : Int) = ((k - 1 : Nat) : Int) := by rw [IntKind.wrap_i64]; omega
        have hi1 : ((k - 1 : Nat) : Int) < (l.length : Int) := by omega
        obtain ⟨b', o', eA', hbb', d0, d1, d2, d3, d4, d5, d6, d7⟩ := RdVr.here (HA.out.below G.out) (k - 1) hlt1
        subst eA
        injection eA' with e1
        injection e1 with e1 e2 e3
        subst e1 e2
        clear e3
        have LS := Lib.hid (fun w => ref6_less l[k - 1] l[k] w)
        have HAT2 := Lib.hid (show okAt l k = (mayV l[k] && lessV l[k - 1] l[k]) from by rw [HAT.out, decide_eq_false hk0, Bool.false_or, getD_at hlt1])
        have HBB := Lib.hid hbb
        clear HAT hbb'
        generalize hp : l[k] = p at *
        generalize hq : l[k - 1] = q at *
        obtain ⟨kk, bb, ee, ss, ⟨xx, yy⟩, uu, gg⟩ := p
        obtain ⟨kk', bb', ee', ss', ⟨xx', yy'⟩, uu', gg'⟩ := q
        have MV2 := Lib.hid MV.out
        unfold verV at MV2 LS
        simp only at MV2 LS c0 c1 c2 c3 c4 c5 c6 c7 d0 d1 d2 d3 d4 d5 d6 d7
        clear MV hp hq
        go_wp2_with fail
        refine (MV2.out _).mono ?_
        rintro e w2 ⟨rfl, hb2⟩
        have G2 := Lib.hid (G.out.trans (hb2.mono G.out.size))
        have c0 := (hb2.cell (p := ⟨b, o + k * 8, none⟩) (Nat.lt_of_lt_of_le HBB.out G.out.size)).trans c0
        have c1 := (hb2.cell (p := ⟨b, o + k * 8 + 1, none⟩) (Nat.lt_of_lt_of_le HBB.out G.out.size)).trans c1
        have c2 := (hb2.cell (p := ⟨b, o + k * 8 + 2, none⟩) (Nat.lt_of_lt_of_le HBB.out G.out.size)).trans c2
        have c3 := (hb2.cell (p := ⟨b, o + k * 8 + 3, none⟩) (Nat.lt_of_lt_of_le HBB.out G.out.size)).trans c3
        have c4 := (hb2.cell (p := ⟨b, o + k * 8 + 4, none⟩) (Nat.lt_of_lt_of_le HBB.out G.out.size)).trans c4
        have c5 := (hb2.cell (p := ⟨b, o + k * 8 + 5, none⟩) (Nat.lt_of_lt_of_le HBB.out G.out.size)).trans c5
        have c6 := (hb2.cell (p := ⟨b, o + k * 8 + 6, none⟩) (Nat.lt_of_lt_of_le HBB.out G.out.size)).trans c6
        have c7 := (hb2.cell (p := ⟨b, o + k * 8 + 7, none⟩) (Nat.lt_of_lt_of_le HBB.out G.out.size)).trans c7
        have d0 := (hb2.cell (p := ⟨b, o + (k - 1) * 8, none⟩) (Nat.lt_of_lt_of_le HBB.out G.out.size)).trans d0
        have d1 := (hb2.cell (p := ⟨b, o + (k - 1) * 8 + 1, none⟩) (Nat.lt_of_lt_of_le HBB.out G.out.size)).trans d1
        have d2 := (hb2.cell (p := ⟨b, o + (k - 1) * 8 + 2, none⟩) (Nat.lt_of_lt_of_le HBB.out G.out.size)).trans d2
        have d3 := (hb2.cell (p := ⟨b, o + (k - 1) * 8 + 3, none⟩) (Nat.lt_of_lt_of_le HBB.out G.out.size)).trans d3
        have d4 := (hb2.cell (p := ⟨b, o + (k - 1) * 8 + 4, none⟩) (Nat.lt_of_lt_of_le HBB.out G.out.size)).trans d4
        have d5 := (hb2.cell (p := ⟨b, o + (k - 1) * 8 + 5, none⟩) (Nat.lt_of_lt_of_le HBB.out G.out.size)).trans d5
        have d6 := (hb2.cell (p := ⟨b, o + (k - 1) * 8 + 6, none⟩) (Nat.lt_of_lt_of_le HBB.out G.out.size)).trans d6
        have d7 := (hb2.cell (p := ⟨b, o + (k - 1) * 8 + 7, none⟩) (Nat.lt_of_lt_of_le HBB.out G.out.size)).trans d7
        clear hb2
        cases hm : mayV ⟨kk, bb, ee, ss, (xx, yy), uu, gg⟩
        · rw [hm] at HAT2
          have HB := Lib.hid (HBAD.out HAT2.out)
          clear hm
          go_wp2_with fail
          go_quiet (fail)
          go_wp2_with fail
          go_ret
          exact ⟨ret_bool (by rw [HR.out, HB.out]), G2.out.drewN _⟩
        · rw [hm, Bool.true_and] at HAT2
          clear hm
          have HN := Lib.hid (show okTo l (k + 1) = okAt l k from by rw [HOK.out, OK.out]; rfl)
          cases hls : lessV ⟨kk', bb', ee', ss', (xx', yy'), uu', gg'⟩ ⟨kk, bb, ee, ss, (xx, yy), uu, gg⟩
          · rw [hls] at HAT2 LS
            have HB := Lib.hid (HBAD.out HAT2.out)
            clear hls
            go_wp2_with fail
            have HI : (fun W => W = w2.drew) w2.drew := rfl
            refine regk_start [15] (fun W => W = w2.drew) (by kernel_rfl) ?_
            refine regk_free 0 16 (v := ?_) (T' := ?_) (fun _ => HI) (by kernel_rfl) (by kernel_rfl) (by kernel_rfl) (by kernel_rfl) (fun _ _ _ h => h) (fun o ho => ?_) ?_ ?_
            rotate_left 2
            · cases ho
              refine ⟨rfl, rfl, fun W => ?_⟩
              go_simp; (try with_reducible rfl)
            · simp only [List.setIfInBounds_toArray, List.set_cons_succ, List.set_cons_zero]; exact rfl
            refine regk_free 1 17 (v := ?_) (T' := ?_) (fun _ => HI) (by kernel_rfl) (by kernel_rfl) (by kernel_rfl) (by kernel_rfl) (fun _ _ _ h => h) (fun o ho => ?_) ?_ ?_
            rotate_left 2
            · cases ho
              refine ⟨rfl, rfl, fun W => ?_⟩
              go_simp; (try with_reducible rfl)
            · simp only [List.setIfInBounds_toArray, List.set_cons_succ, List.set_cons_zero]; exact rfl
            refine regk_free 2 18 (v := ?_) (T' := ?_) (fun _ => HI) (by kernel_rfl) (by kernel_rfl) (by kernel_rfl) (by kernel_rfl) (fun _ _ _ h => h) (fun o ho => ?_) ?_ ?_
            rotate_left 2
            · cases ho
              refine ⟨rfl, rfl, fun W => ?_⟩
              go_simp; (try with_reducible rfl)
            · simp only [List.setIfInBounds_toArray, List.set_cons_succ, List.set_cons_zero]; exact rfl
            refine regk_free 3 19 (v := ?_) (T' := ?_) (fun _ => HI) (by kernel_rfl) (by kernel_rfl) (by kernel_rfl) (by kernel_rfl) (fun _ _ _ h => h) (fun o ho => ?_) ?_ ?_
            rotate_left 2
            · cases ho
              refine ⟨rfl, rfl, fun W => ?_⟩
              go_simp; (try with_reducible rfl)
            · simp only [List.setIfInBounds_toArray, List.set_cons_succ, List.set_cons_zero]; exact rfl
            refine regk_free 4 20 (v := ?_) (T' := ?_) (fun _ => HI) (by kernel_rfl) (by kernel_rfl) (by kernel_rfl) (by kernel_rfl) (fun _ _ _ h => h) (fun o ho => ?_) ?_ ?_
            rotate_left 2
            · cases ho
              refine ⟨rfl, rfl, fun W => ?_⟩
              go_simp; (try with_reducible rfl)
            · simp only [List.setIfInBounds_toArray, List.set_cons_succ, List.set_cons_zero]; exact rfl
            refine regk_free 5 21 (v := ?_) (T' := ?_) (fun _ => HI) (by kernel_rfl) (by kernel_rfl) (by kernel_rfl) (by kernel_rfl) (fun _ _ _ h => h) (fun o ho => ?_) ?_ ?_
            rotate_left 2
            · cases ho
              refine ⟨rfl, rfl, fun W => ?_⟩
              go_simp; (try with_reducible rfl)
            · simp only [List.setIfInBounds_toArray, List.set_cons_succ, List.set_cons_zero]; exact rfl
            refine regk_free 6 22 (v := ?_) (T' := ?_) (fun _ => HI) (by kernel_rfl) (by kernel_rfl) (by kernel_rfl) (by kernel_rfl) (fun _ _ _ h => h) (fun o ho => ?_) ?_ ?_
            rotate_left 2
            · cases ho
              refine ⟨rfl, rfl, fun W => ?_⟩
              go_simp; (try with_reducible rfl)
            · simp only [List.setIfInBounds_toArray, List.set_cons_succ, List.set_cons_zero]; exact rfl
            refine regk_free 7 23 (v := ?_) (T' := ?_) (fun _ => HI) (by kernel_rfl) (by kernel_rfl) (by kernel_rfl) (by kernel_rfl) (fun _ _ _ h => h) (fun o ho => ?_) ?_ ?_
            rotate_left 2
            · cases ho
              refine ⟨rfl, rfl, fun W => ?_⟩
              go_simp; (try with_reducible rfl)
            · simp only [List.setIfInBounds_toArray, List.set_cons_succ, List.set_cons_zero]; exact rfl
            refine regk_free 8 24 (v := ?_) (T' := ?_) (fun _ => HI) (by kernel_rfl) (by kernel_rfl) (by kernel_rfl) (by kernel_rfl) (fun _ _ _ h => h) (fun o ho => ?_) ?_ ?_
            rotate_left 2
            · cases ho
              refine ⟨rfl, rfl, fun W => ?_⟩
              go_simp; (try with_reducible rfl)
            · simp only [List.setIfInBounds_toArray, List.set_cons_succ, List.set_cons_zero]; exact rfl
            refine regk_free 9 25 (v := ?_) (T' := ?_) (fun _ => HI) (by kernel_rfl) (by kernel_rfl) (by kernel_rfl) (by kernel_rfl) (fun _ _ _ h => h) (fun o ho => ?_) ?_ ?_
            rotate_left 2
            · cases ho
              refine ⟨rfl, rfl, fun W => ?_⟩
              go_simp; (try with_reducible rfl)
            · simp only [List.setIfInBounds_toArray, List.set_cons_succ, List.set_cons_zero]; exact rfl
            refine regk_take 10 26 (v := ?_) (T' := ?_) HI (by kernel_rfl) (by kernel_rfl) (by kernel_rfl) (by kernel_rfl) (by kernel_rfl) (by kernel_rfl) (fun _ _ _ h => h) (fun o ho => ?_) ?_ ?_
            rotate_left 2
            · cases ho
              refine ⟨rfl, rfl, fun W hW => ?_⟩
              have hW := (show W = _ from hW); subst hW; go_simp; (try with_reducible rfl)
            · simp only [List.setIfInBounds_toArray, List.set_cons_succ, List.set_cons_zero]; exact rfl
            refine regk_free 11 27 (v := ?_) (T' := ?_) (fun _ => HI) (by kernel_rfl) (by kernel_rfl) (by kernel_rfl) (by kernel_rfl) (fun _ _ _ h => h) (fun o ho => ?_) ?_ ?_
            rotate_left 2
            · cases ho
              refine ⟨rfl, rfl, fun W => ?_⟩
              go_simp; (try with_reducible rfl)
            · simp only [List.setIfInBounds_toArray, List.set_cons_succ, List.set_cons_zero]; exact rfl
            refine regk_free 12 28 (v := ?_) (T' := ?_) (fun _ => HI) (by kernel_rfl) (by kernel_rfl) (by kernel_rfl) (by kernel_rfl) (fun _ _ _ h => h) (fun o ho => ?_) ?_ ?_
            rotate_left 2
            · cases ho
              refine ⟨rfl, rfl, fun W => ?_⟩
              go_simp; (try with_reducible rfl)
            · simp only [List.setIfInBounds_toArray, List.set_cons_succ, List.set_cons_zero]; exact rfl
            refine regk_free 13 29 (v := ?_) (T' := ?_) (fun _ => HI) (by kernel_rfl) (by kernel_rfl) (by kernel_rfl) (by kernel_rfl) (fun _ _ _ h => h) (fun o ho => ?_) ?_ ?_
            rotate_left 2
            · cases ho
              refine ⟨rfl, rfl, fun W => ?_⟩
              go_simp; (try with_reducible rfl)
            · simp only [List.setIfInBounds_toArray, List.set_cons_succ, List.set_cons_zero]; exact rfl
            refine regk_take 14 30 (v := ?_) (T' := ?_) HI (by kernel_rfl) (by kernel_rfl) (by kernel_rfl) (by kernel_rfl) (by kernel_rfl) (by kernel_rfl) (fun _ _ _ h => h) (fun o ho => ?_) ?_ ?_
            rotate_left 2
            · cases ho
              refine ⟨rfl, rfl, fun W hW => ?_⟩
              have hW := (show W = _ from hW); subst hW; go_simp; (try with_reducible rfl)
            · simp only [List.setIfInBounds_toArray, List.set_cons_succ, List.set_cons_zero]; exact rfl
            refine regk_call (I' := (fun W => W = w2.drew)) (fun _ h => h) 15 31 (by kernel_rfl) 27 #[.agg #[.string kk', .int .i64 bb', .int .i64 ee', .int .i64 ss', .int .i64 xx', .int .i64 yy', .string uu', .bool gg'], .agg #[.string kk, .int .i64 bb, .int .i64 ee, .int .i64 ss, .int .i64 xx, .int .i64 yy, .string uu, .bool gg]] (fun o ho => by cases ho; exact ⟨rfl, rfl, fun W => by go_simp⟩) ?_
            refine (LS.out _).mono ?_
            rintro e w3 ⟨rfl, hb3⟩
            have G3 := Lib.hid (G2.out.drew.trans (hb3.mono G2.out.size))
            clear hb3
            refine ⟨_, _, rfl, noB_no (by kernel_rfl), (by simp only [List.setIfInBounds_toArray, List.set_cons_succ, List.set_cons_zero]; exact rfl), ?_⟩
            refine regk_free 16 32 (v := ?_) (T' := ?_) (noB_no (by kernel_rfl)) (by kernel_rfl) (by kernel_rfl) (by kernel_rfl) (by kernel_rfl) (fun _ _ _ h => h) (fun o ho => ?_) ?_ ?_
            rotate_left 2
            · cases ho
              refine ⟨rfl, rfl, fun W => ?_⟩
              go_simp; (try with_reducible rfl)
            · simp only [List.setIfInBounds_toArray, List.set_cons_succ, List.set_cons_zero]; exact rfl
            refine regk_free 17 33 (v := ?_) (T' := ?_) (noB_no (by kernel_rfl)) (by kernel_rfl) (by kernel_rfl) (by kernel_rfl) (by kernel_rfl) (fun _ _ _ h => h) (fun o ho => ?_) ?_ ?_
            rotate_left 2
            · cases ho
              refine ⟨rfl, rfl, fun W => ?_⟩
              go_simp; (try with_reducible rfl)
            · simp only [List.setIfInBounds_toArray, List.set_cons_succ, List.set_cons_zero]; exact rfl
            refine regk_free 18 34 (v := ?_) (T' := ?_) (noB_no (by kernel_rfl)) (by kernel_rfl) (by kernel_rfl) (by kernel_rfl) (by kernel_rfl) (fun _ _ _ h => h) (fun o ho => ?_) ?_ ?_
            rotate_left 2
            · cases ho
              refine ⟨rfl, rfl, fun W => ?_⟩
              go_simp; (try with_reducible rfl)
            · simp only [List.setIfInBounds_toArray, List.set_cons_succ, List.set_cons_zero]; exact rfl
            refine regk_done (by kernel_rfl) ?_
            go_wp2_with fail
            go_ret
            exact ⟨ret_bool (by rw [HR.out, HB.out]), G3.out⟩
          · rw [hls] at HAT2 LS
            rw [HAT2.out] at HN
            clear hls
            go_wp2_with fail
            have HI : (fun W => W = w2.drew) w2.drew := rfl
            refine regk_start [15] (fun W => W = w2.drew) (by kernel_rfl) ?_
            refine regk_free 0 16 (v := ?_) (T' := ?_) (fun _ => HI) (by kernel_rfl) (by kernel_rfl) (by kernel_rfl) (by kernel_rfl) (fun _ _ _ h => h) (fun o ho => ?_) ?_ ?_
            rotate_left 2
            · cases ho
              refine ⟨rfl, rfl, fun W => ?_⟩
              go_simp; (try with_reducible rfl)
            · simp only [List.setIfInBounds_toArray, List.set_cons_succ, List.set_cons_zero]; exact rfl
            refine regk_free 1 17 (v := ?_) (T' := ?_) (fun _ => HI) (by kernel_rfl) (by kernel_rfl) (by kernel_rfl) (by kernel_rfl) (fun _ _ _ h => h) (fun o ho => ?_) ?_ ?_
            rotate_left 2
            · cases ho
              refine ⟨rfl, rfl, fun W => ?_⟩
              go_simp; (try with_reducible rfl)
            · simp only [List.setIfInBounds_toArray, List.set_cons_succ, List.set_cons_zero]; exact rfl
            refine regk_free 2 18 (v := ?_) (T' := ?_) (fun _ => HI) (by kernel_rfl) (by kernel_rfl) (by kernel_rfl) (by kernel_rfl) (fun _ _ _ h => h) (fun o ho => ?_) ?_ ?_
            rotate_left 2
            · cases ho
              refine ⟨rfl, rfl, fun W => ?_⟩
              go_simp; (try with_reducible rfl)
            · simp only [List.setIfInBounds_toArray, List.set_cons_succ, List.set_cons_zero]; exact rfl
            refine regk_free 3 19 (v := ?_) (T' := ?_) (fun _ => HI) (by kernel_rfl) (by kernel_rfl) (by kernel_rfl) (by kernel_rfl) (fun _ _ _ h => h) (fun o ho => ?_) ?_ ?_
            rotate_left 2
            · cases ho
              refine ⟨rfl, rfl, fun W => ?_⟩
              go_simp; (try with_reducible rfl)
            · simp only [List.setIfInBounds_toArray, List.set_cons_succ, List.set_cons_zero]; exact rfl
            refine regk_free 4 20 (v := ?_) (T' := ?_) (fun _ => HI) (by kernel_rfl) (by kernel_rfl) (by kernel_rfl) (by kernel_rfl) (fun _ _ _ h => h) (fun o ho => ?_) ?_ ?_
            rotate_left 2
            · cases ho
              refine ⟨rfl, rfl, fun W => ?_⟩
              go_simp; (try with_reducible rfl)
            · simp only [List.setIfInBounds_toArray, List.set_cons_succ, List.set_cons_zero]; exact rfl
            refine regk_free 5 21 (v := ?_) (T' := ?_) (fun _ => HI) (by kernel_rfl) (by kernel_rfl) (by kernel_rfl) (by kernel_rfl) (fun _ _ _ h => h) (fun o ho => ?_) ?_ ?_
            rotate_left 2
            · cases ho
              refine ⟨rfl, rfl, fun W => ?_⟩
              go_simp; (try with_reducible rfl)
            · simp only [List.setIfInBounds_toArray, List.set_cons_succ, List.set_cons_zero]; exact rfl
            refine regk_free 6 22 (v := ?_) (T' := ?_) (fun _ => HI) (by kernel_rfl) (by kernel_rfl) (by kernel_rfl) (by kernel_rfl) (fun _ _ _ h => h) (fun o ho => ?_) ?_ ?_
            rotate_left 2
            · cases ho
              refine ⟨rfl, rfl, fun W => ?_⟩
              go_simp; (try with_reducible rfl)
            · simp only [List.setIfInBounds_toArray, List.set_cons_succ, List.set_cons_zero]; exact rfl
            refine regk_free 7 23 (v := ?_) (T' := ?_) (fun _ => HI) (by kernel_rfl) (by kernel_rfl) (by kernel_rfl) (by kernel_rfl) (fun _ _ _ h => h) (fun o ho => ?_) ?_ ?_
            rotate_left 2
            · cases ho
              refine ⟨rfl, rfl, fun W => ?_⟩
              go_simp; (try with_reducible rfl)
            · simp only [List.setIfInBounds_toArray, List.set_cons_succ, List.set_cons_zero]; exact rfl
            refine regk_free 8 24 (v := ?_) (T' := ?_) (fun _ => HI) (by kernel_rfl) (by kernel_rfl) (by kernel_rfl) (by kernel_rfl) (fun _ _ _ h => h) (fun o ho => ?_) ?_ ?_
            rotate_left 2
            · cases ho
              refine ⟨rfl, rfl, fun W => ?_⟩
              go_simp; (try with_reducible rfl)
            · simp only [List.setIfInBounds_toArray, List.set_cons_succ, List.set_cons_zero]; exact rfl
            refine regk_free 9 25 (v := ?_) (T' := ?_) (fun _ => HI) (by kernel_rfl) (by kernel_rfl) (by kernel_rfl) (by kernel_rfl) (fun _ _ _ h => h) (fun o ho => ?_) ?_ ?_
            rotate_left 2
            · cases ho
              refine ⟨rfl, rfl, fun W => ?_⟩
              go_simp; (try with_reducible rfl)
            · simp only [List.setIfInBounds_toArray, List.set_cons_succ, List.set_cons_zero]; exact rfl
            refine regk_take 10 26 (v := ?_) (T' := ?_) HI (by kernel_rfl) (by kernel_rfl) (by kernel_rfl) (by kernel_rfl) (by kernel_rfl) (by kernel_rfl) (fun _ _ _ h => h) (fun o ho => ?_) ?_ ?_
            rotate_left 2
            · cases ho
              refine ⟨rfl, rfl, fun W hW => ?_⟩
              have hW := (show W = _ from hW); subst hW; go_simp; (try with_reducible rfl)
            · simp only [List.setIfInBounds_toArray, List.set_cons_succ, List.set_cons_zero]; exact rfl
            refine regk_free 11 27 (v := ?_) (T' := ?_) (fun _ => HI) (by kernel_rfl) (by kernel_rfl) (by kernel_rfl) (by kernel_rfl) (fun _ _ _ h => h) (fun o ho => ?_) ?_ ?_
            rotate_left 2
            · cases ho
              refine ⟨rfl, rfl, fun W => ?_⟩
              go_simp; (try with_reducible rfl)
            · simp only [List.setIfInBounds_toArray, List.set_cons_succ, List.set_cons_zero]; exact rfl
            refine regk_free 12 28 (v := ?_) (T' := ?_) (fun _ => HI) (by kernel_rfl) (by kernel_rfl) (by kernel_rfl) (by kernel_rfl) (fun _ _ _ h => h) (fun o ho => ?_) ?_ ?_
            rotate_left 2
            · cases ho
              refine ⟨rfl, rfl, fun W => ?_⟩
              go_simp; (try with_reducible rfl)
            · simp only [List.setIfInBounds_toArray, List.set_cons_succ, List.set_cons_zero]; exact rfl
            refine regk_free 13 29 (v := ?_) (T' := ?_) (fun _ => HI) (by kernel_rfl) (by kernel_rfl) (by kernel_rfl) (by kernel_rfl) (fun _ _ _ h => h) (fun o ho => ?_) ?_ ?_
            rotate_left 2
            · cases ho
              refine ⟨rfl, rfl, fun W => ?_⟩
              go_simp; (try with_reducible rfl)
            · simp only [List.setIfInBounds_toArray, List.set_cons_succ, List.set_cons_zero]; exact rfl
            refine regk_take 14 30 (v := ?_) (T' := ?_) HI (by kernel_rfl) (by kernel_rfl) (by kernel_rfl) (by kernel_rfl) (by kernel_rfl) (by kernel_rfl) (fun _ _ _ h => h) (fun o ho => ?_) ?_ ?_
            rotate_left 2
            · cases ho
              refine ⟨rfl, rfl, fun W hW => ?_⟩
              have hW := (show W = _ from hW); subst hW; go_simp; (try with_reducible rfl)
            · simp only [List.setIfInBounds_toArray, List.set_cons_succ, List.set_cons_zero]; exact rfl
            refine regk_call (I' := (fun W => W = w2.drew)) (fun _ h => h) 15 31 (by kernel_rfl) 27 #[.agg #[.string kk', .int .i64 bb', .int .i64 ee', .int .i64 ss', .int .i64 xx', .int .i64 yy', .string uu', .bool gg'], .agg #[.string kk, .int .i64 bb, .int .i64 ee, .int .i64 ss, .int .i64 xx, .int .i64 yy, .string uu, .bool gg]] (fun o ho => by cases ho; exact ⟨rfl, rfl, fun W => by go_simp⟩) ?_
            refine (LS.out _).mono ?_
            rintro e w3 ⟨rfl, hb3⟩
            have G3 := Lib.hid (G2.out.drew.trans (hb3.mono G2.out.size))
            clear hb3
            refine ⟨_, _, rfl, noB_no (by kernel_rfl), (by simp only [List.setIfInBounds_toArray, List.set_cons_succ, List.set_cons_zero]; exact rfl), ?_⟩
            refine regk_free 16 32 (v := ?_) (T' := ?_) (noB_no (by kernel_rfl)) (by kernel_rfl) (by kernel_rfl) (by kernel_rfl) (by kernel_rfl) (fun _ _ _ h => h) (fun o ho => ?_) ?_ ?_
            rotate_left 2
            · cases ho
              refine ⟨rfl, rfl, fun W => ?_⟩
              go_simp; (try with_reducible rfl)
            · simp only [List.setIfInBounds_toArray, List.set_cons_succ, List.set_cons_zero]; exact rfl
            refine regk_free 17 33 (v := ?_) (T' := ?_) (noB_no (by kernel_rfl)) (by kernel_rfl) (by kernel_rfl) (by kernel_rfl) (by kernel_rfl) (fun _ _ _ h => h) (fun o ho => ?_) ?_ ?_
            rotate_left 2
            · cases ho
              refine ⟨rfl, rfl, fun W => ?_⟩
              go_simp; (try with_reducible rfl)
            · simp only [List.setIfInBounds_toArray, List.set_cons_succ, List.set_cons_zero]; exact rfl
            refine regk_free 18 34 (v := ?_) (T' := ?_) (noB_no (by kernel_rfl)) (by kernel_rfl) (by kernel_rfl) (by kernel_rfl) (by kernel_rfl) (fun _ _ _ h => h) (fun o ho => ?_) ?_ ?_
            rotate_left 2
            · cases ho
              refine ⟨rfl, rfl, fun W => ?_⟩
              go_simp; (try with_reducible rfl)
            · simp only [List.setIfInBounds_toArray, List.set_cons_succ, List.set_cons_zero]; exact rfl
            refine regk_done (by kernel_rfl) ?_
            go_wp2_with fail
            go_roundw
            case rel => exact ⟨k + 1, by go_num, by omega, HN.out, G3.out⟩
            case measure => simp [intOf]; omega
    · have zl : decide ((k : Int) < (l.length : Int)) = false := by rw [decide_eq_false_iff_not]; omega
      have hke : k = l.length := by omega
      subst hke
      go_wp2_with fail
      go_ret
      exact ⟨ret_bool (by rw [HR.out, OK.out]), G.out⟩
end Go.Proofs.Ytefjdmlmmoeoaaa
