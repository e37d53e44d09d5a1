/- PlaneRow (P5.3): for every rectangle of less than 2^20 epochs and times and every list of others (the first 5): how much is left does not hang on the row in which they are taken away. No condition. -/
import Derived.Test.YtjfneppjdgfecaaEq
import Derived.Test.YtjfneppjdgfecaaBlaw
namespace Go.Proofs.Ytjfneppjdgfecaa.L05
open Go.RowKit Go.ChangeShapes Go.WideShapes Go.ChangeAt
set_option linter.unusedVariables false
attribute [local go_sem] sto_cx

/-- Two values that own no block together. -/
def Apart (x y : Value) : Prop := ∀ b, x.ownBlock = some b → y.ownBlock ≠ some b
theorem Apart.symm {x y : Value} (h : Apart x y) : Apart y x := fun b hy hx => h b hx hy
theorem Apart.ne {x y : Value} (h : Apart x y) : y.ownBlock = none ∨ y.ownBlock ≠ x.ownBlock := by
  cases hx : x.ownBlock with
  | none => cases y.ownBlock <;> simp
  | some b => exact .inr (h b hx)
theorem Apart.step {w w' : World} {x x' y : Value} (h : Apart x y) (hg : Grew w w' x x') (hy : ∀ b, y.ownBlock = some b → b < w.heap.size) : Apart x' y := by
  intro b hb hyb
  rcases hg.own with e | ⟨g, e, hg2⟩
  · exact h b (e ▸ hb) hyb
  · rw [e] at hb
    injection hb with hb
    have := hy b hyb
    omega
theorem cell_keep {B : Nat} {w W : World} {p : Addr} {u : Value} (hf : w.cell? p = some u) (hb : Below B w W) (h : p.block < B) : W.cell? p = some u := (hb.cell h).trans hf
theorem row_all (l : List Re) (e t : Int) : ((l.map orZ).all fun b => !rHas b e t) = ((l.reverse.map orZ).all fun b => !rHas b e t) := by
  rw [all_orZ, all_orZ, List.all_reverse]
theorem rev_at (l : List Re) (k j : Nat) (h : l.length = k + 1 + j) : l.reverse[k]'(by rw [List.length_reverse]; omega) = l[j]'(by omega) := by
  rw [List.getElem_reverse]
  congr 1
  omega

set_option maxHeartbeats 8000000 in
theorem walk (r : Re) (v : Value) (l : List Re) (U : World) (h : RdRe U U.heap.size v l) : Calls Try.prog 7 #[reV r, v] U fun e W' => e = .returned (.bool true) ∧ Below U.heap.size U W' := by
  have LV := Lib.hid l_lives
  have OA := Lib.hid (fun w => l_of r w)
  have hox := orZ_ok r
  have CO := Lib.hid (fun v l w h hl hok => p_cover hox v l w h hl hok)
  have AR := Lib.hid (fun v (l : List Re) (hl : l.length ≤ 6) (hi : inN r) w h => l_area v (pCover (orZ r) l) w h (pCover_ok hox l) (pCover_inN (orZ_inN hi) l) (pCover_len (orZ r) hl))
  have RW := Lib.hid (fun (l : List Re) (hi : inN r) => pCover_row (orZ_inN hi) (row_all l))
  have OQ := Lib.hid l_of
  have hin := Lib.hid (show r.1.2 ≤ 1048576 → r.2.2 ≤ 1048576 → inN r from fun h k => ⟨h, k⟩)
  have hre : ∀ r : Re, reC r = .agg #[.complex .f64 (fw r.1.1) (fw r.2.1), .complex .f64 (fw r.1.2) (fw r.2.2)] := fun _ => rfl
  have hrv : ∀ r : Re, reV r = .agg #[.int .i64 r.1.1, .int .i64 r.1.2, .int .i64 r.2.1, .int .i64 r.2.2] := fun _ => rfl
  simp only [hre, hrv] at OA CO OQ ⊢
  clear hre hrv hox
  generalize hcov : pCover (orZ r) = cov at *
  clear hcov
  generalize rMay r = r_may at *
  generalize fw (orZ r).1.1 = g1 at *
  generalize fw (orZ r).2.1 = g2 at *
  generalize fw (orZ r).1.2 = g3 at *
  generalize fw (orZ r).2.2 = g4 at *
  generalize inN r = inr at *
  obtain ⟨⟨a1, a2⟩, ⟨a3, a4⟩⟩ := r
  simp only at OA hin ⊢
  have B0 := Lib.hid (Box.new U #[.int .i64 a1, .int .i64 a2, .int .i64 a3, .int .i64 a4] 25 _ rfl)
  have G := Lib.hid (alloc_below U (.cells #[.int .i64 a1, .int .i64 a2, .int .i64 a3, .int .i64 a4] 25))
  have H := Lib.hid (h.on G.out)
  obtain ⟨A, c, rfl, hlc, hc, h3⟩ := h
  go_enter Try.func7, Try.ntmps7
  have c00 := B0.out.cell 0 (.int .i64 a1) rfl
  have c01 := B0.out.cell 1 (.int .i64 a2) rfl
  have c02 := B0.out.cell 2 (.int .i64 a3) rfl
  have c03 := B0.out.cell 3 (.int .i64 a4) rfl
  by_cases h6 : 5 < l.length
  case' pos =>
    obtain ⟨b6, o6, rfl, -, -⟩ := h3 (by omega)
    have HL := Lib.hid (H.out.head 5 (by omega))
    have hn : 5 = (l.take 5).length := by rw [List.length_take]; omega
    rw [← hn] at HL
    have HN := Lib.hid hn
    clear hn h3 H
    generalize hl6 : l.take 5 = l' at *
    have hl6 : l'.length ≤ 5 := by have := HN.out; omega
    have MJ := Lib.hid (show ∀ k j, l'.length = k + 1 + j → 4 - k = j from fun k j h => by have := HN.out; omega)
  case' neg =>
    obtain ⟨l', hl'⟩ : ∃ l', l' = l := ⟨_, rfl⟩
    have HL := Lib.hid (show RdRe _ _ (.slice A l.length c) l' from by rw [hl']; exact H.out)
    have HN := Lib.hid (show l.length = l'.length from by rw [hl'])
    have hl6 : l'.length ≤ 5 := by rw [hl']; omega
    have MJ := Lib.hid (show ∀ k j, l'.length = k + 1 + j → l.length - 1 - k = j from fun k j h => by have := HN.out; omega)
    clear hl' h3 H
  all_goals
    by_cases h1 : 1048576 < a2
    ·
      go_wp2_with fail
      refine (LV.out _).mono ?_
      rintro e w9 ⟨rfl, hb9⟩
      have G := Lib.hid (G.out.trans (hb9.mono G.out.size))
      go_wp2_with fail
      go_ret
      exact ⟨rfl, G.out⟩
    by_cases h2 : 1048576 < a4
    ·
      go_wp2_with fail
      refine (LV.out _).mono ?_
      rintro e w9 ⟨rfl, hb9⟩
      have G := Lib.hid (G.out.trans (hb9.mono G.out.size))
      go_wp2_with fail
      go_ret
      exact ⟨rfl, G.out⟩
    have hinr := hin.out (by omega) (by omega)
    go_wp2_with fail
    clear c00 c01 c02 c03
    generalize U.alloc (.cells #[.int .i64 a1, .int .i64 a2, .int .i64 a3, .int .i64 a4] 25) = W0 at *
    refine (OA.out _).mono ?_
    rintro e w1 ⟨rfl, hb1⟩
    have BX := Lib.hid (Box.new w1 #[.complex .f64 g1 g2, .complex .f64 g3 g4] 28 _ rfl)
    have hbx := hb1.alloc hb1.size (.cells #[.complex .f64 g1 g2, .complex .f64 g3 g4] 28)
    have HL := Lib.hid (HL.out.on hbx)
    have G := Lib.hid (G.out.trans (hbx.mono G.out.size))
    clear hb1 hbx B0
    go_wp2_with fail
    generalize w1.alloc (.cells #[.complex .f64 g1 g2, .complex .f64 g3 g4] 28) = w2 at *
    generalize w1.heap.size = nx at *
    have lx := BX.out.lt
    go_loopw [7, 8, 9] (fun x y i wr => ∃ k : Nat, i = .int .i64 k ∧ k ≤ l'.length ∧ OwnRx wr w2.heap.size x ((l'.take k).map orZ) ∧ OwnRx wr w2.heap.size y ((l'.reverse.take k).map orZ) ∧ Apart x y ∧ Below w2.heap.size w2 wr) (fun _ _ i _ => l'.length - (intOf i).toNat)
    case atStart => exact ⟨0, rfl, Nat.zero_le _, OwnX.nil _ _, OwnX.nil _ _, (fun b hb => by cases hb), Below.refl _ _⟩
    case round =>
      obtain ⟨k, rfl, hk, ho, ho2, hap, hb⟩ := hrel
      have O := Lib.hid ho
      have O2 := Lib.hid ho2
      have AP := Lib.hid hap
      have GW := Lib.hid hb
      have BXw := Lib.hid (BX.out.on hb lx)
      clear ho ho2 hap hb
      by_cases hlt : k < l'.length
      · obtain ⟨j, hj⟩ : ∃ j, l'.length = k + 1 + j := ⟨l'.length - 1 - k, by omega⟩
        obtain ⟨ba, oa, e9, hba, d0, d1, d2, d3⟩ := RdRe.here (HL.out.below GW.out) k hlt
        cases e9
        have HJ := Lib.hid (RdRe.here HL.out j (by omega))
        have FS := Lib.hid (map_snoc orZ l' k hlt)
        have FR := Lib.hid (map_snoc orZ l'.reverse k (by rw [List.length_reverse]; exact hlt))
        rw [rev_at l' k j hj] at FR
        have hol : ((l'.take k).map orZ).length + 1 ≤ 1000000000 := by
          have := List.length_take_le k l'
          rw [List.length_map]; omega
        have hol2 : ((l'.reverse.take k).map orZ).length + 1 ≤ 1000000000 := by
          have := List.length_take_le k l'.reverse
          rw [List.length_map]; omega
        have OK := Lib.hid (fun w => OQ.out l'[k] w)
        have OJ := Lib.hid (fun w => OQ.out (l'[j]'(by omega)) w)
        have hle := Lib.hid (show k + 1 ≤ l'.length from hlt)
        rw [← HN.out] at hlt
        generalize (l'.take k).map orZ = acc at *
        generalize (l'.reverse.take k).map orZ = acc2 at *
        generalize l'[k] = q at *
        generalize l'[j]'(by omega) = p at *
        generalize rMay q = q_may at *
        generalize rMay p = p_may at *
        generalize hoq : orZ q = oq at *
        generalize hop : orZ p = op at *
        clear hoq hop
        obtain ⟨⟨q1, q2⟩, ⟨q3, q4⟩⟩ := q
        obtain ⟨⟨s1, s2⟩, ⟨s3, s4⟩⟩ := p
        simp only at OK OJ d0 d1 d2 d3 HJ
        go_wp2_with fail
        refine (OK.out _).mono ?_
        rintro e w3 ⟨rfl, hb3⟩
        have BQ := Lib.hid (Box.new w3 #[.complex .f64 (fw oq.1.1) (fw oq.2.1), .complex .f64 (fw oq.1.2) (fw oq.2.2)] 28 _ rfl)
        have hne := (O.out.on hb3).lt
        have NE := Lib.hid (show some w3.heap.size ≠ u7.ownBlock from fun e => by have := (hne _ e.symm).2; omega)
        have hbx := hb3.alloc hb3.size (.cells #[.complex .f64 (fw oq.1.1) (fw oq.2.1), .complex .f64 (fw oq.1.2) (fw oq.2.2)] 28)
        have O := Lib.hid (O.out.on hbx)
        have O2 := Lib.hid (O2.out.on hbx)
        have GW := Lib.hid (GW.out.trans (hbx.mono GW.out.size))
        clear hb3 hbx hne d0 d1 d2 d3
        have d0 := BQ.out.cell 0 (.complex .f64 (fw oq.1.1) (fw oq.2.1)) rfl
        have d1 := BQ.out.cell 1 (.complex .f64 (fw oq.1.2) (fw oq.2.2)) rfl
        generalize hw3 : w3.alloc (.cells #[.complex .f64 (fw oq.1.1) (fw oq.2.1), .complex .f64 (fw oq.1.2) (fw oq.2.2)] 28) = wx at *
        obtain ⟨bb, ob, e9, hbb, f0, f1, f2, f3⟩ := HJ.out
        cases e9
        rw [← MJ.out k j hj] at f0 f1 f2 f3
        have FJ0 := Lib.hid (fun W (hb : Below w2.heap.size w2 W) => cell_keep f0 hb hbb)
        have FJ1 := Lib.hid (fun W (hb : Below w2.heap.size w2 W) => cell_keep f1 hb hbb)
        have FJ2 := Lib.hid (fun W (hb : Below w2.heap.size w2 W) => cell_keep f2 hb hbb)
        have FJ3 := Lib.hid (fun W (hb : Below w2.heap.size w2 W) => cell_keep f3 hb hbb)
        go_wp2_with (at_builtin; refine wpl_appX rfl (.tmp 49) (.tmp 51) rfl Try.underlying40 rx_info rfl w2.heap.size _ acc [oq] _ _ _ rfl rfl rfl rfl O.out GW.out.size hol (by decide) ?_; intro v7 w7 ho7 hg7 hb7; have i0 := FJ0.out _ (GW.out.trans hb7); have i1 := FJ1.out _ (GW.out.trans hb7); have i2 := FJ2.out _ (GW.out.trans hb7); have i3 := FJ3.out _ (GW.out.trans hb7))
        have OZ := Lib.hid (show OwnRx w7 w2.heap.size v7 ((l'.take (k + 1)).map orZ) from by rw [FS.out]; exact ho7)
        have O2Z := Lib.hid (O2.out.keep hg7.grown AP.out.ne)
        have AP7 := Lib.hid (AP.out.step hg7 (fun b hb => (O2.out.lt b hb).2))
        have GZ := Lib.hid (GW.out.trans hb7)
        clear ho7 hg7 hb7 d0 d1 hw3 i0 i1 i2 i3 f0 f1 f2 f3 FJ0 FJ1 FJ2 FJ3
        refine (OJ.out _).mono ?_
        rintro e w8 ⟨rfl, hb8⟩
        have BP := Lib.hid (Box.new w8 #[.complex .f64 (fw op.1.1) (fw op.2.1), .complex .f64 (fw op.1.2) (fw op.2.2)] 28 _ rfl)
        have hbx := hb8.alloc hb8.size (.cells #[.complex .f64 (fw op.1.1) (fw op.2.1), .complex .f64 (fw op.1.2) (fw op.2.2)] 28)
        have OZ := Lib.hid (OZ.out.on hbx)
        have O2Z := Lib.hid (O2Z.out.on hbx)
        have GZ := Lib.hid (GZ.out.trans (hbx.mono GZ.out.size))
        clear hb8 hbx
        have d0 := BP.out.cell 0 (.complex .f64 (fw op.1.1) (fw op.2.1)) rfl
        have d1 := BP.out.cell 1 (.complex .f64 (fw op.1.2) (fw op.2.2)) rfl
        generalize hw8 : w8.alloc (.cells #[.complex .f64 (fw op.1.1) (fw op.2.1), .complex .f64 (fw op.1.2) (fw op.2.2)] 28) = wy at *
        go_wp2_with (at_builtin; refine wpl_appX rfl (.tmp 65) (.tmp 67) rfl Try.underlying40 rx_info rfl w2.heap.size _ acc2 [op] _ _ _ rfl rfl rfl rfl O2Z.out GZ.out.size hol2 (by decide) ?_; intro v9 w9 ho9 hg9 hb9)
        have O9 := Lib.hid (show OwnRx w9 w2.heap.size v9 ((l'.reverse.take (k + 1)).map orZ) from by rw [FR.out]; exact ho9)
        have AP9 := Lib.hid ((AP7.out.symm.step hg9 (fun b hb => (OZ.out.lt b hb).2)).symm)
        have OZ := Lib.hid (OZ.out.keep hg9.grown AP7.out.symm.ne)
        have GZ := Lib.hid (GZ.out.trans hb9)
        clear ho9 hg9 hb9 d0 d1 hw8
        go_roundw
        case rel => exact ⟨k + 1, by go_num, hle.out, OZ.out, O9.out, AP9.out, GZ.out⟩
        case measure => have := hle.out; simp [intOf]; omega
      · have hke : l'.take k = l' := List.take_of_length_le (by omega)
        have hkr : l'.reverse.take k = l'.reverse := List.take_of_length_le (by rw [List.length_reverse]; omega)
        rw [← HN.out] at hlt
        rw [hke] at O
        rw [hkr] at O2
        have CC := Lib.hid (fun w hh => CO.out u7 (l'.map orZ) w hh (by rw [List.length_map]; omega) (map_ok l'))
        have CD := Lib.hid (fun w hh => CO.out u8 (l'.reverse.map orZ) w hh (by rw [List.length_map, List.length_reverse]; omega) (map_ok l'.reverse))
        have A1 := Lib.hid (fun v w hh => AR.out v (l'.map orZ) (by rw [List.length_map]; omega) hinr w hh)
        have A2 := Lib.hid (fun v w hh => AR.out v (l'.reverse.map orZ) (by rw [List.length_map, List.length_reverse]; omega) hinr w hh)
        rw [← RW.out l' hinr] at A2
        clear hke hkr CO AR RW AP
        generalize areas (cov (l'.map orZ)) = ar at *
        generalize cov (l'.map orZ) = cv at *
        generalize cov (l'.reverse.map orZ) = cr at *
        have G := Lib.hid (G.out.trans (GW.out.mono G.out.size))
        go_wp2_with fail
        have lw := BXw.out.lt
        have HI : (fun W => Below wr.heap.size wr W) wr.drew := (Below.refl _ _).drewN 1
-- REGION A
        refine regk_start [] (fun W => Below wr.heap.size wr W) (by kernel_rfl) ?_
        refine regk_take 0 69 (v := ?_) (T' := ?_) HI (by kernel_rfl) (by kernel_rfl) (by kernel_rfl) (by kernel_rfl) (by kernel_rfl) (by kernel_rfl) (fun _ _ _ h => h) (fun o ho => ?_) ?_ ?_
        rotate_left 2
        · cases ho
          refine ⟨rfl, rfl, fun W hW => ?_⟩
          have hV0 := (Below.cell (p := ⟨nx, 0, none⟩) (show Below wr.heap.size wr W from hW) lw).trans (BXw.out.cell 0 (.complex .f64 g1 g2) rfl)
          have hV1 := (Below.cell (p := ⟨nx, 1, none⟩) (show Below wr.heap.size wr W from hW) lw).trans (BXw.out.cell 1 (.complex .f64 g3 g4) rfl)
          go_simp; (try with_reducible rfl)
        · simp only [List.setIfInBounds_toArray, List.set_cons_succ, List.set_cons_zero]; exact rfl
        refine regk_free 1 70 (v := ?_) (T' := ?_) (fun _ => HI) (by kernel_rfl) (by kernel_rfl) (by kernel_rfl) (by kernel_rfl) (fun _ _ _ h => h) (fun o ho => ?_) ?_ ?_
        rotate_left 2
        · cases ho
          refine ⟨rfl, rfl, fun W => ?_⟩
          go_simp; (try with_reducible rfl)
        · simp only [List.setIfInBounds_toArray, List.set_cons_succ, List.set_cons_zero]; exact rfl
        refine regk_take 4 73 (v := ?_) (T' := ?_) HI (by kernel_rfl) (by kernel_rfl) (by kernel_rfl) (by kernel_rfl) (by kernel_rfl) (by kernel_rfl) (fun _ _ _ h => h) (fun o ho => ?_) ?_ ?_
        rotate_left 2
        · cases ho
          refine ⟨rfl, rfl, fun W hW => ?_⟩
          have hV0 := (Below.cell (p := ⟨nx, 0, none⟩) (show Below wr.heap.size wr W from hW) lw).trans (BXw.out.cell 0 (.complex .f64 g1 g2) rfl)
          have hV1 := (Below.cell (p := ⟨nx, 1, none⟩) (show Below wr.heap.size wr W from hW) lw).trans (BXw.out.cell 1 (.complex .f64 g3 g4) rfl)
          go_simp; (try with_reducible rfl)
        · simp only [List.setIfInBounds_toArray, List.set_cons_succ, List.set_cons_zero]; exact rfl
        refine regk_free 5 74 (v := ?_) (T' := ?_) (fun _ => HI) (by kernel_rfl) (by kernel_rfl) (by kernel_rfl) (by kernel_rfl) (fun _ _ _ h => h) (fun o ho => ?_) ?_ ?_
        rotate_left 2
        · cases ho
          refine ⟨rfl, rfl, fun W => ?_⟩
          go_simp; (try with_reducible rfl)
        · simp only [List.setIfInBounds_toArray, List.set_cons_succ, List.set_cons_zero]; exact rfl
        refine regk_call (I' := (fun W => Below wr.heap.size wr W)) (fun _ h => h) 2 71 (by kernel_rfl) 17 #[.agg #[.complex .f64 g1 g2, .complex .f64 g3 g4], u7] (fun o ho => by cases ho; exact ⟨rfl, rfl, fun W => by go_simp⟩) ?_
        refine (CC.out _ (O.out.rd.on (show Below wr.heap.size wr _ from HI))).mono ?_
        rintro e y11 ⟨v11, rfl, ho11, hb11⟩
        have HI : (fun W => Below wr.heap.size wr W) y11 := (show Below wr.heap.size wr _ from HI).trans (hb11.mono (show Below wr.heap.size wr _ from HI).size)
        refine ⟨_, _, rfl, fun _ => HI, (by simp only [List.setIfInBounds_toArray, List.set_cons_succ, List.set_cons_zero]; exact rfl), ?_⟩
        refine regk_call (I' := (fun W => Below wr.heap.size wr W)) (fun _ h => h) 3 72 (by kernel_rfl) 20 #[v11] (fun o ho => by cases ho; exact ⟨rfl, rfl, fun W => by go_simp⟩) ?_
        refine (A1.out v11 _ ho11.rd).mono ?_
        rintro e y12 ⟨rfl, hb12⟩
        have HI : (fun W => Below wr.heap.size wr W) y12 := (show Below wr.heap.size wr _ from HI).trans (hb12.mono (show Below wr.heap.size wr _ from HI).size)
        refine ⟨_, _, rfl, fun _ => HI, (by simp only [List.setIfInBounds_toArray, List.set_cons_succ, List.set_cons_zero]; exact rfl), ?_⟩
        refine regk_call (I' := (fun W => Below wr.heap.size wr W)) (fun _ h => h) 6 75 (by kernel_rfl) 17 #[.agg #[.complex .f64 g1 g2, .complex .f64 g3 g4], u8] (fun o ho => by cases ho; exact ⟨rfl, rfl, fun W => by go_simp⟩) ?_
        refine (CD.out _ (O2.out.rd.on (show Below wr.heap.size wr _ from HI))).mono ?_
        rintro e y13 ⟨v13, rfl, ho13, hb13⟩
        have HI : (fun W => Below wr.heap.size wr W) y13 := (show Below wr.heap.size wr _ from HI).trans (hb13.mono (show Below wr.heap.size wr _ from HI).size)
        refine ⟨_, _, rfl, fun _ => HI, (by simp only [List.setIfInBounds_toArray, List.set_cons_succ, List.set_cons_zero]; exact rfl), ?_⟩
        refine regk_call (I' := (fun W => Below wr.heap.size wr W)) (fun _ h => h) 7 76 (by kernel_rfl) 20 #[v13] (fun o ho => by cases ho; exact ⟨rfl, rfl, fun W => by go_simp⟩) ?_
        refine (A2.out v13 _ ho13.rd).mono ?_
        rintro e y14 ⟨rfl, hb14⟩
        have HI : (fun W => Below wr.heap.size wr W) y14 := (show Below wr.heap.size wr _ from HI).trans (hb14.mono (show Below wr.heap.size wr _ from HI).size)
        refine ⟨_, _, rfl, fun _ => HI, (by simp only [List.setIfInBounds_toArray, List.set_cons_succ, List.set_cons_zero]; exact rfl), ?_⟩
        refine regk_free 8 77 (v := ?_) (T' := ?_) (fun _ => HI) (by kernel_rfl) (by kernel_rfl) (by kernel_rfl) (by kernel_rfl) (fun _ _ _ h => h) (fun o ho => ?_) ?_ ?_
        rotate_left 2
        · cases ho
          refine ⟨rfl, rfl, fun W => ?_⟩
          go_simp; (try with_reducible rfl)
        · simp only [List.setIfInBounds_toArray, List.set_cons_succ, List.set_cons_zero]; exact rfl
        refine regk_free 9 78 (v := ?_) (T' := ?_) (fun _ => HI) (by kernel_rfl) (by kernel_rfl) (by kernel_rfl) (by kernel_rfl) (fun _ _ _ h => h) (fun o ho => ?_) ?_ ?_
        rotate_left 2
        · cases ho
          refine ⟨rfl, rfl, fun W => ?_⟩
          go_simp; (try with_reducible rfl)
        · simp only [List.setIfInBounds_toArray, List.set_cons_succ, List.set_cons_zero]; exact rfl
        refine regk_call (I' := (fun W => Below wr.heap.size wr W)) (fun _ h => h) 10 79 (by kernel_rfl) 13 #[] (fun o ho => by cases ho; exact ⟨rfl, rfl, fun W => by go_simp⟩) ?_
        refine (LV.out _).mono ?_
        rintro e y15 ⟨rfl, hb15⟩
        have HI : (fun W => Below wr.heap.size wr W) y15 := (show Below wr.heap.size wr _ from HI).trans (hb15.mono (show Below wr.heap.size wr _ from HI).size)
        refine ⟨_, _, rfl, fun _ => HI, (by simp only [List.setIfInBounds_toArray, List.set_cons_succ, List.set_cons_zero]; exact rfl), ?_⟩
        refine regk_free 11 80 (v := ?_) (T' := ?_) (fun _ => HI) (by kernel_rfl) (by kernel_rfl) (by kernel_rfl) (by kernel_rfl) (fun _ _ _ h => h) (fun o ho => ?_) ?_ ?_
        rotate_left 2
        · cases ho
          refine ⟨rfl, rfl, fun W => ?_⟩
          go_simp; (try with_reducible rfl)
        · simp only [List.setIfInBounds_toArray, List.set_cons_succ, List.set_cons_zero]; exact rfl
        refine regk_free 12 4 (v := ?_) (T' := ?_) (fun _ => HI) (by kernel_rfl) (by kernel_rfl) (by kernel_rfl) (by kernel_rfl) (fun _ _ _ h => h) (fun o ho => ?_) ?_ ?_
        rotate_left 2
        · cases ho
          refine ⟨rfl, rfl, fun W => ?_⟩
          go_simp; (try with_reducible rfl)
        · simp only [List.setIfInBounds_toArray, List.set_cons_succ, List.set_cons_zero]; exact rfl
        refine regk_done (by kernel_rfl) ?_
-- DONE A
        have GZ := Lib.hid (G.out.trans ((show Below wr.heap.size wr _ from HI).mono G.out.size))
        go_wp2_with fail
        go_ret
        exact ⟨rfl, GZ.out⟩
-- END
set_option maxRecDepth 100000 in
theorem lifted (os : Os) (started : os.Started) (H : Type) (enc : TypeId × Value → H) :
    ReturnsInHanded {} Try.checked os 7 .any (Rows.planeRowSpec.pre6 enc Try.prog Try.f7 Rows.planeRowRow.domain false) (Rows.planeRowSpec.post enc Try.prog Try.f7 false true false false) := by
  refine returnsInHanded_of_change (C := Try.checked) Try.own started (by kernel_rfl) Try.func7
    (ChangeSpec.witness6 (enc := enc) (C := Try.checked) false ⟨#[], #[.agg #[.int .i64 0, .int .i64 0, .int .i64 0, .int .i64 0], .slice none 0 0], []⟩ 8 (by kernel_rfl) (by kernel_rfl) (by kernel_rfl) (by kernel_rfl)) ?_
  intro W base args ds gs before hval0 hW _ _
  have hval : ∀ (j : Nat) t v, Try.f7.params[j]? = some t → args[j]? = some v → Value.okWide Try.prog W .any base t v := hval0
  have hW' := hW
  obtain ⟨p, q, hA0, hV, rfl, _, _⟩ := hW
  have hA : DataW.TrodAll enc Try.prog W 0 (fun _ => true) true Try.f7.params.toList args.toList ds p := hA0
  rw [Try.params7] at hA hval
  obtain ⟨v0, v1, d0, d1, p0, p1, rfl, rfl, rfl, h0, h1⟩ := trodAll_two hA
  obtain ⟨rfl, rfl⟩ := trodVars_none hV
  have hlt := fun x hx => hW'.lt x hx
  obtain ⟨a0, rfl, w0⟩ := open_re (hval 0 _ v0 rfl rfl) h0
  obtain ⟨a1, r1, b1⟩ := open_res (hval 1 _ v1 rfl rfl) h1 (fun x hx => by simpa using hlt x (by simp [hx]))
  refine (walk a0 _ a1 _ r1).mono fun e W' ⟨he, hb⟩ => ⟨_, he, ?_⟩
  exact law_post Try.laidOut (by decide +kernel) rfl Try.underlying4 rfl hW' rfl hb

theorem holds : Rows.PlaneRowSaid :=
  OpenClaim.holds_of_wide 7 Try.f7 rfl rfl rfl rfl rfl rfl rfl ⟨rfl, rfl, rfl, rfl, rfl⟩ rfl rfl rfl rfl rfl (by kernel_rfl) Try.func7 (by kernel_rfl)
    (of_decide_eq_true (by kernel_rfl)) (by unfold Func.isWrapper; first | (rw [if_pos (by decide +kernel)]; kernel_rfl) | (rw [if_neg (by decide +kernel)]; exact ⟨rfl, rfl⟩))
    (fun os started H enc _ => lifted os started H enc)
end Go.Proofs.Ytjfneppjdgfecaa.L05
