/- PlaneOnce (P5.4): for every rectangle, every list of others (the first 6), and every point: the point lies in what is left just if it lies in the one and in none of the others, and in at most one of what is left. No condition. -/
import Derived.Test.YtjfneppjdgfecaaEq
import Derived.Test.YtjfneppjdgfecaaBlaw
namespace Go.Proofs.Ytjfneppjdgfecaa.L02
open Go.RowKit Go.ChangeShapes Go.WideShapes Go.ChangeAt
set_option linter.unusedVariables false
attribute [local go_sem] sto_cx

set_option maxHeartbeats 8000000 in
theorem walk (r : Re) (v : Value) (l : List Re) (u t : Int) (U : World) (h : RdRe U U.heap.size v l) : Calls Try.prog 4 #[reV r, v, .int .i64 u, .int .i64 t] U fun e W' => e = .returned (.bool true) ∧ Below U.heap.size U W' := by
  have LV := Lib.hid l_lives
  have OA := Lib.hid (fun w => l_of r w)
  have hox := orZ_ok r
  have HX := Lib.hid (fun w => p_rhas (Rc.of hox) hox u t w)
  have CO := Lib.hid (fun v l w h hl hok => p_cover hox v l w h hl hok)
  have CV := Lib.hid (fun l => pCover_many (orZ r) l u t)
  have CL := Lib.hid (fun (l : List Re) (h : l.length ≤ 6) => pCover_len (orZ r) h)
  have CK := Lib.hid (fun l => pCover_ok hox l)
  have OQ := Lib.hid l_of
  have HQ := Lib.hid (fun (q : Re) w => p_rhas (Rc.of (orZ_ok q)) (orZ_ok q) u t w)
  have HC := Lib.hid (fun (q : Re) (hq : okR q) w => p_rhas (Rc.of hq) hq u t w)
  have hqz := Lib.hid (fun q => orZ_has q u t)
  have hre : ∀ r : Re, reC r = .agg #[.complex .f64 (fw r.1.1) (fw r.2.1), .complex .f64 (fw r.1.2) (fw r.2.2)] := fun _ => rfl
  have hrv : ∀ r : Re, reV r = .agg #[.int .i64 r.1.1, .int .i64 r.1.2, .int .i64 r.2.1, .int .i64 r.2.2] := fun _ => rfl
  simp only [hre, hrv] at OA HX CO OQ HQ HC ⊢
  clear hre hrv hox
  generalize hcov : pCover (orZ r) = cov at *
  clear hcov
  generalize rMay r = r_may at *
  generalize fw (orZ r).1.1 = g1 at *
  generalize fw (orZ r).2.1 = g2 at *
  generalize fw (orZ r).1.2 = g3 at *
  generalize fw (orZ r).2.2 = g4 at *
  generalize rHas (orZ r) u t = hx at *
  obtain ⟨⟨a1, a2⟩, ⟨a3, a4⟩⟩ := r
  simp only at OA ⊢
  have B0 := Lib.hid (Box.new U #[.int .i64 a1, .int .i64 a2, .int .i64 a3, .int .i64 a4] 25 _ rfl)
  have G := Lib.hid (alloc_below U (.cells #[.int .i64 a1, .int .i64 a2, .int .i64 a3, .int .i64 a4] 25))
  have H := Lib.hid (h.on G.out)
  obtain ⟨A, c, rfl, hlc, hc, h3⟩ := h
  go_enter Try.func4, Try.ntmps4
  have c00 := B0.out.cell 0 (.int .i64 a1) rfl
  have c01 := B0.out.cell 1 (.int .i64 a2) rfl
  have c02 := B0.out.cell 2 (.int .i64 a3) rfl
  have c03 := B0.out.cell 3 (.int .i64 a4) rfl
  by_cases h6 : 6 < l.length
  case' pos =>
    obtain ⟨b6, o6, rfl, -, -⟩ := h3 (by omega)
    have HL := Lib.hid (H.out.head 6 (by omega))
    have hn : 6 = (l.take 6).length := by rw [List.length_take]; omega
    rw [← hn] at HL
    have HN := Lib.hid hn
    clear hn h3 H
    generalize hl6 : l.take 6 = l' at *
    have hl6 : l'.length ≤ 6 := by have := HN.out; omega
    go_wp2_with fail
  case' neg =>
    obtain ⟨l', hl'⟩ : ∃ l', l' = l := ⟨_, rfl⟩
    have HL := Lib.hid (show RdRe _ _ (.slice A l.length c) l' from by rw [hl']; exact H.out)
    have HN := Lib.hid (show l.length = l'.length from by rw [hl'])
    have hl6 : l'.length ≤ 6 := by rw [hl']; omega
    clear hl' h3 H
    go_wp2_with fail
  all_goals
    clear c00 c01 c02 c03
    generalize U.alloc (.cells #[.int .i64 a1, .int .i64 a2, .int .i64 a3, .int .i64 a4] 25) = W0 at *
    refine (OA.out _).mono ?_
    rintro e w1 ⟨rfl, hb1⟩
    have BX := Lib.hid (Box.new w1 #[.complex .f64 g1 g2, .complex .f64 g3 g4] 28 _ rfl)
    have hbx := hb1.alloc hb1.size (.cells #[.complex .f64 g1 g2, .complex .f64 g3 g4] 28)
    have HL := Lib.hid (HL.out.on hbx)
    have G := Lib.hid (G.out.trans (hbx.mono G.out.size))
    clear hb1 hbx B0
    have c00 := BX.out.cell 0 (.complex .f64 g1 g2) rfl
    have c01 := BX.out.cell 1 (.complex .f64 g3 g4) rfl
    go_wp2_with fail
    generalize w1.alloc (.cells #[.complex .f64 g1 g2, .complex .f64 g3 g4] 28) = W1 at *
    generalize w1.heap.size = nx at *
    refine (HX.out _).mono ?_
    rintro e w2 ⟨rfl, hb2⟩
    have BX := Lib.hid (BX.out.later hb2)
    have HL := Lib.hid (HL.out.on hb2)
    have G := Lib.hid (G.out.trans (hb2.mono G.out.size))
    clear hb2 c00 c01
    have lx := BX.out.lt
    go_wp2_with fail
    go_loopw [11, 12, 13] (fun x wa i wr => ∃ k : Nat, i = .int .i64 k ∧ k ≤ l'.length ∧ wa = .bool (hx && (l'.take k).all fun b => !rHas b u t) ∧ OwnRx wr w2.heap.size x ((l'.take k).map orZ) ∧ Below w2.heap.size w2 wr) (fun _ _ i _ => l'.length - (intOf i).toNat)
    case atStart => exact ⟨0, rfl, Nat.zero_le _, by simp, OwnX.nil _ _, Below.refl _ _⟩
    case round =>
      obtain ⟨k, rfl, hk, rfl, ho, hb⟩ := hrel
      have O := Lib.hid ho
      have GW := Lib.hid hb
      have BXw := Lib.hid (BX.out.on hb lx)
      clear ho hb
      by_cases hlt : k < l'.length
      · obtain ⟨ba, oa, e9, hba, d0, d1, d2, d3⟩ := RdRe.here (HL.out.below GW.out) k hlt
        cases e9
        have FS := Lib.hid (map_snoc orZ l' k hlt)
        have AS := Lib.hid (show (hx && (l'.take (k + 1)).all fun b => !rHas b u t) = ((hx && (l'.take k).all fun b => !rHas b u t) && !rHas l'[k] u t) from by rw [all_snoc l' (fun b => !rHas b u t) k hlt, Bool.and_assoc])
        have hol : ((l'.take k).map orZ).length + 1 ≤ 1000000000 := by
          have := List.length_take_le k l'
          rw [List.length_map]; omega
        have OK := Lib.hid (fun w => OQ.out l'[k] w)
        have HK := Lib.hid (fun w => HQ.out l'[k] w)
        rw [hqz.out] at HK
        rw [← HN.out] at hlt
        generalize (l'.take k).map orZ = acc at *
        generalize (hx && (l'.take k).all fun b => !rHas b u t) = wa at *
        generalize l'[k] = q at *
        generalize hqh : rHas q u t = qh at *
        clear hqh
        generalize rMay q = q_may at *
        generalize hoq : orZ q = oq at *
        clear hoq
        obtain ⟨⟨q1, q2⟩, ⟨q3, q4⟩⟩ := q
        simp only at OK d0 d1 d2 d3
        go_wp2_with fail
        refine (OK.out _).mono ?_
        rintro e w3 ⟨rfl, hb3⟩
        have BQ := Lib.hid (Box.new w3 #[.complex .f64 (fw oq.1.1) (fw oq.2.1), .complex .f64 (fw oq.1.2) (fw oq.2.2)] 28 _ rfl)
        have hne := (O.out.on hb3).lt
        have NE := Lib.hid (show some w3.heap.size ≠ u11.ownBlock from fun e => by have := (hne _ e.symm).2; omega)
        have hbx := hb3.alloc hb3.size (.cells #[.complex .f64 (fw oq.1.1) (fw oq.2.1), .complex .f64 (fw oq.1.2) (fw oq.2.2)] 28)
        have O := Lib.hid (O.out.on hbx)
        have GW := Lib.hid (GW.out.trans (hbx.mono GW.out.size))
        clear hb3 hbx hne d0 d1 d2 d3
        have d0 := BQ.out.cell 0 (.complex .f64 (fw oq.1.1) (fw oq.2.1)) rfl
        have d1 := BQ.out.cell 1 (.complex .f64 (fw oq.1.2) (fw oq.2.2)) rfl
        generalize hw3 : w3.alloc (.cells #[.complex .f64 (fw oq.1.1) (fw oq.2.1), .complex .f64 (fw oq.1.2) (fw oq.2.2)] 28) = wx at *
        have hle := Lib.hid (show k + 1 ≤ l'.length from by have := HN.out; omega)
        cases wa
        ·
          go_wp2_with (at_builtin; refine wpl_appX rfl (.tmp 47) (.tmp 49) rfl Try.underlying40 rx_info rfl w2.heap.size _ acc [oq] _ _ _ rfl rfl rfl rfl O.out GW.out.size hol (by decide) ?_; intro v7 w7 ho7 hg7 hb7; have i0 := (BQ.out.keep hg7.grown NE.out).cell 0 (.complex .f64 (fw oq.1.1) (fw oq.2.1)) rfl; have i1 := (BQ.out.keep hg7.grown NE.out).cell 1 (.complex .f64 (fw oq.1.2) (fw oq.2.2)) rfl)
          have OZ := Lib.hid (show OwnRx w7 w2.heap.size v7 ((l'.take (k + 1)).map orZ) from by rw [FS.out]; exact ho7)
          have GZ := Lib.hid (GW.out.trans hb7)
          clear ho7 hg7 hb7 d0 d1 hw3 i0 i1
          go_roundw
          case rel => exact ⟨k + 1, by go_num, hle.out, by rw [AS.out]; rfl, OZ.out, GZ.out⟩
          case measure => have := hle.out; simp [intOf]; omega
        ·
          go_wp2_with (at_builtin; refine wpl_appX rfl (.tmp 47) (.tmp 49) rfl Try.underlying40 rx_info rfl w2.heap.size _ acc [oq] _ _ _ rfl rfl rfl rfl O.out GW.out.size hol (by decide) ?_; intro v7 w7 ho7 hg7 hb7; have i0 := (BQ.out.keep hg7.grown NE.out).cell 0 (.complex .f64 (fw oq.1.1) (fw oq.2.1)) rfl; have i1 := (BQ.out.keep hg7.grown NE.out).cell 1 (.complex .f64 (fw oq.1.2) (fw oq.2.2)) rfl)
          have OZ := Lib.hid (show OwnRx w7 w2.heap.size v7 ((l'.take (k + 1)).map orZ) from by rw [FS.out]; exact ho7)
          have GZ := Lib.hid (GW.out.trans hb7)
          clear ho7 hg7 hb7 d0 d1 hw3 i0 i1
          refine (HK.out _).mono ?_
          rintro e w8 ⟨rfl, hb8⟩
          have OZ := Lib.hid (OZ.out.on hb8)
          have GZ := Lib.hid (GZ.out.trans (hb8.mono GZ.out.size))
          clear hb8
          go_wp2_with fail
          go_roundw
          case rel => exact ⟨k + 1, by go_num, hle.out, by rw [AS.out]; simp, OZ.out, GZ.out⟩
          case measure => have := hle.out; simp [intOf]; omega
      · have hke : l'.take k = l' := List.take_of_length_le (by omega)
        have hgt := Lib.hid (show ¬ k < l'.length from hlt)
        rw [← HN.out] at hlt
        rw [hke] at O ⊢
        have hcv := Lib.hid (show rMany (cov (l'.map orZ)) u t = if (hx && l'.all fun b => !rHas b u t) = true then 1 else 0 from by rw [CV.out, all_orZ])
        have hck := Lib.hid (CK.out (l'.map orZ))
        have hcl := Lib.hid (CL.out (l'.map orZ) (by rw [List.length_map]; exact hl6))
        have CC := Lib.hid (fun w hh => CO.out u11 (l'.map orZ) w hh (by rw [List.length_map]; exact hl6) (map_ok l'))
        clear hke CV CK CL CO
        generalize (hx && l'.all fun b => !rHas b u t) = wa at *
        generalize cov (l'.map orZ) = cv at *
        have c00 := BXw.out.cell 0 (.complex .f64 g1 g2) rfl
        have c01 := BXw.out.cell 1 (.complex .f64 g3 g4) rfl
        have G := Lib.hid (G.out.trans (GW.out.mono G.out.size))
        go_wp2_with fail
        refine (CC.out _ O.out.rd).mono ?_
        rintro e w3 ⟨v3, rfl, ho3, hb3⟩
        have G := Lib.hid (G.out.trans (hb3.mono G.out.size))
        have R := Lib.hid ho3.rd
        obtain ⟨A3, c3, e3, -⟩ := R.out
        subst e3
        clear ho3 hb3 c00 c01
        go_wp2_with fail
        go_loopw [17, 18] (fun x i wr => ∃ k : Nat, i = .int .i64 k ∧ k ≤ cv.length ∧ x = .int .i64 (rMany (cv.take k) u t : Nat) ∧ Below w3.heap.size w3 wr) (fun _ i _ => cv.length - (intOf i).toNat)
        case atStart => exact ⟨0, rfl, Nat.zero_le _, by simp [rMany], Below.refl _ _⟩
        case round =>
          obtain ⟨j, rfl, hj, rfl, hb⟩ := hrel
          obtain ⟨ws, rfl⟩ : ∃ ws : World, ws = wr := ⟨_, rfl⟩
          have GW := Lib.hid hb
          clear hb
          have hcl2 := hcl.out
          by_cases hlj : j < cv.length
          · obtain ⟨ba, oa, e9, hba, d0, d1⟩ := RdRx.here (R.out.below GW.out) j hlj
            cases e9
            have MS := Lib.hid (many_snoc cv u t j hlj)
            have HK := Lib.hid (fun w => HC.out cv[j] (hck.out _ (List.getElem_mem _)) w)
            have hml := many_le cv u t j
            generalize rMany (cv.take j) u t = mj at *
            generalize cv[j] = q at *
            generalize hqh : rHas q u t = qh at *
            clear hqh
            obtain ⟨⟨q1, q2⟩, ⟨q3, q4⟩⟩ := q
            simp only at HK d0 d1
            go_wp2_with fail
            refine (HK.out _).mono ?_
            rintro e w4 ⟨rfl, hb4⟩
            have GZ := Lib.hid (GW.out.trans (hb4.mono GW.out.size))
            clear hb4 d0 d1
            cases qh
            · go_wp2_with fail
              go_roundw
              case rel => exact ⟨j + 1, by go_num, by omega, by rw [MS.out]; rfl, GZ.out⟩
              case measure => simp [intOf]; omega
            · go_wp2_with fail
              go_roundw
              case rel => exact ⟨j + 1, by go_num, by omega, by rw [MS.out]; go_num, GZ.out⟩
              case measure => simp [intOf]; omega
          · have hke : cv.take j = cv := List.take_of_length_le (by omega)
            have hmv := Lib.hid (show rMany (cv.take j) u t = if wa = true then 1 else 0 from by rw [hke, hcv.out])
            clear hke
            have G := Lib.hid (G.out.trans (GW.out.mono G.out.size))
            generalize rMany (cv.take j) u t = mj at *
            cases wa
            case' false => have hz : mj = 0 := by rw [hmv.out]; rfl
            case' true => have hz : mj = 1 := by rw [hmv.out]; rfl
            all_goals
              subst hz
              go_wp2_with fail
              refine (LV.out _).mono ?_
              rintro e w9 ⟨rfl, hb9⟩
              have G := Lib.hid (G.out.trans (hb9.mono G.out.size))
              clear hb9
              go_wp2_with fail
              go_ret
              exact ⟨rfl, G.out⟩
-- END
set_option maxRecDepth 100000 in
theorem lifted (os : Os) (started : os.Started) (H : Type) (enc : TypeId × Value → H) :
    ReturnsInHanded {} Try.checked os 4 .any (Rows.planeOnceSpec.pre6 enc Try.prog Try.f4 Rows.planeOnceRow.domain false) (Rows.planeOnceSpec.post enc Try.prog Try.f4 false true false false) := by
  refine returnsInHanded_of_change (C := Try.checked) Try.own started (by kernel_rfl) Try.func4
    (ChangeSpec.witness6 (enc := enc) (C := Try.checked) false ⟨#[], #[.agg #[.int .i64 0, .int .i64 0, .int .i64 0, .int .i64 0], .slice none 0 0, .int .i64 0, .int .i64 0], []⟩ 8 (by kernel_rfl) (by kernel_rfl) (by kernel_rfl) (by kernel_rfl)) ?_
  intro W base args ds gs before hval0 hW _ _
  have hval : ∀ (j : Nat) t v, Try.f4.params[j]? = some t → args[j]? = some v → Value.okWide Try.prog W .any base t v := hval0
  have hW' := hW
  obtain ⟨p, q, hA0, hV, rfl, _, _⟩ := hW
  have hA : DataW.TrodAll enc Try.prog W 0 (fun _ => true) true Try.f4.params.toList args.toList ds p := hA0
  rw [Try.params4] at hA hval
  obtain ⟨v0, v1, v2, v3, d0, d1, d2, d3, p0, p1, p2, p3, rfl, rfl, rfl, h0, h1, h2, h3⟩ := trodAll_four hA
  obtain ⟨rfl, rfl⟩ := trodVars_none hV
  have hlt := fun x hx => hW'.lt x hx
  obtain ⟨a0, rfl, w0⟩ := open_re (hval 0 _ v0 rfl rfl) h0
  obtain ⟨a1, r1, b1⟩ := open_res (hval 1 _ v1 rfl rfl) h1 (fun x hx => by simpa using hlt x (by simp [hx]))
  obtain ⟨a2, rfl, rfl, rfl, w2⟩ := open_int Try.underlying3 (hval 2 _ v2 rfl rfl) h2
  have w2 := wf_int w2
  obtain ⟨a3, rfl, rfl, rfl, w3⟩ := open_int Try.underlying3 (hval 3 _ v3 rfl rfl) h3
  have w3 := wf_int w3
  refine (walk a0 _ a1 a2 a3 _ r1).mono fun e W' ⟨he, hb⟩ => ⟨_, he, ?_⟩
  exact law_post Try.laidOut (by decide +kernel) rfl Try.underlying4 rfl hW' rfl hb

theorem holds : Rows.PlaneOnceSaid :=
  OpenClaim.holds_of_wide 4 Try.f4 rfl rfl rfl rfl rfl rfl rfl ⟨rfl, rfl, rfl, rfl, rfl⟩ rfl rfl rfl rfl rfl (by kernel_rfl) Try.func4 (by kernel_rfl)
    (of_decide_eq_true (by kernel_rfl)) (by unfold Func.isWrapper; first | (rw [if_pos (by decide +kernel)]; kernel_rfl) | (rw [if_neg (by decide +kernel)]; exact ⟨rfl, rfl⟩))
    (fun os started H enc _ => lifted os started H enc)
end Go.Proofs.Ytjfneppjdgfecaa.L02
