/- TreeSelf: a branch sees its own stamps just up to the epoch, and none of its branches': any branches that may be (made of the first 7), any branch, any epoch, any stamp. No conditions. -/
import Derived.Test.YtopiddlijlcbbaaQk
import Derived.Test.YtopiddlijlcbbaaTc
import Derived.Test.YtopiddlijlcbbaaTd
import Derived.Test.YtopiddlijlcbbaaBE
namespace Go.Proofs.Ytopiddlijlcbbaa.L07
open Go.RowKit Go.ChangeShapes Go.WideShapes Go.ChangeAt
set_option linter.unusedVariables false

theorem self_sees {N : List Br} (hm : mayT N = true) {k : Nat} (hk : k < N.length) (e se : Int) : seesT (pathT N k e) k se = decide (se ≤ e) := by
  have hr : ∀ g ∈ (if N[k].par < 0 then [] else pathT N N[k].par (if N[k].fork < e then N[k].fork else e)), g.1 < (k : Int) := fun g hg => by
    have hd := path_desc hm k e hk
    rw [path_step hm (List.getElem?_eq_getElem hk) e] at hd
    exact (List.pairwise_cons.1 hd).1 g hg
  rw [path_step hm (List.getElem?_eq_getElem hk) e]
  unfold seesT
  rw [List.any_cons]
  have : List.any (if N[k].par < 0 then [] else pathT N N[k].par (if N[k].fork < e then N[k].fork else e)) (fun g => g.1 == (k : Int) && decide (se ≤ g.2)) = false := by
    rw [List.any_eq_false]
    intro g hg
    have := hr g hg
    simp
    intro h
    omega
  rw [this]
  simp
theorem kids_mem (b : Int) : ∀ (l : List Br) (k : Nat) (c : Int), c ∈ kidsFrom b k l → ∃ (i : Nat) (x : Br), l[i]? = some x ∧ c = ((k + i : Nat) : Int) ∧ kidT b x = true
  | [], k, c, h => by cases h
  | x :: r, k, c, h => by
    rw [kidsFrom] at h
    rcases List.mem_append.1 h with h | h
    · split at h
      · rename_i hx
        simp at h
        exact ⟨0, x, rfl, by simpa using h, hx⟩
      · cases h
    · obtain ⟨i, y, h1, h2, h3⟩ := kids_mem b r (k + 1) c h
      exact ⟨i + 1, y, by simpa using h1, by rw [h2]; congr 1; omega, h3⟩
theorem kid_unseen {N : List Br} (hm : mayT N = true) {k : Nat} (hk : k < N.length) (e se : Int) : ∀ c ∈ kidsT N k, seesT (pathT N k e) c se = false := fun c hc => by
  obtain ⟨i, x, h1, h2, h3⟩ := kids_mem _ _ _ _ hc
  rw [Nat.zero_add] at h2
  simp only [kidT, Bool.and_eq_true, beq_iff_eq, decide_eq_true_eq] at h3
  have hki : (k : Int) < c := by
    have hok := may_at hm h1
    rcases Nat.eq_zero_or_pos i with rfl | h0
    · have := ok_zero hok; omega
    · have := ok_up hok h0; omega
  unfold seesT
  rw [List.any_eq_false]
  intro g hg
  have := path_low hm k e hk g hg
  simp
  intro h
  omega
set_option maxHeartbeats 4000000 in
set_option maxRecDepth 100000 in
theorem walk0 (KP : PathK) (KL : LiveK) (KS : SeesK) (KK : KidsK) (v : Value) (l : List Br) (br e sb se sq : Int) (w : World) (h : RdX brL w w.heap.size v l) (hok : OkBr l) :
    Calls Try.prog 9 #[v, .int .i64 br, .int .i64 e, .agg #[.int .i64 sb, .int .i64 se, .int .i64 sq]] w fun z w' => z = .returned (.bool true) ∧ Below w.heap.size w w' := by
  have LV := Lib.hid (law11_lives KP KL)
  have KS := Lib.hid KS
  have KK := Lib.hid KK
  have KP := Lib.hid KP
  have hb0 := alloc_below w (.cells #[.int .i64 sb, .int .i64 se, .int .i64 sq] 32)
  have GD := Lib.hid (ref_good v l _ (h.on hb0) hok)
  have BX := Lib.hid (Box.new w #[.int .i64 sb, .int .i64 se, .int .i64 sq] 32 _ rfl)
  have G := Lib.hid hb0
  have HMAY := Lib.hid (good_may l)
  have HLN := Lib.hid (good_len l).2
  obtain ⟨A, ca, rfl, -⟩ := h
  clear hb0 hok
  generalize goodT l = N at *
  go_enter Try.func9, Try.ntmps9
  go_wp2_with fail
  refine GD.out.mono ?_
  rintro z w1 ⟨v1, rfl, ho1, hb1⟩
  have R := Lib.hid ho1.rd
  have BX := Lib.hid (Box.later BX.out hb1)
  have G := Lib.hid (G.out.trans (hb1.mono G.out.size))
  obtain ⟨A1, c1, e1, -⟩ := ho1.rd
  subst e1
  clear ho1 hb1 GD
  go_wp2_with fail
  refine (KP.out _ N br e _ R.out).mono ?_
  rintro z w2 ⟨v2, rfl, ho2, hb2⟩
  have R := Lib.hid (R.out.on hb2)
  have O2 := Lib.hid ho2.rd
  have BX := Lib.hid (Box.later BX.out hb2)
  have G := Lib.hid (G.out.trans (hb2.mono G.out.size))
  have PL := Lib.hid (Nat.le_trans (path_few N br e) (show 16 ≤ 1000 from by decide))
  obtain ⟨A2, c2, e2, -⟩ := ho2.rd
  subst e2
  have d0 := BX.out.cell 0 (.int .i64 sb) rfl
  have d1 := BX.out.cell 1 (.int .i64 se) rfl
  have d2 := BX.out.cell 2 (.int .i64 sq) rfl
  clear ho2 hb2
  by_cases hin : 0 ≤ br ∧ br < (N.length : Int)
  · obtain ⟨k, rfl⟩ : ∃ k : Nat, br = (k : Int) := ⟨br.toNat, by omega⟩
    have hk : k < N.length := by omega
    have z1 : decide ((k : Int) < 0) = false := by rw [decide_eq_false_iff_not]; omega
    have z2 : decide ((N.length : Int) ≤ (k : Int)) = false := by rw [decide_eq_false_iff_not]; omega
    have z2n : decide (N.length ≤ k) = false := by rw [decide_eq_false_iff_not]; omega
    have PS := Lib.hid (self_sees HMAY.out hk e se)
    have KU := Lib.hid (kid_unseen HMAY.out hk e se)
    have KLN := Lib.hid (Nat.le_trans (kids_len (k : Int) N 0) HLN.out)
    generalize pathT N k e = P at *
    clear hin hk
    go_wp2_with fail
    have hb3 := alloc_below w2 (.cells #[.int .i64 (k : Int), .int .i64 se, .int .i64 sq] 32)
    have BY := Lib.hid (Box.new w2 #[.int .i64 (k : Int), .int .i64 se, .int .i64 sq] 32 _ rfl)
    have R := Lib.hid (R.out.on hb3)
    have O2 := Lib.hid (O2.out.on hb3)
    have BX := Lib.hid (Box.later BX.out hb3)
    have G := Lib.hid (G.out.trans (hb3.mono G.out.size))
    clear hb3 d0 d1 d2
    generalize w2.alloc (.cells #[.int .i64 (k : Int), .int .i64 se, .int .i64 sq] 32) = W3 at *
    have R := Lib.hid (show RdX brL W3.drew W3.drew.heap.size _ N from R.out)
    have O2 := Lib.hid (show RdX lgL W3.drew W3.drew.heap.size _ P from O2.out)
    have G := Lib.hid (G.out.drewN 1)
    have BX := Lib.hid (show Box W3.drew w.heap.size #[.int .i64 sb, .int .i64 se, .int .i64 sq] 32 from BX.out)
    have BY := Lib.hid (show Box W3.drew w2.heap.size #[.int .i64 (k : Int), .int .i64 se, .int .i64 sq] 32 from BY.out)
    refine reg_start (by kernel_rfl) ?_
    refine reg_take2 0 44 (v := ?_) (T' := ?_) (Later.refl _) (by kernel_rfl) (by kernel_rfl) (by kernel_rfl) (fun _ _ _ h => h) (fun o ho => ?_) ?_ ?_
    rotate_left 2
    · cases ho
      refine ⟨rfl, rfl, fun W hW => ?_⟩
      go_simp; (try with_reducible rfl)
    · simp only [List.setIfInBounds_toArray, List.set_cons_succ, List.set_cons_zero]; exact rfl
    refine reg_take2 1 45 (v := ?_) (T' := ?_) (Later.refl _) (by kernel_rfl) (by kernel_rfl) (by kernel_rfl) (fun _ _ _ h => h) (fun o ho => ?_) ?_ ?_
    rotate_left 2
    · cases ho
      refine ⟨rfl, rfl, fun W hW => ?_⟩
      have BW := Box.later BY.out hW
      have d0 := BW.cell 0 (.int .i64 (k : Int)) rfl
      have d1 := BW.cell 1 (.int .i64 se) rfl
      have d2 := BW.cell 2 (.int .i64 sq) rfl
      go_simp; (try with_reducible rfl)
    · simp only [List.setIfInBounds_toArray, List.set_cons_succ, List.set_cons_zero]; exact rfl
    refine reg_take2 3 47 (v := ?_) (T' := ?_) (Later.refl _) (by kernel_rfl) (by kernel_rfl) (by kernel_rfl) (fun _ _ _ h => h) (fun o ho => ?_) ?_ ?_
    rotate_left 2
    · cases ho
      refine ⟨rfl, rfl, fun W hW => ?_⟩
      go_simp; (try with_reducible rfl)
    · simp only [List.setIfInBounds_toArray, List.set_cons_succ, List.set_cons_zero]; exact rfl
    refine reg_take2 4 48 (v := ?_) (T' := ?_) (Later.refl _) (by kernel_rfl) (by kernel_rfl) (by kernel_rfl) (fun _ _ _ h => h) (fun o ho => ?_) ?_ ?_
    rotate_left 2
    · cases ho
      refine ⟨rfl, rfl, fun W hW => ?_⟩
      have BW := Box.later BX.out hW
      have d0 := BW.cell 0 (.int .i64 sb) rfl
      have d1 := BW.cell 1 (.int .i64 se) rfl
      have d2 := BW.cell 2 (.int .i64 sq) rfl
      go_simp; (try with_reducible rfl)
    · simp only [List.setIfInBounds_toArray, List.set_cons_succ, List.set_cons_zero]; exact rfl
    refine reg_take2 5 49 (v := ?_) (T' := ?_) (Later.refl _) (by kernel_rfl) (by kernel_rfl) (by kernel_rfl) (fun _ _ _ h => h) (fun o ho => ?_) ?_ ?_
    rotate_left 2
    · cases ho
      refine ⟨rfl, rfl, fun W hW => ?_⟩
      go_simp; (try with_reducible rfl)
    · simp only [List.setIfInBounds_toArray, List.set_cons_succ, List.set_cons_zero]; exact rfl
    refine reg_take2 6 50 (v := ?_) (T' := ?_) (Later.refl _) (by kernel_rfl) (by kernel_rfl) (by kernel_rfl) (fun _ _ _ h => h) (fun o ho => ?_) ?_ ?_
    rotate_left 2
    · cases ho
      refine ⟨rfl, rfl, fun W hW => ?_⟩
      go_simp; (try with_reducible rfl)
    · simp only [List.setIfInBounds_toArray, List.set_cons_succ, List.set_cons_zero]; exact rfl
    refine reg_call2 2 46 (Later.refl _) (by kernel_rfl) 16 #[.slice A2 P.length c2, .agg #[.int .i64 (k : Int), .int .i64 se, .int .i64 sq]] (fun o ho => by cases ho; exact ⟨rfl, rfl, fun W => by go_simp⟩) ?_
    refine (KS.out _ P (k : Int) se sq _ O2.out PL.out).mono ?_
    rintro z x1 ⟨rfl, hb⟩
    rw [PS.out]
    have R := Lib.hid (R.out.on hb)
    have O2 := Lib.hid (O2.out.on hb)
    have BX := Lib.hid (Box.later BX.out hb)
    have G := Lib.hid (G.out.trans (hb.mono G.out.size))
    refine ⟨_, _, rfl, hb, (by simp only [List.setIfInBounds_toArray, List.set_cons_succ, List.set_cons_zero]; exact rfl), ?_⟩
    clear hb
    refine reg_take2 7 51 (v := ?_) (T' := ?_) (Later.refl _) (by kernel_rfl) (by kernel_rfl) (by kernel_rfl) (fun _ _ _ h => h) (fun o ho => ?_) ?_ ?_
    rotate_left 2
    · cases ho
      refine ⟨rfl, rfl, fun W hW => ?_⟩
      go_simp; (try with_reducible rfl)
    · simp only [List.setIfInBounds_toArray, List.set_cons_succ, List.set_cons_zero]; exact rfl
    refine reg_done (by kernel_rfl) ?_
    clear BY
    go_wp2_with fail
    refine (KK.out _ N (k : Int) _ R.out (Nat.le_trans HLN.out (by decide))).mono ?_
    rintro z w4 ⟨v4, rfl, ho4, hb4⟩
    have O4 := Lib.hid ho4.rd
    have O2 := Lib.hid (O2.out.on hb4)
    have BX := Lib.hid (Box.later BX.out hb4)
    have G := Lib.hid (G.out.trans (hb4.mono G.out.size))
    obtain ⟨A4, c4, e4, -⟩ := ho4.rd
    subst e4
    clear ho4 hb4
    have KLN := Lib.hid (show (kidsT N (k : Int)).length ≤ 8 from KLN.out)
    generalize kidsT N (k : Int) = K at *
    go_wp2_with fail
    go_loopw [13] (fun i wr => ∃ j : Nat, i = .int .i64 j ∧ j ≤ K.length ∧ Below w4.heap.size w4 wr) (fun i _ => K.length - (intOf i).toNat)
    case atStart => exact ⟨0, rfl, Nat.zero_le _, Below.refl _ _⟩
    case round =>
      obtain ⟨j, rfl, hj, hbw⟩ := hrel
      rename World => wo
      have GW := Lib.hid hbw
      clear hbw
      by_cases hlt : j < K.length
      · have zl : decide ((j : Int) < (K.length : Int)) = true := by simp; omega
        have hji : (j : Int) < (K.length : Int) := by omega
        have hw64 : IntKind.i64.wrap ((j : Int) + 1) = (j : Int) + 1 := by rw [IntKind.wrap_i64]; have := KLN.out; omega
        obtain ⟨c, hc⟩ : ∃ c, K[j] = c := ⟨_, rfl⟩
        have HU := Lib.hid (KU.out c (by rw [← hc]; exact List.getElem_mem hlt))
        have O2w := Lib.hid (O2.out.on GW.out)
        have O4w := Lib.hid (O4.out.on GW.out)
        have BXw := Lib.hid (Box.later BX.out GW.out)
        have hbc := alloc_below wo (.cells #[.int .i64 c, .int .i64 se, .int .i64 sq] 32)
        have hbk := alloc_below wo (.cells #[.int .i64 sb, .int .i64 se, .int .i64 sq] 32)
        obtain ⟨b1, o1, rfl, -, f0⟩ := (O4w.out.on hbk).at j hlt
        have f0 := f0 0 _ rfl
        simp only [show intL.sz = 1 from rfl, Nat.mul_one, Nat.add_zero, hc] at f0
        have d0 := BXw.out.cell 0 (.int .i64 sb) rfl
        have d1 := BXw.out.cell 1 (.int .i64 se) rfl
        have d2 := BXw.out.cell 2 (.int .i64 sq) rfl
        have SC := Lib.hid (KS.out _ P c se sq _ (O2w.out.on hbc) PL.out)
        rw [HU.out] at SC
        have GC := Lib.hid hbc
        have GWS := Lib.hid GW.out.size
        clear hc hbc hbk
        go_wp2_with fail
        refine SC.out.mono ?_
        rintro z w5 ⟨rfl, hb5⟩
        have GW := Lib.hid ((GW.out.trans (GC.out.mono GWS.out)).trans (hb5.mono (Nat.le_trans GWS.out GC.out.size)))
        clear hb5 d0 d1 d2 f0
        go_wp2_with fail
        go_roundw
        case rel => exact ⟨j + 1, by go_num, by omega, GW.out⟩
        case measure => simp [intOf]; omega
      · have hjl : j = K.length := by omega
        subst hjl
        have zl : decide ((K.length : Int) < (K.length : Int)) = false := by simp
        have G := Lib.hid (G.out.trans (GW.out.mono G.out.size))
        clear hlt
        go_wp2_with fail
        refine (LV.out _).mono ?_
        rintro z w8 ⟨rfl, hb⟩
        have G := Lib.hid (G.out.trans (hb.mono G.out.size))
        clear hb
        go_wp2_with fail
        go_ret
        exact ⟨rfl, G.out⟩
  · have hP : pathT N br e = [] := path_none (by rintro ⟨h1, h2, h3⟩; exact hin ⟨h2, h3⟩)
    rw [hP] at O2
    have SC := Lib.hid (fun W h => KS.out (.slice A2 0 c2) [] sb se sq W h (by simp))
    rw [hP]
    rw [List.length_nil] at *
    have hor : br < 0 ∨ (¬ br < 0 ∧ (N.length : Int) ≤ br) := by omega
    rcases hor with h1 | ⟨h1, h2⟩
    case' inl =>
      have z1 : decide (br < 0) = true := by simp; omega
      clear h1
    case' inr =>
      have z1 : decide (br < 0) = false := by rw [decide_eq_false_iff_not]; omega
      have z2 : decide ((N.length : Int) ≤ br) = true := by simp; omega
      clear h1 h2
    all_goals
      clear hin hP PL
      go_wp2_with fail
      refine (SC.out _ O2.out).mono ?_
      rintro z w5 ⟨rfl, hb5⟩
      rw [show seesT [] sb se = false from rfl]
      have G := Lib.hid (G.out.trans (hb5.mono G.out.size))
      clear hb5
      go_wp2_with fail
      refine (LV.out _).mono ?_
      rintro z w8 ⟨rfl, hb⟩
      have G := Lib.hid (G.out.trans (hb.mono G.out.size))
      clear hb
      go_wp2_with fail
      go_ret
      exact ⟨rfl, G.out⟩
-- END
set_option maxRecDepth 100000 in
theorem lifted (os : Os) (started : os.Started) (H : Type) (enc : TypeId × Value → H) :
    ReturnsInHanded {} Try.checked os 9 .any (Rows.treeSelfSpec.pre6 enc Try.prog Try.f9 Rows.treeSelfRow.domain false) (Rows.treeSelfSpec.post enc Try.prog Try.f9 false true false false) := by
  refine returnsInHanded_of_change (C := Try.checked) Try.own started (by kernel_rfl) Try.func9
    (ChangeSpec.witness6 (enc := enc) (C := Try.checked) false ⟨#[], #[.slice none 0 0, .int .i64 0, .int .i64 0, .agg #[.int .i64 0, .int .i64 0, .int .i64 0]], []⟩ 8 (by kernel_rfl) (by kernel_rfl) (by kernel_rfl) (by kernel_rfl)) ?_
  intro W base args ds gs before hval0 hW _ _
  have hval : ∀ (j : Nat) t v, Try.f9.params[j]? = some t → args[j]? = some v → Value.okWide Try.prog W .any base t v := hval0
  have hW' := hW
  obtain ⟨p, q, hA0, hV, rfl, _, _⟩ := hW
  have hA : DataW.TrodAll enc Try.prog W 0 (fun _ => true) true Try.f9.params.toList args.toList ds p := hA0
  rw [Try.params9] at hA hval
  obtain ⟨v0, v1, v2, v3, d0, d1, d2, d3, p0, p1, p2, p3, rfl, rfl, rfl, h0, h1, h2, h3⟩ := trodAll_four hA
  obtain ⟨rfl, rfl⟩ := trodVars_none hV
  have hlt := fun x hx => hW'.lt x hx
  obtain ⟨a0, r0, b0⟩ := open_brs (hval 0 _ v0 rfl rfl) h0 (fun x hx => by simpa using hlt x (by simp [hx]))
  obtain ⟨a1, rfl, rfl, rfl, w1⟩ := open_int Try.underlying3 (hval 1 _ v1 rfl rfl) h1
  have w1 := wf_int w1
  obtain ⟨a2, rfl, rfl, rfl, w2⟩ := open_int Try.underlying3 (hval 2 _ v2 rfl rfl) h2
  have w2 := wf_int w2
  obtain ⟨⟨mb3, me3, mq3⟩, rfl, x3⟩ := open_st (hval 3 _ v3 rfl rfl) h3
  refine (walk0 path_k live_k sees_k kids_k v0 a0 a1 a2 mb3 me3 mq3 _ r0 b0).mono fun e W' ⟨he, hb⟩ => ⟨_, he, ?_⟩
  exact law_post Try.laidOut (by decide +kernel) rfl Try.underlying4 rfl hW' rfl hb

theorem holds : Rows.TreeSelfSaid :=
  OpenClaim.holds_of_wide 9 Try.f9 rfl rfl rfl rfl rfl rfl rfl ⟨rfl, rfl, rfl, rfl, rfl⟩ rfl rfl rfl rfl rfl (by kernel_rfl) Try.func9 (by kernel_rfl)
    (of_decide_eq_true (by kernel_rfl)) (by unfold Func.isWrapper; first | (rw [if_pos (by decide +kernel)]; kernel_rfl) | (rw [if_neg (by decide +kernel)]; exact ⟨rfl, rfl⟩))
    (fun os started H enc _ => lifted os started H enc)
end Go.Proofs.Ytopiddlijlcbbaa.L07
