/- TreeCommon: the nearest branch of two is one of both paths, and of itself and itself it is itself; 0 is one of every path: any branches that may be (made of the first 7), any two. No conditions. -/
import Derived.Test.YtopiddlijlcbbaaQk
import Derived.Test.YtopiddlijlcbbaaTc
import Derived.Test.YtopiddlijlcbbaaTd
namespace Go.Proofs.Ytopiddlijlcbbaa.L06
open Go.RowKit Go.ChangeShapes Go.WideShapes Go.ChangeAt
set_option linter.unusedVariables false

theorem first_nil : ∀ p : List (Int × Int), firstIn [] p = -1
  | [] => rfl
  | g :: r => by rw [firstIn, if_neg (by simp)]; exact first_nil r
theorem common_none {N : List Br} {a b : Int} (h : ¬ (0 ≤ a ∧ a < N.length ∧ 0 ≤ b ∧ b < N.length)) : commonT N a b = -1 := by
  unfold commonT
  by_cases ha : 0 ≤ a ∧ a < N.length
  · rw [path_none (l := N) (b := b) (by rintro ⟨h1, h2, h3⟩; exact h ⟨ha.1, ha.2, h2, h3⟩)]
    exact first_nil _
  · rw [path_none (l := N) (b := a) (by rintro ⟨h1, h2, h3⟩; exact ha ⟨h2, h3⟩)]
    rfl
theorem any_take {p : List (Int × Int)} {j : Nat} (hj : j < p.length) {x y : Int} (hx : p[j] = (x, y)) (c : Int) : ((p.take (j + 1)).any fun g => g.1 == c) = (((p.take j).any fun g => g.1 == c) || x == c) := by
  rw [List.take_succ_eq_append_getElem hj, List.any_append, hx]
  simp
set_option maxHeartbeats 4000000 in
set_option maxRecDepth 100000 in
theorem walk0 (KP : PathK) (KL : LiveK) (KC : CommonK) (v : Value) (l : List Br) (a b : Int) (w : World) (h : RdX brL w w.heap.size v l) (hok : OkBr l) :
    Calls Try.prog 8 #[v, .int .i64 a, .int .i64 b] w fun z w' => z = .returned (.bool true) ∧ Below w.heap.size w w' := by
  have LV := Lib.hid (law11_lives KP KL)
  have KC := Lib.hid KC
  have KP := Lib.hid KP
  have GD := Lib.hid (ref_good v l _ h hok)
  have HMAY := Lib.hid (good_may l)
  obtain ⟨A, ca, rfl, -⟩ := h
  clear hok
  generalize goodT l = N at *
  go_enter Try.func8, Try.ntmps8
  go_wp2_with fail
  refine GD.out.mono ?_
  rintro z w1 ⟨v1, rfl, ho1, hb1⟩
  have R := Lib.hid ho1.rd
  have G := Lib.hid hb1
  obtain ⟨A1, c1, e1, -⟩ := ho1.rd
  subst e1
  clear ho1 hb1 GD
  go_wp2_with fail
  refine (KC.out _ N a b _ R.out).mono ?_
  rintro z w2 ⟨rfl, hb2⟩
  have R := Lib.hid (R.out.on hb2)
  have G := Lib.hid (G.out.trans (hb2.mono G.out.size))
  clear hb2
  by_cases hin : 0 ≤ a ∧ a < (N.length : Int) ∧ 0 ≤ b ∧ b < (N.length : Int)
  · obtain ⟨i, rfl⟩ : ∃ i : Nat, a = (i : Int) := ⟨a.toNat, by omega⟩
    obtain ⟨k, rfl⟩ : ∃ k : Nat, b = (k : Int) := ⟨b.toNat, by omega⟩
    have hi : i < N.length := by omega
    have hk : k < N.length := by omega
    have z1 : decide ((i : Int) < 0) = false := by rw [decide_eq_false_iff_not]; omega
    have z2 : decide ((N.length : Int) ≤ (i : Int)) = false := by rw [decide_eq_false_iff_not]; omega
    have z2n : decide (N.length ≤ i) = false := by rw [decide_eq_false_iff_not]; omega
    have z3 : decide ((k : Int) < 0) = false := by rw [decide_eq_false_iff_not]; omega
    have z4 : decide ((N.length : Int) ≤ (k : Int)) = false := by rw [decide_eq_false_iff_not]; omega
    have z4n : decide (N.length ≤ k) = false := by rw [decide_eq_false_iff_not]; omega
    obtain ⟨⟨g1, hg1, he1⟩, ⟨g2, hg2, he2⟩, -⟩ := common_spec HMAY.out hi hk
    have XA := Lib.hid (show ((pathT N i 0).any fun g => g.1 == commonT N i k) = true from List.any_eq_true.2 ⟨g1, hg1, by simpa using he1⟩)
    have XB := Lib.hid (show ((pathT N k 0).any fun g => g.1 == commonT N i k) = true from List.any_eq_true.2 ⟨g2, hg2, by simpa using he2⟩)
    obtain ⟨p', e', hlast⟩ := path_last HMAY.out i 0 hi
    have XL := Lib.hid hlast
    have XS := Lib.hid (common_sides HMAY.out hi hk)
    have XI := Lib.hid (common_self HMAY.out hi)
    have PL := Lib.hid (path_few N i 0)
    have QL := Lib.hid (path_few N k 0)
    have PA := Lib.hid (fun W h => KP.out (.slice A1 N.length c1) N i 0 W h)
    have PB := Lib.hid (fun W h => KP.out (.slice A1 N.length c1) N k 0 W h)
    have CA := Lib.hid (fun W h => KC.out (.slice A1 N.length c1) N i i W h)
    have CB := Lib.hid (fun W h => KC.out (.slice A1 N.length c1) N k i W h)
    rw [XI.out] at CA
    rw [XS.out] at CB
    generalize commonT N (i : Int) (k : Int) = c at *
    generalize pathT N (i : Int) 0 = P at *
    generalize pathT N (k : Int) 0 = Q at *
    clear hin hi hk hg1 hg2 he1 he2 hlast XS XI g1 g2
    go_wp2_with fail
    refine (PA.out _ R.out).mono ?_
    rintro z w3 ⟨v3, rfl, ho3, hb3⟩
    have R := Lib.hid (R.out.on hb3)
    have O1 := Lib.hid ho3.rd
    have G := Lib.hid (G.out.trans (hb3.mono G.out.size))
    obtain ⟨A3, c3, e3, -⟩ := ho3.rd
    subst e3
    clear ho3 hb3 PA
    go_wp2_with fail
    refine (PB.out _ R.out).mono ?_
    rintro z w4 ⟨v4, rfl, ho4, hb4⟩
    have R := Lib.hid (R.out.on hb4)
    have O1 := Lib.hid (O1.out.on hb4)
    have O2 := Lib.hid ho4.rd
    have G := Lib.hid (G.out.trans (hb4.mono G.out.size))
    obtain ⟨A4, c4, e4, -⟩ := ho4.rd
    subst e4
    clear ho4 hb4 PB
    go_wp2_with fail
    clear z1 z2 z2n z3 z4 z4n
    go_loopw [11, 13] (fun x i wr => ∃ j : Nat, i = .int .i64 j ∧ j ≤ P.length ∧ x = .bool ((P.take j).any fun g => g.1 == c) ∧ Below w4.heap.size w4 wr) (fun _ i _ => P.length - (intOf i).toNat)
    case atStart => exact ⟨0, rfl, Nat.zero_le _, by simp, Below.refl _ _⟩
    case round =>
      obtain ⟨j, rfl, hj, rfl, hbw⟩ := hrel
      rename World => wo
      have GW := Lib.hid hbw
      clear hbw
      by_cases hlt : j < P.length
      · have zl : decide ((j : Int) < (P.length : Int)) = true := by simp; omega
        have hji : (j : Int) < (P.length : Int) := by omega
        have hw64 : IntKind.i64.wrap ((j : Int) + 1) = (j : Int) + 1 := by rw [IntKind.wrap_i64]; have := PL.out; omega
        obtain ⟨g, hg⟩ : ∃ g, P[j] = g := ⟨_, rfl⟩
        obtain ⟨x, y⟩ := g
        have HT := Lib.hid (any_take hlt hg c)
        obtain ⟨b1, o1, rfl, -, e0, e1⟩ := RdX.lg (O1.out.below GW.out) j hlt hg
        clear hg
        generalize hcur : ((P.take j).any fun g => g.1 == c) = cur at *
        clear hcur
        cases cur
        · go_wp2_with fail
          go_roundw
          case rel => exact ⟨j + 1, by go_num, by omega, by rw [HT.out]; simp, GW.out⟩
          case measure => simp [intOf]; omega
        · go_wp2_with fail
          go_roundw
          case rel => exact ⟨j + 1, by go_num, by omega, by rw [HT.out]; simp, GW.out⟩
          case measure => simp [intOf]; omega
      · have hjl : j = P.length := by omega
        subst hjl
        have zl : decide ((P.length : Int) < (P.length : Int)) = false := by simp
        rw [List.take_length, XA.out]
        clear hlt hj
        go_wp2_with fail
        clear zl
        go_loopw [12, 14] (fun x i wr => ∃ j : Nat, i = .int .i64 j ∧ j ≤ Q.length ∧ x = .bool ((Q.take j).any fun g => g.1 == c) ∧ Below w4.heap.size w4 wr) (fun _ i _ => Q.length - (intOf i).toNat)
        case atStart => exact ⟨0, rfl, Nat.zero_le _, by simp, GW.out⟩
        case round =>
          obtain ⟨j, rfl, hj, rfl, hbw⟩ := hrel
          rename World => wi
          have GW := Lib.hid hbw
          clear hbw
          by_cases hlt : j < Q.length
          · have zl : decide ((j : Int) < (Q.length : Int)) = true := by simp; omega
            have hji : (j : Int) < (Q.length : Int) := by omega
            have hw64 : IntKind.i64.wrap ((j : Int) + 1) = (j : Int) + 1 := by rw [IntKind.wrap_i64]; have := QL.out; omega
            obtain ⟨g, hg⟩ : ∃ g, Q[j] = g := ⟨_, rfl⟩
            obtain ⟨x, y⟩ := g
            have HT := Lib.hid (any_take hlt hg c)
            obtain ⟨b1, o1, rfl, -, e0, e1⟩ := RdX.lg (O2.out.below GW.out) j hlt hg
            clear hg
            generalize hcur : ((Q.take j).any fun g => g.1 == c) = cur at *
            clear hcur
            cases cur
            · go_wp2_with fail
              go_roundw
              case rel => exact ⟨j + 1, by go_num, by omega, by rw [HT.out]; simp, GW.out⟩
              case measure => simp [intOf]; omega
            · go_wp2_with fail
              go_roundw
              case rel => exact ⟨j + 1, by go_num, by omega, by rw [HT.out]; simp, GW.out⟩
              case measure => simp [intOf]; omega
          · have hjl : j = Q.length := by omega
            subst hjl
            have zl : decide ((Q.length : Int) < (Q.length : Int)) = false := by simp
            rw [List.take_length, XB.out]
            clear hlt hj
            obtain ⟨m, hm⟩ : ∃ m, P.length = m + 1 := ⟨p'.length, by rw [XL.out]; simp⟩
            have HM0 : m < P.length := by omega
            have hmz : P[m]'HM0 = (0, e') := by
              have h1 : P[m]? = some (0, e') := by
                have : m = p'.length := by have h2 := congrArg List.length XL.out; simp at h2; omega
                rw [XL.out, this]; simp
              exact (List.getElem?_eq_some_iff.1 h1).2
            have hwl : IntKind.i64.wrap ((P.length : Int) - 1) = (m : Int) := by rw [IntKind.wrap_i64]; have := PL.out; omega
            have hmi : (m : Int) < (P.length : Int) := by omega
            have HM := Lib.hid (show m < P.length from by omega)
            have HMZ := Lib.hid hmz
            clear hmz hm
            have R := Lib.hid (R.out.on GW.out)
            have O1 := Lib.hid (O1.out.on GW.out)
            have G := Lib.hid (G.out.trans (GW.out.mono G.out.size))
            go_wp2_with fail
            refine (CA.out _ R.out).mono ?_
            rintro z w5 ⟨rfl, hb5⟩
            have R := Lib.hid (R.out.on hb5)
            have O1 := Lib.hid (O1.out.on hb5)
            have G := Lib.hid (G.out.trans (hb5.mono G.out.size))
            clear hb5
            obtain ⟨b1, o1, rfl, -, e0, e1⟩ := RdX.lg O1.out m HM0 HMZ.out
            go_wp2_with fail
            refine (CB.out _ R.out).mono ?_
            rintro z w6 ⟨rfl, hb6⟩
            have G := Lib.hid (G.out.trans (hb6.mono G.out.size))
            clear hb6
            go_wp2_with fail
            refine (LV.out _).mono ?_
            rintro z w8 ⟨rfl, hb⟩
            have G := Lib.hid (G.out.trans (hb.mono G.out.size))
            clear hb
            go_wp2_with fail
            go_ret
            exact ⟨rfl, G.out⟩
  · rw [common_none hin]
    have hor : a < 0 ∨ (¬ a < 0 ∧ (N.length : Int) ≤ a) ∨ (¬ a < 0 ∧ ¬ (N.length : Int) ≤ a ∧ b < 0) ∨ (¬ a < 0 ∧ ¬ (N.length : Int) ≤ a ∧ ¬ b < 0 ∧ (N.length : Int) ≤ b) := by omega
    rcases hor with h1 | ⟨h1, h2⟩ | ⟨h1, h2, h3⟩ | ⟨h1, h2, h3, h4⟩
    case' inl =>
      have z1 : decide (a < 0) = true := by simp; omega
      clear h1
    case' inr.inl =>
      have z1 : decide (a < 0) = false := by rw [decide_eq_false_iff_not]; omega
      have z2 : decide ((N.length : Int) ≤ a) = true := by simp; omega
      clear h1 h2
    case' inr.inr.inl =>
      have z1 : decide (a < 0) = false := by rw [decide_eq_false_iff_not]; omega
      have z2 : decide ((N.length : Int) ≤ a) = false := by rw [decide_eq_false_iff_not]; omega
      have z3 : decide (b < 0) = true := by simp; omega
      clear h1 h2 h3
    case' inr.inr.inr =>
      have z1 : decide (a < 0) = false := by rw [decide_eq_false_iff_not]; omega
      have z2 : decide ((N.length : Int) ≤ a) = false := by rw [decide_eq_false_iff_not]; omega
      have z3 : decide (b < 0) = false := by rw [decide_eq_false_iff_not]; omega
      have z4 : decide ((N.length : Int) ≤ b) = true := by simp; omega
      clear h1 h2 h3 h4
    all_goals
      clear hin
      go_wp2_with fail
      refine (LV.out _).mono ?_
      rintro z w8 ⟨rfl, hb⟩
      have G := Lib.hid (G.out.trans (hb.mono G.out.size))
      clear hb
      go_wp2_with fail
      go_ret
      exact ⟨rfl, G.out⟩
-- END
set_option maxRecDepth 100000 in
theorem lifted (os : Os) (started : os.Started) (H : Type) (enc : TypeId × Value → H) :
    ReturnsInHanded {} Try.checked os 8 .any (Rows.treeCommonSpec.pre6 enc Try.prog Try.f8 Rows.treeCommonRow.domain false) (Rows.treeCommonSpec.post enc Try.prog Try.f8 false true false false) := by
  refine returnsInHanded_of_change (C := Try.checked) Try.own started (by kernel_rfl) Try.func8
    (ChangeSpec.witness6 (enc := enc) (C := Try.checked) false ⟨#[], #[.slice none 0 0, .int .i64 0, .int .i64 0], []⟩ 8 (by kernel_rfl) (by kernel_rfl) (by kernel_rfl) (by kernel_rfl)) ?_
  intro W base args ds gs before hval0 hW _ _
  have hval : ∀ (j : Nat) t v, Try.f8.params[j]? = some t → args[j]? = some v → Value.okWide Try.prog W .any base t v := hval0
  have hW' := hW
  obtain ⟨p, q, hA0, hV, rfl, _, _⟩ := hW
  have hA : DataW.TrodAll enc Try.prog W 0 (fun _ => true) true Try.f8.params.toList args.toList ds p := hA0
  rw [Try.params8] at hA hval
  obtain ⟨v0, v1, v2, d0, d1, d2, p0, p1, p2, rfl, rfl, rfl, h0, h1, h2⟩ := trodAll_three hA
  obtain ⟨rfl, rfl⟩ := trodVars_none hV
  have hlt := fun x hx => hW'.lt x hx
  obtain ⟨a0, r0, b0⟩ := open_brs (hval 0 _ v0 rfl rfl) h0 (fun x hx => by simpa using hlt x (by simp [hx]))
  obtain ⟨a1, rfl, rfl, rfl, w1⟩ := open_int Try.underlying3 (hval 1 _ v1 rfl rfl) h1
  have w1 := wf_int w1
  obtain ⟨a2, rfl, rfl, rfl, w2⟩ := open_int Try.underlying3 (hval 2 _ v2 rfl rfl) h2
  have w2 := wf_int w2
  refine (walk0 path_k live_k common_k v0 a0 a1 a2 _ r0 b0).mono fun e W' ⟨he, hb⟩ => ⟨_, he, ?_⟩
  exact law_post Try.laidOut (by decide +kernel) rfl Try.underlying4 rfl hW' rfl hb

theorem holds : Rows.TreeCommonSaid :=
  OpenClaim.holds_of_wide 8 Try.f8 rfl rfl rfl rfl rfl rfl rfl ⟨rfl, rfl, rfl, rfl, rfl⟩ rfl rfl rfl rfl rfl (by kernel_rfl) Try.func8 (by kernel_rfl)
    (of_decide_eq_true (by kernel_rfl)) (by unfold Func.isWrapper; first | (rw [if_pos (by decide +kernel)]; kernel_rfl) | (rw [if_neg (by decide +kernel)]; exact ⟨rfl, rfl⟩))
    (fun os started H enc _ => lifted os started H enc)
end Go.Proofs.Ytopiddlijlcbbaa.L06
