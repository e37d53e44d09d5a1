/- TreeKids: a branch's branches, whether it is there, and the nearest one of two, are the document's: any branches (the first 20), any two. No conditions. -/
import Derived.Test.YtopiddlijlcbbaaQk
import Derived.Test.YtopiddlijlcbbaaTc
import Derived.Test.YtopiddlijlcbbaaTd
namespace Go.Proofs.Ytopiddlijlcbbaa.L03
open Go.RowKit Go.ChangeShapes Go.WideShapes Go.ChangeAt
set_option linter.unusedVariables false

set_option maxHeartbeats 4000000 in
set_option maxRecDepth 100000 in
theorem walk0 (KP : PathK) (KK : KidsK) (KL : LiveK) (KC : CommonK) (v : Value) (l : List Br) (a b : Int) (w : World) (h : RdX brL w w.heap.size v l) :
    Calls Try.prog 5 #[v, .int .i64 a, .int .i64 b] w fun z w' => z = .returned (.bool true) ∧ Below w.heap.size w w' := by
  have LV := Lib.hid (law11_lives KP KL)
  have FW := Lib.hid (law_few v l w h)
  have KK := Lib.hid KK
  have KC := Lib.hid KC
  have KL := Lib.hid KL
  have ML := Lib.hid (show (l.take 20).length ≤ 1000 from by rw [List.length_take]; omega)
  obtain ⟨A, ca, rfl, -⟩ := h
  clear KP
  generalize l.take 20 = M at *
  go_enter Try.func5, Try.ntmps5
  go_wp2_with fail
  refine FW.out.mono ?_
  rintro z w0 ⟨v1, rfl, hr1, rfl⟩
  have R := Lib.hid hr1
  obtain ⟨A1, c1, rfl, -⟩ := hr1
  clear FW
  go_wp2_with fail
  refine (KK.out _ M a _ R.out ML.out).mono ?_
  rintro z w1 ⟨v2, rfl, ho1, hb1⟩
  have O1 := Lib.hid ho1.rd
  have R := Lib.hid (R.out.on hb1)
  have G := Lib.hid hb1
  obtain ⟨A2, c2, e2, -⟩ := ho1.rd
  subst e2
  clear ho1 hb1
  go_wp2_with fail
  refine (ref_kids _ M a _ R.out ML.out).mono ?_
  rintro z w2 ⟨v3, rfl, ho2, hb2⟩
  have O1 := Lib.hid (O1.out.on hb2)
  have O2 := Lib.hid ho2.rd
  have R := Lib.hid (R.out.on hb2)
  have G := Lib.hid (G.out.trans (hb2.mono G.out.size))
  obtain ⟨A3, c3, e3, -⟩ := ho2.rd
  subst e3
  have PL := Lib.hid (Nat.le_trans (kids_len a M 0) ML.out)
  clear ho2 hb2
  unfold kidsT at *
  generalize kidsFrom a 0 M = P at *
  go_wp2_with fail
  go_loopw [9] (fun i wr => ∃ k : Nat, i = .int .i64 k ∧ k ≤ P.length ∧ Below w2.heap.size w2 wr) (fun i _ => P.length - (intOf i).toNat)
  case atStart => exact ⟨0, rfl, Nat.zero_le _, Below.refl _ _⟩
  case round =>
    obtain ⟨k, rfl, hk, hbw⟩ := hrel
    rename World => wo
    have GW := Lib.hid hbw
    clear hbw
    by_cases hlt : k < P.length
    · have zl : decide ((k : Int) < (P.length : Int)) = true := by simp; omega
      have hki : (k : Int) < (P.length : Int) := by omega
      have hw64 : IntKind.i64.wrap ((k : Int) + 1) = (k : Int) + 1 := by rw [IntKind.wrap_i64]; have := PL.out; omega
      obtain ⟨b1, o1, rfl, -, e0⟩ := (O1.out.below GW.out).at k hlt
      obtain ⟨b2, o2, rfl, -, d0⟩ := (O2.out.below GW.out).at k hlt
      have e0 := e0 0 _ rfl
      have d0 := d0 0 _ rfl
      simp only [show intL.sz = 1 from rfl, Nat.mul_one, Nat.add_zero] at e0 d0
      go_wp2_with fail
      go_quiet (fail)
      have GW := Lib.hid (GW.out.drewN nq)
      go_wp2_with fail
      go_roundw
      case rel => exact ⟨k + 1, by go_num, by omega, GW.out⟩
      case measure => simp [intOf]; omega
    · have hkl : k = P.length := by omega
      subst hkl
      have zl : decide ((P.length : Int) < (P.length : Int)) = false := by simp
      have R := Lib.hid (R.out.on GW.out)
      have G := Lib.hid (G.out.trans (GW.out.mono G.out.size))
      clear hlt O1 O2
      go_wp2_with fail
      refine (ref_may _ M _ R.out).mono ?_
      rintro z w4 ⟨rfl, hb4⟩
      have R := Lib.hid (R.out.on hb4)
      have G := Lib.hid (G.out.trans (hb4.mono G.out.size))
      clear hb4
      have HLV := Lib.hid (show liveT M a = (mayT M && decide (0 ≤ a) && decide (a < M.length) && (match M[a.toNat]? with | some x => !x.drop | none => false)) from rfl)
      have hcc : (commonT M a b == commonT M a b) = true := by simp
      have RC := Lib.hid (fun W (h : RdX brL W W.heap.size (.slice A1 M.length c1) M) => ref_common _ M a b W h)
      have PC := Lib.hid (fun W (h : RdX brL W W.heap.size (.slice A1 M.length c1) M) => KC.out _ M a b W h)
      have PV := Lib.hid (fun W (h : RdX brL W W.heap.size (.slice A1 M.length c1) M) => KL.out _ M a W h)
      generalize commonT M a b = cc at *
      generalize liveT M a = lv at *
      cases hm : mayT M
      case' false =>
        have HX := Lib.hid (show lv = false from by rw [HLV.out, hm]; rfl)
        clear HLV
      case' true =>
        rcases Int.lt_or_le a 0 with h0 | h0
        case' inl =>
          have z1 : decide (0 ≤ a) = false := by rw [decide_eq_false_iff_not]; omega
          have HX := Lib.hid (show lv = false from by rw [HLV.out, hm, z1]; rfl)
          clear HLV h0
        case' inr =>
          obtain ⟨k, rfl⟩ : ∃ k : Nat, a = (k : Int) := ⟨a.toNat, by omega⟩
          have z1 : decide (0 ≤ (k : Int)) = true := by simp
          rcases Nat.lt_or_ge k M.length with hk2 | hk2
          case' inr =>
            have z2 : decide ((k : Int) < (M.length : Int)) = false := by rw [decide_eq_false_iff_not]; omega
            have z2n : decide (k < M.length) = false := by rw [decide_eq_false_iff_not]; omega
            have HX := Lib.hid (show lv = false from by rw [HLV.out, hm, z1, z2]; rfl)
            clear HLV h0 hk2
          case' inl =>
            have z2 : decide ((k : Int) < (M.length : Int)) = true := by simp; omega
            have z2n : decide (k < M.length) = true := by simp; omega
            have hki2 : (k : Int) < (M.length : Int) := by omega
            obtain ⟨x, hx⟩ : ∃ x, M[k] = x := ⟨_, rfl⟩
            obtain ⟨p, f, q, d⟩ := x
            obtain ⟨bb, o, rfl, -, e0, e1, e2, e3⟩ := RdX.br R.out k hk2 hx
            have HX := Lib.hid (show lv = !d from by rw [HLV.out, hm, z1, z2, Int.toNat_natCast, List.getElem?_eq_getElem hk2, hx]; rfl)
            have hdd : (!d == !d) = true := by simp
            clear HLV h0 hk2 hx
      all_goals
        clear hk
        go_wp2_with fail
        refine (PV.out _ R.out).mono ?_
        rintro z w5 ⟨rfl, hb5⟩
        rw [HX.out]
        have R := Lib.hid (R.out.on hb5)
        have G := Lib.hid (G.out.trans (hb5.mono G.out.size))
        clear hb5
        go_wp2_with fail
        refine (PC.out _ R.out).mono ?_
        rintro z w6 ⟨rfl, hb6⟩
        have R := Lib.hid (R.out.on hb6)
        have G := Lib.hid (G.out.trans (hb6.mono G.out.size))
        clear hb6
        go_wp2_with fail
        refine (RC.out _ R.out).mono ?_
        rintro z w7 ⟨rfl, hb7⟩
        have G := Lib.hid (G.out.trans (hb7.mono G.out.size))
        clear hb7
        go_wp2_with fail
        refine (LV.out _).mono ?_
        rintro z w8 ⟨rfl, hb⟩
        have G := Lib.hid (G.out.trans (hb.mono G.out.size))
        clear hb
        go_wp2_with fail
        go_ret
        exact ⟨rfl, G.out⟩
-- END
set_option maxRecDepth 100000 in
theorem lifted (os : Os) (started : os.Started) (H : Type) (enc : TypeId × Value → H) :
    ReturnsInHanded {} Try.checked os 5 .any (Rows.treeKidsSpec.pre6 enc Try.prog Try.f5 Rows.treeKidsRow.domain false) (Rows.treeKidsSpec.post enc Try.prog Try.f5 false true false false) := by
  refine returnsInHanded_of_change (C := Try.checked) Try.own started (by kernel_rfl) Try.func5
    (ChangeSpec.witness6 (enc := enc) (C := Try.checked) false ⟨#[], #[.slice none 0 0, .int .i64 0, .int .i64 0], []⟩ 8 (by kernel_rfl) (by kernel_rfl) (by kernel_rfl) (by kernel_rfl)) ?_
  intro W base args ds gs before hval0 hW _ _
  have hval : ∀ (j : Nat) t v, Try.f5.params[j]? = some t → args[j]? = some v → Value.okWide Try.prog W .any base t v := hval0
  have hW' := hW
  obtain ⟨p, q, hA0, hV, rfl, _, _⟩ := hW
  have hA : DataW.TrodAll enc Try.prog W 0 (fun _ => true) true Try.f5.params.toList args.toList ds p := hA0
  rw [Try.params5] at hA hval
  obtain ⟨v0, v1, v2, d0, d1, d2, p0, p1, p2, rfl, rfl, rfl, h0, h1, h2⟩ := trodAll_three hA
  obtain ⟨rfl, rfl⟩ := trodVars_none hV
  have hlt := fun x hx => hW'.lt x hx
  obtain ⟨a0, r0, b0⟩ := open_brs (hval 0 _ v0 rfl rfl) h0 (fun x hx => by simpa using hlt x (by simp [hx]))
  obtain ⟨a1, rfl, rfl, rfl, w1⟩ := open_int Try.underlying3 (hval 1 _ v1 rfl rfl) h1
  have w1 := wf_int w1
  obtain ⟨a2, rfl, rfl, rfl, w2⟩ := open_int Try.underlying3 (hval 2 _ v2 rfl rfl) h2
  have w2 := wf_int w2
  refine (walk0 path_k kids_k live_k common_k v0 a0 a1 a2 _ r0).mono fun e W' ⟨he, hb⟩ => ⟨_, he, ?_⟩
  exact law_post Try.laidOut (by decide +kernel) rfl Try.underlying4 rfl hW' rfl hb

theorem holds : Rows.TreeKidsSaid :=
  OpenClaim.holds_of_wide 5 Try.f5 rfl rfl rfl rfl rfl rfl rfl ⟨rfl, rfl, rfl, rfl, rfl⟩ rfl rfl rfl rfl rfl (by kernel_rfl) Try.func5 (by kernel_rfl)
    (of_decide_eq_true (by kernel_rfl)) (by unfold Func.isWrapper; first | (rw [if_pos (by decide +kernel)]; kernel_rfl) | (rw [if_neg (by decide +kernel)]; exact ⟨rfl, rfl⟩))
    (fun os started H enc _ => lifted os started H enc)
end Go.Proofs.Ytopiddlijlcbbaa.L03
