/- SpanTimes (P4.1): for every two spans and every time: it lies in what they have in common just if it lies in both, and in one of the spans that are left of the first just if it lies in the first alone. No condition. -/
import Derived.Test.YtoikhgldffgelaaPk
import Derived.Test.YtoikhgldffgelaaBlaw
namespace Go.Proofs.Ytoikhgldffgelaa.L02
open Go.RowKit Go.ChangeShapes Go.WideShapes Go.ChangeAt
set_option linter.unusedVariables false

theorem one_if {α : Type} (l : List α) (p : α → Bool) (b : Bool) (h1 : (l.filter p).length ≤ 1) (h2 : l.any p = b) : (l.filter p).length = if b = true then 1 else 0 := by
  subst h2
  by_cases h : l.any p = true
  · rw [if_pos h]
    obtain ⟨x, hx, hp⟩ := List.any_eq_true.1 h
    have : 0 < (l.filter p).length := List.length_pos_iff.2 (fun e => by have : x ∈ l.filter p := List.mem_filter.2 ⟨hx, hp⟩; rw [e] at this; cases this)
    omega
  · rw [if_neg h]
    have : l.filter p = [] := List.filter_eq_nil_iff.2 (fun x hx hp => h (List.any_eq_true.2 ⟨x, hx, hp⟩))
    rw [this]; rfl
theorem flt_snoc {α : Type} (l : List α) (p : α → Bool) (k : Nat) (h : k < l.length) : ((l.take (k + 1)).filter p).length = ((l.take k).filter p).length + if p l[k] = true then 1 else 0 := by
  rw [List.take_succ_eq_append_getElem h, List.filter_append, List.length_append]
  congr 1
  by_cases h1 : p l[k] = true <;> simp [h1]

set_option maxHeartbeats 4000000 in
theorem walk (s t : Sp) (u : Int) (U : World) : Calls Try.prog 4 #[spV s, spV t, .int .i64 u] U fun e W' => e = .returned (.bool true) ∧ Below U.heap.size U W' := by
  have M1 := Lib.hid (fun w => p_meet s t w)
  have N1 := Lib.hid (fun w => p_minus s t w)
  have HA := Lib.hid (fun w => p_has s u w)
  have HB := Lib.hid (fun w => p_has t u w)
  have HM := Lib.hid (fun w => p_has (meetF s t).1 u w)
  have HX := Lib.hid (fun x w => p_has x u w)
  have MH := Lib.hid (meet_has s t u)
  have KEY := Lib.hid (one_if (minusF s t) (fun m => hasB m u) (hasB s u && !hasB t u) (minus_one s t u) (minus_has s t u))
  obtain ⟨a1, a2⟩ := s
  obtain ⟨b1, b2⟩ := t
  have hsp : ∀ x : Sp, spV x = .agg #[.int .i64 x.1, .int .i64 x.2] := fun _ => rfl
  simp only [hsp] at M1 N1 HA HB HM HX
  rw [hsp, hsp]
  clear hsp
  have hml := minus_len (a1, a2) (b1, b2)
  generalize meetF (a1, a2) (b1, b2) = r at *
  obtain ⟨⟨m1, m2⟩, z⟩ := r
  generalize minusF (a1, a2) (b1, b2) = ms at *
  generalize hasB (a1, a2) u = ha at *
  generalize hasB (b1, b2) u = hb at *
  simp only at HM MH
  generalize hasB (m1, m2) u = hm at *
  have BA := Lib.hid ((Box.new U #[.int .i64 a1, .int .i64 a2] 23 _ rfl).alloc (.cells #[.int .i64 b1, .int .i64 b2] 23))
  have BB := Lib.hid (Box.new (U.alloc (.cells #[.int .i64 a1, .int .i64 a2] 23)) #[.int .i64 b1, .int .i64 b2] 23 (U.heap.size + 1) (by simp))
  have G := Lib.hid (((Below.refl U.heap.size U).alloc (Nat.le_refl _) (.cells #[.int .i64 a1, .int .i64 a2] 23)).alloc (by simp) (.cells #[.int .i64 b1, .int .i64 b2] 23))
  go_enter Try.func4, Try.ntmps4
  go_wp2_with fail
  generalize (U.alloc (.cells #[.int .i64 a1, .int .i64 a2] 23)).alloc (.cells #[.int .i64 b1, .int .i64 b2] 23) = w0 at *
  refine (M1.out _).mono ?_
  rintro e w1 ⟨rfl, hb1⟩
  have hbx := hb1.alloc hb1.size (.cells #[.int .i64 m1, .int .i64 m2] 23)
  have BM := Lib.hid (Box.new w1 #[.int .i64 m1, .int .i64 m2] 23 _ rfl)
  clear hb1
  have BA := Lib.hid (BA.out.later hbx)
  have BB := Lib.hid (BB.out.later hbx)
  have G := Lib.hid (G.out.trans (hbx.mono G.out.size))
  clear hbx
  have ca0 := BA.out.cell 0 (.int .i64 a1) rfl
  have ca1 := BA.out.cell 1 (.int .i64 a2) rfl
  generalize hw1 : w1.alloc (.cells #[.int .i64 m1, .int .i64 m2] 23) = wm at *
  go_wp2_with fail
  clear hw1
  refine (HA.out _).mono ?_
  rintro e w2 ⟨rfl, hb2⟩
  clear ca0 ca1
  have BA := Lib.hid (BA.out.later hb2)
  have BB := Lib.hid (BB.out.later hb2)
  have BM := Lib.hid (BM.out.later hb2)
  have G := Lib.hid (G.out.trans (hb2.mono G.out.size))
  clear hb2
  cases ha <;> cases hb <;> cases z
  case' false.false.false =>
    have KEY := Lib.hid (show (ms.filter fun m => hasB m u).length = 0 from KEY.out.trans rfl)
    have ca0 := BA.out.cell 0 (.int .i64 a1) rfl
    have ca1 := BA.out.cell 1 (.int .i64 a2) rfl
    have cb0 := BB.out.cell 0 (.int .i64 b1) rfl
    have cb1 := BB.out.cell 1 (.int .i64 b2) rfl
    clear BM
    go_wp2_with fail
  case' false.false.true =>
    have KEY := Lib.hid (show (ms.filter fun m => hasB m u).length = 0 from KEY.out.trans rfl)
    have e1 : hm = false := by simpa using MH.out
    subst e1
    have cm0 := BM.out.cell 0 (.int .i64 m1) rfl
    have cm1 := BM.out.cell 1 (.int .i64 m2) rfl
    go_wp2_with fail
    refine (HM.out _).mono ?_
    rintro e w3 ⟨rfl, hb3⟩
    clear cm0 cm1
    have BA := Lib.hid (BA.out.later hb3)
    have BB := Lib.hid (BB.out.later hb3)
    have G := Lib.hid (G.out.trans (hb3.mono G.out.size))
    clear hb3
    have ca0 := BA.out.cell 0 (.int .i64 a1) rfl
    have ca1 := BA.out.cell 1 (.int .i64 a2) rfl
    have cb0 := BB.out.cell 0 (.int .i64 b1) rfl
    have cb1 := BB.out.cell 1 (.int .i64 b2) rfl
    go_wp2_with fail
  case' false.true.false =>
    have KEY := Lib.hid (show (ms.filter fun m => hasB m u).length = 0 from KEY.out.trans rfl)
    have ca0 := BA.out.cell 0 (.int .i64 a1) rfl
    have ca1 := BA.out.cell 1 (.int .i64 a2) rfl
    have cb0 := BB.out.cell 0 (.int .i64 b1) rfl
    have cb1 := BB.out.cell 1 (.int .i64 b2) rfl
    clear BM
    go_wp2_with fail
  case' false.true.true =>
    have KEY := Lib.hid (show (ms.filter fun m => hasB m u).length = 0 from KEY.out.trans rfl)
    have e1 : hm = false := by simpa using MH.out
    subst e1
    have cm0 := BM.out.cell 0 (.int .i64 m1) rfl
    have cm1 := BM.out.cell 1 (.int .i64 m2) rfl
    go_wp2_with fail
    refine (HM.out _).mono ?_
    rintro e w3 ⟨rfl, hb3⟩
    clear cm0 cm1
    have BA := Lib.hid (BA.out.later hb3)
    have BB := Lib.hid (BB.out.later hb3)
    have G := Lib.hid (G.out.trans (hb3.mono G.out.size))
    clear hb3
    have ca0 := BA.out.cell 0 (.int .i64 a1) rfl
    have ca1 := BA.out.cell 1 (.int .i64 a2) rfl
    have cb0 := BB.out.cell 0 (.int .i64 b1) rfl
    have cb1 := BB.out.cell 1 (.int .i64 b2) rfl
    go_wp2_with fail
  case' true.false.false =>
    have KEY := Lib.hid (show (ms.filter fun m => hasB m u).length = 1 from KEY.out.trans rfl)
    have cb0 := BB.out.cell 0 (.int .i64 b1) rfl
    have cb1 := BB.out.cell 1 (.int .i64 b2) rfl
    go_wp2_with fail
    refine (HB.out _).mono ?_
    rintro e w2 ⟨rfl, hb2⟩
    clear cb0 cb1
    have BA := Lib.hid (BA.out.later hb2)
    have BB := Lib.hid (BB.out.later hb2)
    have BM := Lib.hid (BM.out.later hb2)
    have G := Lib.hid (G.out.trans (hb2.mono G.out.size))
    clear hb2
    have ca0 := BA.out.cell 0 (.int .i64 a1) rfl
    have ca1 := BA.out.cell 1 (.int .i64 a2) rfl
    have cb0 := BB.out.cell 0 (.int .i64 b1) rfl
    have cb1 := BB.out.cell 1 (.int .i64 b2) rfl
    clear BM
    go_wp2_with fail
  case' true.false.true =>
    have KEY := Lib.hid (show (ms.filter fun m => hasB m u).length = 1 from KEY.out.trans rfl)
    have cb0 := BB.out.cell 0 (.int .i64 b1) rfl
    have cb1 := BB.out.cell 1 (.int .i64 b2) rfl
    go_wp2_with fail
    refine (HB.out _).mono ?_
    rintro e w2 ⟨rfl, hb2⟩
    clear cb0 cb1
    have BA := Lib.hid (BA.out.later hb2)
    have BB := Lib.hid (BB.out.later hb2)
    have BM := Lib.hid (BM.out.later hb2)
    have G := Lib.hid (G.out.trans (hb2.mono G.out.size))
    clear hb2
    have e1 : hm = false := by simpa using MH.out
    subst e1
    have cm0 := BM.out.cell 0 (.int .i64 m1) rfl
    have cm1 := BM.out.cell 1 (.int .i64 m2) rfl
    go_wp2_with fail
    refine (HM.out _).mono ?_
    rintro e w3 ⟨rfl, hb3⟩
    clear cm0 cm1
    have BA := Lib.hid (BA.out.later hb3)
    have BB := Lib.hid (BB.out.later hb3)
    have G := Lib.hid (G.out.trans (hb3.mono G.out.size))
    clear hb3
    have ca0 := BA.out.cell 0 (.int .i64 a1) rfl
    have ca1 := BA.out.cell 1 (.int .i64 a2) rfl
    have cb0 := BB.out.cell 0 (.int .i64 b1) rfl
    have cb1 := BB.out.cell 1 (.int .i64 b2) rfl
    go_wp2_with fail
  case' true.true.true =>
    have KEY := Lib.hid (show (ms.filter fun m => hasB m u).length = 0 from KEY.out.trans rfl)
    have cb0 := BB.out.cell 0 (.int .i64 b1) rfl
    have cb1 := BB.out.cell 1 (.int .i64 b2) rfl
    go_wp2_with fail
    refine (HB.out _).mono ?_
    rintro e w2 ⟨rfl, hb2⟩
    clear cb0 cb1
    have BA := Lib.hid (BA.out.later hb2)
    have BB := Lib.hid (BB.out.later hb2)
    have BM := Lib.hid (BM.out.later hb2)
    have G := Lib.hid (G.out.trans (hb2.mono G.out.size))
    clear hb2
    have e1 : hm = true := by simpa using MH.out
    subst e1
    have cm0 := BM.out.cell 0 (.int .i64 m1) rfl
    have cm1 := BM.out.cell 1 (.int .i64 m2) rfl
    go_wp2_with fail
    refine (HM.out _).mono ?_
    rintro e w3 ⟨rfl, hb3⟩
    clear cm0 cm1
    have BA := Lib.hid (BA.out.later hb3)
    have BB := Lib.hid (BB.out.later hb3)
    have G := Lib.hid (G.out.trans (hb3.mono G.out.size))
    clear hb3
    have ca0 := BA.out.cell 0 (.int .i64 a1) rfl
    have ca1 := BA.out.cell 1 (.int .i64 a2) rfl
    have cb0 := BB.out.cell 0 (.int .i64 b1) rfl
    have cb1 := BB.out.cell 1 (.int .i64 b2) rfl
    go_wp2_with fail
  case' true.true.false => exact absurd MH.out (by simp)
  all_goals
    refine (N1.out _).mono ?_
    rintro e w4 ⟨v1, rfl, ho1, hb4⟩
    clear ca0 ca1 cb0 cb1
    have R1 := Lib.hid ho1.rd
    clear ho1
    have BA := Lib.hid (BA.out.later hb4)
    have BB := Lib.hid (BB.out.later hb4)
    have G := Lib.hid (G.out.trans (hb4.mono G.out.size))
    clear hb4
    obtain ⟨A1, c1, e1, -⟩ := R1.out
    subst e1
    go_wp2_with fail
    go_loopw [11, 12] (fun n i wr => ∃ k : Nat, i = .int .i64 k ∧ k ≤ ms.length ∧ n = .int .i64 (((ms.take k).filter fun m => hasB m u).length : Nat) ∧ Below w4.heap.size w4 wr) (fun _ i _ => ms.length - (intOf i).toNat)
    case atStart => exact ⟨0, rfl, Nat.zero_le _, rfl, Below.refl _ _⟩
    case round =>
      obtain ⟨k, rfl, hk, rfl, hb⟩ := hrel
      have GW := Lib.hid hb
      clear hb
      by_cases hlt : k < ms.length
      · obtain ⟨ba, oa, rfl, hba, c0, d0⟩ := RdSp.here (R1.out.below GW.out) k hlt
        have FS := Lib.hid (flt_snoc ms (fun m => hasB m u) k hlt)
        have hcl : ((ms.take k).filter fun m => hasB m u).length ≤ k := Nat.le_trans (List.length_filter_le _ _) (List.length_take_le _ _)
        generalize ((ms.take k).filter fun m => hasB m u).length = cnt at *
        (try simp only at FS)
        have HK := Lib.hid (HX.out ms[k])
        generalize ms[k] = x at *
        obtain ⟨x1, x2⟩ := x
        go_wp2_with fail
        refine (HK.out _).mono ?_
        rintro e w5 ⟨rfl, hb5⟩
        have GW := Lib.hid (GW.out.trans (hb5.mono GW.out.size))
        clear hb5 c0 d0
        cases hx : hasB (x1, x2) u
        · have FS := Lib.hid (show ((ms.take (k + 1)).filter fun m => hasB m u).length = cnt from by rw [FS.out, hx]; rfl)
          clear hx
          go_wp2_with fail
          go_roundw
          case rel => exact ⟨k + 1, by go_num, by omega, by rw [FS.out], GW.out⟩
          case measure => simp [intOf]; omega
        · have FS := Lib.hid (show ((ms.take (k + 1)).filter fun m => hasB m u).length = cnt + 1 from by rw [FS.out, hx]; rfl)
          clear hx
          go_wp2_with fail
          go_roundw
          case rel => exact ⟨k + 1, by go_num, by omega, by rw [FS.out]; go_num, GW.out⟩
          case measure => simp [intOf]; omega
      · have hke : ms.take k = ms := List.take_of_length_le (by omega)
        rw [hke, KEY.out]
        have BA := Lib.hid (BA.out.later GW.out)
        have BB := Lib.hid (BB.out.later GW.out)
        have G := Lib.hid (G.out.trans (GW.out.mono G.out.size))
        have ca0 := BA.out.cell 0 (.int .i64 a1) rfl
        have ca1 := BA.out.cell 1 (.int .i64 a2) rfl
        clear hke KEY GW
        go_wp2_with fail
        refine (HA.out _).mono ?_
        rintro e w6 ⟨rfl, hb6⟩
        clear ca0 ca1
        have BB := Lib.hid (BB.out.later hb6)
        have G := Lib.hid (G.out.trans (hb6.mono G.out.size))
        clear hb6
        first
          | (go_wp2_with fail
             refine (lives_any _).mono ?_
             rintro e w8 ⟨rfl, hb8⟩
             have G := Lib.hid (G.out.trans (hb8.mono G.out.size))
             clear hb8
             go_wp2_with fail
             go_ret
             exact ⟨rfl, G.out⟩)
          | (have cb0 := BB.out.cell 0 (.int .i64 b1) rfl
             have cb1 := BB.out.cell 1 (.int .i64 b2) rfl
             go_wp2_with fail
             refine (HB.out _).mono ?_
             rintro e w7 ⟨rfl, hb7⟩
             have G := Lib.hid (G.out.trans (hb7.mono G.out.size))
             clear hb7 cb0 cb1
             go_wp2_with fail
             refine (lives_any _).mono ?_
             rintro e w8 ⟨rfl, hb8⟩
             have G := Lib.hid (G.out.trans (hb8.mono G.out.size))
             clear hb8
             go_wp2_with fail
             go_ret
             exact ⟨rfl, G.out⟩)
-- END
set_option maxRecDepth 100000 in
theorem lifted (os : Os) (started : os.Started) (H : Type) (enc : TypeId × Value → H) :
    ReturnsInHanded {} Try.checked os 4 .any (Rows.spanTimesSpec.pre6 enc Try.prog Try.f4 Rows.spanTimesRow.domain false) (Rows.spanTimesSpec.post enc Try.prog Try.f4 false true false false) := by
  refine returnsInHanded_of_change (C := Try.checked) Try.own started (by kernel_rfl) Try.func4
    (ChangeSpec.witness6 (enc := enc) (C := Try.checked) false ⟨#[], #[.agg #[.int .i64 0, .int .i64 0], .agg #[.int .i64 0, .int .i64 0], .int .i64 0], []⟩ 8 (by kernel_rfl) (by kernel_rfl) (by kernel_rfl) (by kernel_rfl)) ?_
  intro W base args ds gs before hval0 hW _ _
  have hval : ∀ (j : Nat) t v, Try.f4.params[j]? = some t → args[j]? = some v → Value.okWide Try.prog W .any base t v := hval0
  have hW' := hW
  obtain ⟨p, q, hA0, hV, rfl, _, _⟩ := hW
  have hA : DataW.TrodAll enc Try.prog W 0 (fun _ => true) true Try.f4.params.toList args.toList ds p := hA0
  rw [Try.params4] at hA hval
  obtain ⟨v0, v1, v2, d0, d1, d2, p0, p1, p2, rfl, rfl, rfl, h0, h1, h2⟩ := trodAll_three hA
  obtain ⟨rfl, rfl⟩ := trodVars_none hV
  obtain ⟨a0, rfl, w0, x0⟩ := open_sp (hval 0 _ v0 rfl rfl) h0
  obtain ⟨a1, rfl, w1, x1⟩ := open_sp (hval 1 _ v1 rfl rfl) h1
  obtain ⟨a2, rfl, rfl, rfl, w2⟩ := open_int Try.underlying3 (hval 2 _ v2 rfl rfl) h2
  have w2 := wf_int w2
  refine (walk a0 a1 a2 W).mono fun e W' ⟨he, hb⟩ => ⟨_, he, ?_⟩
  exact law_post Try.laidOut (by decide +kernel) rfl Try.underlying4 rfl hW' rfl hb

theorem holds : Rows.SpanTimesSaid :=
  OpenClaim.holds_of_wide 4 Try.f4 rfl rfl rfl rfl rfl rfl rfl ⟨rfl, rfl, rfl, rfl, rfl⟩ rfl rfl rfl rfl rfl (by kernel_rfl) Try.func4 (by kernel_rfl)
    (of_decide_eq_true (by kernel_rfl)) (by unfold Func.isWrapper; first | (rw [if_pos (by decide +kernel)]; kernel_rfl) | (rw [if_neg (by decide +kernel)]; exact ⟨rfl, rfl⟩))
    (fun os started H enc _ => lifted os started H enc)
end Go.Proofs.Ytoikhgldffgelaa.L02
