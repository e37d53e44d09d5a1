/- SpanLast (P4.4): for every list of pieces and every time: what is told of the time, when the first 12 are put one over the other, is at each step what was put over it last, and the pieces are in order. No condition. -/
import Derived.Test.YtoikhgldffgelaaPk
import Derived.Test.YtoikhgldffgelaaBlaw
namespace Go.Proofs.Ytoikhgldffgelaa.L05
open Go.RowKit Go.ChangeShapes Go.WideShapes Go.ChangeAt
set_option linter.unusedVariables false

theorem pow12 {k n : Nat} (h : n + 1 ≤ 2 ^ k) (hk : k ≤ 12) : n ≤ 4096 := by
  have := Nat.pow_le_pow_right (show 0 < 2 from by decide) hk
  have h2 : (2 : Nat) ^ 12 = 4096 := by decide
  omega

set_option maxHeartbeats 4000000 in
theorem walk (v : Value) (l : List Pc) (u : Int) (U : World) (h : RdPc U U.heap.size v l) : Calls Try.prog 7 #[v, .int .i64 u] U fun e W' => e = .returned (.bool true) ∧ Below U.heap.size U W' := by
  have H := Lib.hid h
  obtain ⟨A, c, rfl, hlc, hc, -⟩ := h
  go_enter Try.func7, Try.ntmps7
  go_wp2_with fail
  go_loopw [5, 6, 7, 8] (fun x wa is i wr => ∃ (k : Nat) (o : List Pc) (r : ByteArray × Bool), i = .int .i64 k ∧ k ≤ l.length ∧ k ≤ 12 ∧ o.length + 1 ≤ 2 ^ k ∧ OwnPc wr U.heap.size x o ∧ wa = .string r.1 ∧ is = .bool r.2 ∧ r = atF o u ∧ ordB o = true ∧ Below U.heap.size U wr) (fun _ _ _ i _ => l.length - (intOf i).toNat)
  case atStart => exact ⟨0, [], (⟨#[]⟩, false), rfl, Nat.zero_le _, Nat.zero_le _, by simp, OwnX.nil _ _, rfl, rfl, rfl, rfl, Below.refl _ _⟩
  case round =>
    obtain ⟨k, o, r, rfl, hk, hk12, hpw, ho, rfl, rfl, hr, hord, hb⟩ := hrel
    have O := Lib.hid ho
    have G := Lib.hid hb
    have PW := Lib.hid hpw
    have R := Lib.hid hr
    have OR := Lib.hid hord
    obtain ⟨r1, r2⟩ := r
    clear ho hb hpw hr hord
    by_cases hlt : k < l.length
    · by_cases h12 : k < 12
      · obtain ⟨ba, oa, rfl, hba, c0, c1, c2⟩ := RdPc.here (H.out.below G.out) k hlt
        have hol : o.length ≤ 4096 := pow12 PW.out hk12
        generalize l[k] = p at *
        have CU := Lib.hid (ref_cut p wr)
        have hov := over_len o (cutP p)
        have hor := ord_over (cutP p) OR.out
        have hat := at_over o (cutP p) u
        have OV := Lib.hid (fun x w hx => p_over x o (cutP p) w hx (by omega))
        have HS := Lib.hid (fun w => p_has (cutP p).1 u w)
        have hpw2 : (overF o (cutP p)).length + 1 ≤ 2 ^ (k + 1) := by
          have := PW.out
          rw [Nat.pow_succ]; omega
        have PW2 := Lib.hid hpw2
        have OR2 := Lib.hid hor
        have AT := Lib.hid hat
        have PA := Lib.hid (fun x w hx => p_at x (overF o (cutP p)) u w hx)
        have RO := Lib.hid (fun x w hx => ref_ordered x (overF o (cutP p)) w hx)
        rw [hor] at RO
        clear hov hor hat hpw2
        generalize overF o (cutP p) = o2 at *
        generalize cutP p = q at *
        obtain ⟨⟨p1, p2⟩, p3⟩ := p
        obtain ⟨⟨q1, q2⟩, q3⟩ := q
        unfold pcV at CU OV
        unfold spV at HS
        go_wp2_with fail
        refine CU.out.mono ?_
        rintro e w1 ⟨rfl, hb1⟩
        have hbx := hb1.alloc hb1.size (.cells #[.int .i64 q1, .int .i64 q2, .string q3] 34)
        have BX := Lib.hid (Box.new w1 #[.int .i64 q1, .int .i64 q2, .string q3] 34 _ rfl)
        have O := Lib.hid (O.out.on hbx)
        have G := Lib.hid (G.out.trans (hbx.mono G.out.size))
        clear hb1 hbx c0 c1 c2
        have d0 := BX.out.cell 0 (.int .i64 q1) rfl
        have d1 := BX.out.cell 1 (.int .i64 q2) rfl
        have d2 := BX.out.cell 2 (.string q3) rfl
        generalize hw1 : w1.alloc (.cells #[.int .i64 q1, .int .i64 q2, .string q3] 34) = wx at *
        go_wp2_with fail
        clear hw1
        refine (OV.out _ _ O.out.rd).mono ?_
        rintro e w2 ⟨v2, rfl, ho2, hb2⟩
        have BX := Lib.hid (BX.out.later hb2)
        have O2 := Lib.hid (ho2.mono G.out.size)
        have G := Lib.hid (G.out.trans (hb2.mono G.out.size))
        clear ho2 hb2 d0 d1 d2 O
        have d0 := BX.out.cell 0 (.int .i64 q1) rfl
        have d1 := BX.out.cell 1 (.int .i64 q2) rfl
        go_wp2_with fail
        refine (HS.out _).mono ?_
        rintro e w3 ⟨rfl, hb3⟩
        have BX := Lib.hid (BX.out.later hb3)
        have O2 := Lib.hid (O2.out.on hb3)
        have G := Lib.hid (G.out.trans (hb3.mono G.out.size))
        clear hb3 d0 d1
        have d2 := BX.out.cell 2 (.string q3) rfl
        cases hs : hasB (q1, q2) u
        case' false => have AT := Lib.hid (show atF o2 u = (r1, r2) from by rw [AT.out, if_neg (by simp [hs]), R.out])
        case' true => have AT := Lib.hid (show atF o2 u = (q3, true) from by rw [AT.out, if_pos (by simp [hs])])
        all_goals
          rw [AT.out] at PA
          clear hs R
          go_wp2_with fail
          refine (PA.out _ _ O2.out.rd).mono ?_
          rintro e w4 ⟨rfl, hb4⟩
          have O2 := Lib.hid (O2.out.on hb4)
          have G := Lib.hid (G.out.trans (hb4.mono G.out.size))
          clear hb4 d2
          go_wp2_with fail
          refine (RO.out _ _ O2.out.rd).mono ?_
          rintro e w5 ⟨rfl, hb5⟩
          have O2 := Lib.hid (O2.out.on hb5)
          have G := Lib.hid (G.out.trans (hb5.mono G.out.size))
          clear hb5
          go_wp2_with fail
          go_roundw
          all_goals first
            | exact ⟨k + 1, o2, _, by go_num, by omega, by omega, PW2.out, O2.out, rfl, rfl, AT.out.symm, OR2.out, G.out⟩
            | (simp [intOf]; omega)
      · go_wp2_with fail
        refine (lives_any _).mono ?_
        rintro e w9 ⟨rfl, hb9⟩
        have G := Lib.hid (G.out.trans (hb9.mono G.out.size))
        clear hb9
        go_wp2_with fail
        go_ret
        exact ⟨rfl, G.out⟩
    · go_wp2_with fail
      refine (lives_any _).mono ?_
      rintro e w9 ⟨rfl, hb9⟩
      have G := Lib.hid (G.out.trans (hb9.mono G.out.size))
      clear hb9
      go_wp2_with fail
      go_ret
      exact ⟨rfl, G.out⟩
-- END
set_option maxRecDepth 100000 in
theorem lifted (os : Os) (started : os.Started) (H : Type) (enc : TypeId × Value → H) :
    ReturnsInHanded {} Try.checked os 7 .any (Rows.spanLastSpec.pre6 enc Try.prog Try.f7 Rows.spanLastRow.domain false) (Rows.spanLastSpec.post enc Try.prog Try.f7 false true false false) := by
  refine returnsInHanded_of_change (C := Try.checked) Try.own started (by kernel_rfl) Try.func7
    (ChangeSpec.witness6 (enc := enc) (C := Try.checked) false ⟨#[], #[.slice none 0 0, .int .i64 0], []⟩ 8 (by kernel_rfl) (by kernel_rfl) (by kernel_rfl) (by kernel_rfl)) ?_
  intro W base args ds gs before hval0 hW _ _
  have hval : ∀ (j : Nat) t v, Try.f7.params[j]? = some t → args[j]? = some v → Value.okWide Try.prog W .any base t v := hval0
  have hW' := hW
  obtain ⟨p, q, hA0, hV, rfl, _, _⟩ := hW
  have hA : DataW.TrodAll enc Try.prog W 0 (fun _ => true) true Try.f7.params.toList args.toList ds p := hA0
  rw [Try.params7] at hA hval
  obtain ⟨v0, v1, d0, d1, p0, p1, rfl, rfl, rfl, h0, h1⟩ := trodAll_two hA
  obtain ⟨rfl, rfl⟩ := trodVars_none hV
  have hlt := fun x hx => hW'.lt x hx
  obtain ⟨a0, r0, b0⟩ := open_pcs (hval 0 _ v0 rfl rfl) h0 (fun x hx => by simpa using hlt x (by simp [hx]))
  obtain ⟨a1, rfl, rfl, rfl, w1⟩ := open_int Try.underlying3 (hval 1 _ v1 rfl rfl) h1
  have w1 := wf_int w1
  refine (walk v0 a0 a1 W r0).mono fun e W' ⟨he, hb⟩ => ⟨_, he, ?_⟩
  exact law_post Try.laidOut (by decide +kernel) rfl Try.underlying4 rfl hW' rfl hb

theorem holds : Rows.SpanLastSaid :=
  OpenClaim.holds_of_wide 7 Try.f7 rfl rfl rfl rfl rfl rfl rfl ⟨rfl, rfl, rfl, rfl, rfl⟩ rfl rfl rfl rfl rfl (by kernel_rfl) Try.func7 (by kernel_rfl)
    (of_decide_eq_true (by kernel_rfl)) (by unfold Func.isWrapper; first | (rw [if_pos (by decide +kernel)]; kernel_rfl) | (rw [if_neg (by decide +kernel)]; exact ⟨rfl, rfl⟩))
    (fun os started H enc _ => lifted os started H enc)
end Go.Proofs.Ytoikhgldffgelaa.L05
