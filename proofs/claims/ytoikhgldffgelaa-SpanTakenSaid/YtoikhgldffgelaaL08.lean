/- SpanTaken (P4.2): for every list of pieces, every span and every time: without the span nothing stands at its times, and elsewhere what stood. No condition. -/
import Derived.Test.YtoikhgldffgelaaPk
import Derived.Test.YtoikhgldffgelaaBlaw
namespace Go.Proofs.Ytoikhgldffgelaa.L08
open Go.RowKit Go.ChangeShapes Go.WideShapes Go.ChangeAt
set_option linter.unusedVariables false

theorem made_len (l : List Pc) : (madeF l).length ≤ 255 := made_small l 8 (Nat.le_refl _)

set_option maxHeartbeats 4000000 in
theorem walk (v : Value) (l : List Pc) (s : Sp) (u : Int) (U : World) (h : RdPc U U.heap.size v l) : Calls Try.prog 10 #[v, spV s, .int .i64 u] U fun e W' => e = .returned (.bool true) ∧ Below U.heap.size U W' := by
  have hl := made_len l
  have hat := at_without (madeF l) s u
  have hwl := without_len (madeF l) s
  have MA := Lib.hid (fun w hw => ref_made v l w hw)
  generalize madeF l = m at *
  have W1 := Lib.hid (fun x w hx => p_without x m s w hx (by omega))
  have A1 := Lib.hid (fun x w hx => p_at x m u w hx)
  have A2 := Lib.hid (fun x w hx => p_at x (withoutF m s) u w hx)
  have HS := Lib.hid (fun w => p_has s u w)
  rw [hat] at A2
  generalize withoutF m s = q at *
  generalize atF m u = r at *
  generalize hasB s u = hs at *
  obtain ⟨r1, r2⟩ := r
  obtain ⟨s1, s2⟩ := s
  have hsp : spV (s1, s2) = .agg #[.int .i64 s1, .int .i64 s2] := rfl
  rw [hsp] at W1 HS
  rw [hsp]
  clear hat hsp
  have B := Lib.hid (Box.new U #[.int .i64 s1, .int .i64 s2] 23 _ rfl)
  have G := Lib.hid (alloc_below U (.cells #[.int .i64 s1, .int .i64 s2] 23))
  have HV := Lib.hid (h.on G.out)
  clear h
  go_enter Try.func10, Try.ntmps10
  go_wp2_with fail
  generalize U.alloc (.cells #[.int .i64 s1, .int .i64 s2] 23) = w0 at *
  refine (MA.out _ HV.out).mono ?_
  rintro e w1 ⟨v1, rfl, hr1, hb1⟩
  have B := Lib.hid (B.out.later hb1)
  have RM := Lib.hid hr1
  have G := Lib.hid (G.out.trans (hb1.mono G.out.size))
  clear hr1 hb1
  go_wp2_with fail
  refine (A1.out _ _ RM.out).mono ?_
  rintro e w2 ⟨rfl, hb2⟩
  have B := Lib.hid (B.out.later hb2)
  have RM := Lib.hid (RM.out.on hb2)
  have G := Lib.hid (G.out.trans (hb2.mono G.out.size))
  clear hb2
  have c0 := B.out.cell 0 (.int .i64 s1) rfl
  have c1 := B.out.cell 1 (.int .i64 s2) rfl
  go_wp2_with fail
  refine (W1.out _ _ RM.out).mono ?_
  rintro e w3 ⟨v3, rfl, ho3, hb3⟩
  have B := Lib.hid (B.out.later hb3)
  have RQ := Lib.hid ho3.rd
  have G := Lib.hid (G.out.trans (hb3.mono G.out.size))
  clear ho3 hb3 RM c0 c1
  go_wp2_with fail
  refine (A2.out _ _ RQ.out).mono ?_
  rintro e w4 ⟨rfl, hb4⟩
  have B := Lib.hid (B.out.later hb4)
  have G := Lib.hid (G.out.trans (hb4.mono G.out.size))
  clear hb4 RQ
  have c0 := B.out.cell 0 (.int .i64 s1) rfl
  have c1 := B.out.cell 1 (.int .i64 s2) rfl
  cases hs
  case' false => rw [if_neg (by simp)]
  case' true => rw [if_pos rfl]
  all_goals
    go_wp2_with fail
    refine (HS.out _).mono ?_
    rintro e w5 ⟨rfl, hb5⟩
    have G := Lib.hid (G.out.trans (hb5.mono G.out.size))
    clear hb5 c0 c1
    go_wp2_with fail
    refine (lives_any _).mono ?_
    rintro e w6 ⟨rfl, hb6⟩
    have G := Lib.hid (G.out.trans (hb6.mono G.out.size))
    clear hb6
    go_wp2_with fail
    go_ret
    exact ⟨rfl, G.out⟩
-- END
set_option maxRecDepth 100000 in
theorem lifted (os : Os) (started : os.Started) (H : Type) (enc : TypeId × Value → H) :
    ReturnsInHanded {} Try.checked os 10 .any (Rows.spanTakenSpec.pre6 enc Try.prog Try.f10 Rows.spanTakenRow.domain false) (Rows.spanTakenSpec.post enc Try.prog Try.f10 false true false false) := by
  refine returnsInHanded_of_change (C := Try.checked) Try.own started (by kernel_rfl) Try.func10
    (ChangeSpec.witness6 (enc := enc) (C := Try.checked) false ⟨#[], #[.slice none 0 0, .agg #[.int .i64 0, .int .i64 0], .int .i64 0], []⟩ 8 (by kernel_rfl) (by kernel_rfl) (by kernel_rfl) (by kernel_rfl)) ?_
  intro W base args ds gs before hval0 hW _ _
  have hval : ∀ (j : Nat) t v, Try.f10.params[j]? = some t → args[j]? = some v → Value.okWide Try.prog W .any base t v := hval0
  have hW' := hW
  obtain ⟨p, q, hA0, hV, rfl, _, _⟩ := hW
  have hA : DataW.TrodAll enc Try.prog W 0 (fun _ => true) true Try.f10.params.toList args.toList ds p := hA0
  rw [Try.params10] at hA hval
  obtain ⟨v0, v1, v2, d0, d1, d2, p0, p1, p2, rfl, rfl, rfl, h0, h1, h2⟩ := trodAll_three hA
  obtain ⟨rfl, rfl⟩ := trodVars_none hV
  have hlt := fun x hx => hW'.lt x hx
  obtain ⟨a0, r0, b0⟩ := open_pcs (hval 0 _ v0 rfl rfl) h0 (fun x hx => by simpa using hlt x (by simp [hx]))
  obtain ⟨a1, rfl, w1, x1⟩ := open_sp (hval 1 _ v1 rfl rfl) h1
  obtain ⟨a2, rfl, rfl, rfl, w2⟩ := open_int Try.underlying3 (hval 2 _ v2 rfl rfl) h2
  have w2 := wf_int w2
  refine (walk v0 a0 a1 a2 W r0).mono fun e W' ⟨he, hb⟩ => ⟨_, he, ?_⟩
  exact law_post Try.laidOut (by decide +kernel) rfl Try.underlying4 rfl hW' rfl hb

theorem holds : Rows.SpanTakenSaid :=
  OpenClaim.holds_of_wide 10 Try.f10 rfl rfl rfl rfl rfl rfl rfl ⟨rfl, rfl, rfl, rfl, rfl⟩ rfl rfl rfl rfl rfl (by kernel_rfl) Try.func10 (by kernel_rfl)
    (of_decide_eq_true (by kernel_rfl)) (by unfold Func.isWrapper; first | (rw [if_pos (by decide +kernel)]; kernel_rfl) | (rw [if_neg (by decide +kernel)]; exact ⟨rfl, rfl⟩))
    (fun os started H enc _ => lifted os started H enc)
end Go.Proofs.Ytoikhgldffgelaa.L08
