/- SpanLeast (P4.3): for every list of pieces and every time: the least pieces of those that are made of them are the document's, are least, and tell the same of the time, and At tells as the document says. No condition. -/
import Derived.Test.YtoikhgldffgelaaPk
import Derived.Test.YtoikhgldffgelaaBlaw
namespace Go.Proofs.Ytoikhgldffgelaa.L04
open Go.RowKit Go.ChangeShapes Go.WideShapes Go.ChangeAt
set_option linter.unusedVariables false

theorem made_len (l : List Pc) : (madeF l).length ≤ 255 := by
  have h := made_small l 8 (Nat.le_refl _)
  exact h

set_option maxHeartbeats 4000000 in
theorem walk (v : Value) (l : List Pc) (u : Int) (U : World) (h : RdPc U U.heap.size v l) : Calls Try.prog 6 #[v, .int .i64 u] U fun e W' => e = .returned (.bool true) ∧ Below U.heap.size U W' := by
  have MA := Lib.hid (ref_made v l U h)
  have hl := made_len l
  have hat := at_least (ord_made l) u
  have hll := least_len (madeF l)
  have hag := least_again (madeF l)
  clear h
  generalize madeF l = m at *
  have L1 := Lib.hid (fun x w hx => p_least x m w hx (by omega))
  have L2 := Lib.hid (fun x w hx => p_least x (leastF m) w hx (by omega))
  have L3 := Lib.hid (fun x w hx => ref_least x m w hx (by omega))
  rw [hag] at L2
  have A1 := Lib.hid (fun x w hx => p_at x m u w hx)
  have A2 := Lib.hid (fun x w hx => p_at x (leastF m) u w hx)
  have A3 := Lib.hid (fun x w hx => ref_at x m u w hx)
  rw [hat] at A2
  generalize leastF m = q at *
  generalize atF m u = r at *
  obtain ⟨r1, r2⟩ := r
  clear hag hat
  go_enter Try.func6, Try.ntmps6
  go_wp2_with fail
  refine MA.out.mono ?_
  rintro e w1 ⟨v1, rfl, hr1, hb1⟩
  have RM := Lib.hid hr1
  have G := Lib.hid hb1
  clear hr1 hb1
  go_wp2_with fail
  refine (L1.out _ _ RM.out).mono ?_
  rintro e w2 ⟨v2, rfl, ho2, hb2⟩
  have RM := Lib.hid (RM.out.on hb2)
  have RQ := Lib.hid ho2.rd
  have G := Lib.hid (G.out.trans (hb2.mono G.out.size))
  clear ho2 hb2
  go_wp2_with fail
  refine (L3.out _ _ RM.out).mono ?_
  rintro e w3 ⟨v3, rfl, ho3, hb3⟩
  have RM := Lib.hid (RM.out.on hb3)
  have RQ := Lib.hid (RQ.out.on hb3)
  have R3 := Lib.hid ho3.rd
  have G := Lib.hid (G.out.trans (hb3.mono G.out.size))
  clear ho3 hb3
  go_wp2_with fail
  refine (ref_same _ _ q q _ RQ.out R3.out).mono ?_
  rintro e w4 ⟨rfl, hb4⟩
  have RM := Lib.hid (RM.out.on hb4)
  have RQ := Lib.hid (RQ.out.on hb4)
  have G := Lib.hid (G.out.trans (hb4.mono G.out.size))
  clear hb4 R3
  rw [show decide (q = q) = true from by simp]
  go_wp2_with fail
  refine (L2.out _ _ RQ.out).mono ?_
  rintro e w5 ⟨v5, rfl, ho5, hb5⟩
  have RM := Lib.hid (RM.out.on hb5)
  have RQ := Lib.hid (RQ.out.on hb5)
  have R5 := Lib.hid ho5.rd
  have G := Lib.hid (G.out.trans (hb5.mono G.out.size))
  clear ho5 hb5
  go_wp2_with fail
  refine (ref_same _ _ q q _ R5.out RQ.out).mono ?_
  rintro e w6 ⟨rfl, hb6⟩
  have RM := Lib.hid (RM.out.on hb6)
  have RQ := Lib.hid (RQ.out.on hb6)
  have G := Lib.hid (G.out.trans (hb6.mono G.out.size))
  clear hb6 R5
  rw [show decide (q = q) = true from by simp]
  go_wp2_with fail
  refine (A1.out _ _ RM.out).mono ?_
  rintro e w7 ⟨rfl, hb7⟩
  have RM := Lib.hid (RM.out.on hb7)
  have RQ := Lib.hid (RQ.out.on hb7)
  have G := Lib.hid (G.out.trans (hb7.mono G.out.size))
  clear hb7
  go_wp2_with fail
  refine (A2.out _ _ RQ.out).mono ?_
  rintro e w8 ⟨rfl, hb8⟩
  have RM := Lib.hid (RM.out.on hb8)
  have G := Lib.hid (G.out.trans (hb8.mono G.out.size))
  clear hb8 RQ
  go_wp2_with fail
  refine (A3.out _ _ RM.out).mono ?_
  rintro e w9 ⟨rfl, hb9⟩
  have G := Lib.hid (G.out.trans (hb9.mono G.out.size))
  clear hb9 RM
  go_wp2_with fail
  refine (lives_any _).mono ?_
  rintro e w10 ⟨rfl, hb10⟩
  have G := Lib.hid (G.out.trans (hb10.mono G.out.size))
  clear hb10
  go_wp2_with fail
  go_ret
  exact ⟨rfl, G.out⟩
-- END
set_option maxRecDepth 100000 in
theorem lifted (os : Os) (started : os.Started) (H : Type) (enc : TypeId × Value → H) :
    ReturnsInHanded {} Try.checked os 6 .any (Rows.spanLeastSpec.pre6 enc Try.prog Try.f6 Rows.spanLeastRow.domain false) (Rows.spanLeastSpec.post enc Try.prog Try.f6 false true false false) := by
  refine returnsInHanded_of_change (C := Try.checked) Try.own started (by kernel_rfl) Try.func6
    (ChangeSpec.witness6 (enc := enc) (C := Try.checked) false ⟨#[], #[.slice none 0 0, .int .i64 0], []⟩ 8 (by kernel_rfl) (by kernel_rfl) (by kernel_rfl) (by kernel_rfl)) ?_
  intro W base args ds gs before hval0 hW _ _
  have hval : ∀ (j : Nat) t v, Try.f6.params[j]? = some t → args[j]? = some v → Value.okWide Try.prog W .any base t v := hval0
  have hW' := hW
  obtain ⟨p, q, hA0, hV, rfl, _, _⟩ := hW
  have hA : DataW.TrodAll enc Try.prog W 0 (fun _ => true) true Try.f6.params.toList args.toList ds p := hA0
  rw [Try.params6] at hA hval
  obtain ⟨v0, v1, d0, d1, p0, p1, rfl, rfl, rfl, h0, h1⟩ := trodAll_two hA
  obtain ⟨rfl, rfl⟩ := trodVars_none hV
  have hlt := fun x hx => hW'.lt x hx
  obtain ⟨a0, r0, b0⟩ := open_pcs (hval 0 _ v0 rfl rfl) h0 (fun x hx => by simpa using hlt x (by simp [hx]))
  obtain ⟨a1, rfl, rfl, rfl, w1⟩ := open_int Try.underlying3 (hval 1 _ v1 rfl rfl) h1
  have w1 := wf_int w1
  refine (walk v0 a0 a1 W r0).mono fun e W' ⟨he, hb⟩ => ⟨_, he, ?_⟩
  exact law_post Try.laidOut (by decide +kernel) rfl Try.underlying4 rfl hW' rfl hb

theorem holds : Rows.SpanLeastSaid :=
  OpenClaim.holds_of_wide 6 Try.f6 rfl rfl rfl rfl rfl rfl rfl ⟨rfl, rfl, rfl, rfl, rfl⟩ rfl rfl rfl rfl rfl (by kernel_rfl) Try.func6 (by kernel_rfl)
    (of_decide_eq_true (by kernel_rfl)) (by unfold Func.isWrapper; first | (rw [if_pos (by decide +kernel)]; kernel_rfl) | (rw [if_neg (by decide +kernel)]; exact ⟨rfl, rfl⟩))
    (fun os started H enc _ => lifted os started H enc)
end Go.Proofs.Ytoikhgldffgelaa.L04
