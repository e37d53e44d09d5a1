/- TreePaths: which branches may be, and a branch's path, is told as the document says: any branches (the first 20), any branch, any epoch. No conditions. -/
import Derived.Test.YtopiddlijlcbbaaQk
import Derived.Test.YtopiddlijlcbbaaTc
import Derived.Test.YtopiddlijlcbbaaTd
namespace Go.Proofs.Ytopiddlijlcbbaa.L01
open Go.RowKit Go.ChangeShapes Go.WideShapes Go.ChangeAt
set_option linter.unusedVariables false

set_option maxHeartbeats 4000000 in
set_option maxRecDepth 100000 in
theorem walk0 (KM : MayK) (KP : PathK) (KL : LiveK) (v : Value) (l : List Br) (b e : Int) (w : World) (h : RdX brL w w.heap.size v l) :
    Calls Try.prog 3 #[v, .int .i64 b, .int .i64 e] w fun z w' => z = .returned (.bool true) ∧ Below w.heap.size w w' := by
  have LV := Lib.hid (law11_lives KP KL)
  have FW := Lib.hid (law_few v l w h)
  have KM := Lib.hid KM
  have KP := Lib.hid KP
  obtain ⟨A, ca, rfl, -⟩ := h
  generalize l.take 20 = M at *
  go_enter Try.func3, Try.ntmps3
  go_wp2_with fail
  refine FW.out.mono ?_
  rintro z w0 ⟨v1, rfl, hr1, rfl⟩
  have R := Lib.hid hr1
  obtain ⟨A1, c1, rfl, -⟩ := hr1
  clear FW
  go_wp2_with fail
  refine (KP.out _ M b e _ R.out).mono ?_
  rintro z w1 ⟨v2, rfl, ho1, hb1⟩
  have O1 := Lib.hid ho1.rd
  have R := Lib.hid (R.out.on hb1)
  have G := Lib.hid hb1
  obtain ⟨A2, c2, e2, -⟩ := ho1.rd
  subst e2
  clear ho1 hb1
  go_wp2_with fail
  refine (ref_path (b.toNat + 1) _ M b e _ (Nat.lt_succ_self _) R.out).mono ?_
  rintro z w2 ⟨v3, rfl, ho2, hb2⟩
  have O1 := Lib.hid (O1.out.on hb2)
  have O2 := Lib.hid ho2.rd
  have R := Lib.hid (R.out.on hb2)
  have G := Lib.hid (G.out.trans (hb2.mono G.out.size))
  obtain ⟨A3, c3, e3, -⟩ := ho2.rd
  subst e3
  have PL := Lib.hid (path_few M b e)
  clear ho2 hb2
  generalize pathT M b e = P at *
  go_wp2_with fail
  refine (KM.out _ M _ R.out).mono ?_
  rintro z w3 ⟨rfl, hb3⟩
  have O1 := Lib.hid (O1.out.on hb3)
  have O2 := Lib.hid (O2.out.on hb3)
  have R := Lib.hid (R.out.on hb3)
  have G := Lib.hid (G.out.trans (hb3.mono G.out.size))
  clear hb3
  go_wp2_with fail
  refine (ref_may _ M _ R.out).mono ?_
  rintro z w4 ⟨rfl, hb4⟩
  have O1 := Lib.hid (O1.out.on hb4)
  have O2 := Lib.hid (O2.out.on hb4)
  have G := Lib.hid (G.out.trans (hb4.mono G.out.size))
  clear hb4 R
  have hmm : (mayT M != mayT M) = false := by simp
  generalize mayT M = rr at *
  go_wp2_with fail
  go_loopw [9] (fun i wr => ∃ k : Nat, i = .int .i64 k ∧ k ≤ P.length ∧ Below w4.heap.size w4 wr) (fun i _ => P.length - (intOf i).toNat)
  case atStart => exact ⟨0, rfl, Nat.zero_le _, Below.refl _ _⟩
  case round =>
    obtain ⟨k, rfl, hk, hbw⟩ := hrel
    rename World => wo
    have GW := Lib.hid hbw
    clear hbw
    by_cases hlt : k < P.length
    · have zl : decide ((k : Int) < (P.length : Int)) = true := by simp; omega
      have hki : (k : Int) < (P.length : Int) := by omega
      have hw64 : IntKind.i64.wrap ((k : Int) + 1) = (k : Int) + 1 := by rw [IntKind.wrap_i64]; have := PL.out; omega
      obtain ⟨g, hg⟩ : ∃ g, P[k] = g := ⟨_, rfl⟩
      obtain ⟨x, y⟩ := g
      obtain ⟨b1, o1, rfl, -, e0, e1⟩ := RdX.lg (O1.out.below GW.out) k hlt hg
      obtain ⟨b2, o2, rfl, -, d0, d1⟩ := RdX.lg (O2.out.below GW.out) k hlt hg
      clear hg
      go_wp2_with fail
      go_quiet (fail)
      have GW := Lib.hid (GW.out.drewN nq)
      go_wp2_with fail
      go_roundw
      case rel => exact ⟨k + 1, by go_num, by omega, GW.out⟩
      case measure => simp [intOf]; omega
    · have hkl : k = P.length := by omega
      subst hkl
      have zl : decide ((P.length : Int) < (P.length : Int)) = false := by simp
      clear hlt
      go_wp2_with fail
      refine (LV.out _).mono ?_
      rintro z w8 ⟨rfl, hb⟩
      have G := Lib.hid ((G.out.trans (GW.out.mono G.out.size)).trans (hb.mono ((G.out.trans (GW.out.mono G.out.size)).size)))
      clear hb
      go_wp2_with fail
      go_ret
      exact ⟨rfl, G.out⟩
-- END
set_option maxRecDepth 100000 in
theorem lifted (os : Os) (started : os.Started) (H : Type) (enc : TypeId × Value → H) :
    ReturnsInHanded {} Try.checked os 3 .any (Rows.treePathsSpec.pre6 enc Try.prog Try.f3 Rows.treePathsRow.domain false) (Rows.treePathsSpec.post enc Try.prog Try.f3 false true false false) := by
  refine returnsInHanded_of_change (C := Try.checked) Try.own started (by kernel_rfl) Try.func3
    (ChangeSpec.witness6 (enc := enc) (C := Try.checked) false ⟨#[], #[.slice none 0 0, .int .i64 0, .int .i64 0], []⟩ 8 (by kernel_rfl) (by kernel_rfl) (by kernel_rfl) (by kernel_rfl)) ?_
  intro W base args ds gs before hval0 hW _ _
  have hval : ∀ (j : Nat) t v, Try.f3.params[j]? = some t → args[j]? = some v → Value.okWide Try.prog W .any base t v := hval0
  have hW' := hW
  obtain ⟨p, q, hA0, hV, rfl, _, _⟩ := hW
  have hA : DataW.TrodAll enc Try.prog W 0 (fun _ => true) true Try.f3.params.toList args.toList ds p := hA0
  rw [Try.params3] at hA hval
  obtain ⟨v0, v1, v2, d0, d1, d2, p0, p1, p2, rfl, rfl, rfl, h0, h1, h2⟩ := trodAll_three hA
  obtain ⟨rfl, rfl⟩ := trodVars_none hV
  have hlt := fun x hx => hW'.lt x hx
  obtain ⟨a0, r0, b0⟩ := open_brs (hval 0 _ v0 rfl rfl) h0 (fun x hx => by simpa using hlt x (by simp [hx]))
  obtain ⟨a1, rfl, rfl, rfl, w1⟩ := open_int Try.underlying3 (hval 1 _ v1 rfl rfl) h1
  have w1 := wf_int w1
  obtain ⟨a2, rfl, rfl, rfl, w2⟩ := open_int Try.underlying3 (hval 2 _ v2 rfl rfl) h2
  have w2 := wf_int w2
  refine (walk0 may_k path_k live_k v0 a0 a1 a2 _ r0).mono fun e W' ⟨he, hb⟩ => ⟨_, he, ?_⟩
  exact law_post Try.laidOut (by decide +kernel) rfl Try.underlying4 rfl hW' rfl hb

theorem holds : Rows.TreePathsSaid :=
  OpenClaim.holds_of_wide 3 Try.f3 rfl rfl rfl rfl rfl rfl rfl ⟨rfl, rfl, rfl, rfl, rfl⟩ rfl rfl rfl rfl rfl (by kernel_rfl) Try.func3 (by kernel_rfl)
    (of_decide_eq_true (by kernel_rfl)) (by unfold Func.isWrapper; first | (rw [if_pos (by decide +kernel)]; kernel_rfl) | (rw [if_neg (by decide +kernel)]; exact ⟨rfl, rfl⟩))
    (fun os started H enc _ => lifted os started H enc)
end Go.Proofs.Ytopiddlijlcbbaa.L01
