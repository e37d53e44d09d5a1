/- RowAll: any bytes (the first 500) are read as the document's versions, or refused with its error. No conditions. -/
import Derived.Test.YtmchiebpijnpiaaRl
import Derived.Test.YtmchiebpijnpiaaRm
import Derived.Test.YtmchiebpijnpiaaRq
import Derived.Test.YtmchiebpijnpiaaRr
namespace Go.Proofs.Ytmchiebpijnpiaa.L04
open Go.RowKit Go.ChangeShapes Go.WideShapes Go.ChangeAt
set_option linter.unusedVariables false

set_option maxHeartbeats 1000000 in
theorem walk (va : Value) (l : List UInt8) (w : World) (h : RdB w w.heap.size va l) :
    Calls Try.prog 6 #[va] w fun e w' => e = .returned (.bool true) ∧ Below w.heap.size w w' := by
  have FW := Lib.hid (few_any va l w h)
  have hlen : (l.take 500).length ≤ 500 := List.length_take_le _ _
  generalize l.take 500 = m at *
  have PA := Lib.hid (fun v w h => row_all v m w h (by omega))
  have RA := Lib.hid (fun v w h => ref6_all v m w h (by omega))
  clear h hlen
  generalize allV m = r at *
  go_enter Try.func6, Try.ntmps6
  go_wp2_with fail
  refine FW.out.mono ?_
  rintro z w1 ⟨v1, rfl, hr1, rfl⟩
  have R := Lib.hid hr1
  clear hr1
  go_wp2_with fail
  refine (PA.out _ _ R.out).mono ?_
  rintro z w2 ⟨v2, rfl, ho2, hb2⟩
  have O2 := Lib.hid ho2.rd
  have R := Lib.hid (R.out.on hb2)
  have G := Lib.hid hb2
  clear ho2 hb2
  go_wp2_with fail
  refine (RA.out _ _ R.out).mono ?_
  rintro z w3 ⟨v3, rfl, ho3, hb3⟩
  have O2 := Lib.hid (O2.out.on hb3)
  have O3 := Lib.hid ho3.rd
  have G := Lib.hid (G.out.trans (hb3.mono G.out.size))
  clear ho3 hb3
  go_wp2_with fail
  refine (ref6_same _ _ _ _ _ O2.out O3.out).mono ?_
  rintro z w4 ⟨q, rfl, hq, hb4⟩
  have G := Lib.hid (G.out.trans (hb4.mono G.out.size))
  have hq1 : q = true := hq.2 rfl
  subst hq1
  clear hb4 hq
  go_wp2_with fail
  refine (lives_any _).mono ?_
  rintro z w5 ⟨rfl, hb5⟩
  have G := Lib.hid (G.out.trans (hb5.mono G.out.size))
  clear hb5
  go_wp2_with fail
  go_ret
  exact ⟨rfl, G.out⟩
-- END
set_option maxRecDepth 100000 in
theorem lifted (os : Os) (started : os.Started) (H : Type) (enc : TypeId × Value → H) :
    ReturnsInHanded {} Try.checked os 6 .any (Rows.rowAllSpec.pre6 enc Try.prog Try.f6 Rows.rowAllRow.domain false) (Rows.rowAllSpec.post enc Try.prog Try.f6 false true false false) := by
  refine returnsInHanded_of_change (C := Try.checked) Try.own started (by kernel_rfl) Try.func6
    (ChangeSpec.witness6 (enc := enc) (C := Try.checked) false ⟨#[], #[.slice none 0 0], []⟩ 8 (by kernel_rfl) (by kernel_rfl) (by kernel_rfl) (by kernel_rfl)) ?_
  intro W base args ds gs before hval0 hW _ _
  have hval : ∀ (j : Nat) t v, Try.f6.params[j]? = some t → args[j]? = some v → Value.okWide Try.prog W .any base t v := hval0
  have hW' := hW
  obtain ⟨p, q, hA0, hV, rfl, _, _⟩ := hW
  have hA : DataW.TrodAll enc Try.prog W 0 (fun _ => true) true Try.f6.params.toList args.toList ds p := hA0
  rw [Try.params6] at hA hval
  obtain ⟨v0, d0, rfl, rfl, h0⟩ := trodAll_one hA
  obtain ⟨rfl, rfl⟩ := trodVars_none hV
  have hlt : ∀ x ∈ p, x.block < W.heap.size := fun x hx => by simpa using hW'.lt x (by simpa using hx)
  obtain ⟨a0, r0⟩ := open_bytes (hval 0 _ v0 rfl rfl) h0 (fun x hx => by simpa using hlt x (by simp [hx]))
  refine (walk v0 a0 _ r0).mono fun e W' ⟨he, hb⟩ => ⟨_, he, ?_⟩
  exact law_post Try.laidOut (by decide +kernel) rfl Try.underlying4 rfl hW' rfl hb

theorem holds : Rows.RowAllSaid :=
  OpenClaim.holds_of_wide 6 Try.f6 rfl rfl rfl rfl rfl rfl rfl ⟨rfl, rfl, rfl, rfl, rfl⟩ rfl rfl rfl rfl rfl (by kernel_rfl) Try.func6 (by kernel_rfl)
    (of_decide_eq_true (by kernel_rfl)) (by unfold Func.isWrapper; first | (rw [if_pos (by decide +kernel)]; kernel_rfl) | (rw [if_neg (by decide +kernel)]; exact ⟨rfl, rfl⟩))
    (fun os started H enc _ => lifted os started H enc)
end Go.Proofs.Ytmchiebpijnpiaa.L04
