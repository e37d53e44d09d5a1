/- OrderReads: for all bytes (their first 200) the program reads the document's tuple, or refuses them with its error. No conditions. -/
import Derived.Test.YtnapadpkfjpklaaOy
namespace Go.Proofs.Ytnapadpkfjpklaa.L02
open Go.RowKit Go.ChangeShapes Go.WideShapes Go.ChangeAt
set_option linter.unusedVariables false

set_option maxHeartbeats 400000 in
theorem walk (v : Value) (l : List UInt8) (w : World) (h : RdB w w.heap.size v l) :
    Calls Try.prog 4 #[v] w fun e w' => e = .returned (.bool true) ∧ Below w.heap.size w w' := by
  have H := Lib.hid h
  clear h
  have hl : (l.take 200).length ≤ 200 := List.length_take_le _ _
  have hself := Lib.hid (cmpParts_self (rdAll (l.take 200)).2)
  go_enter Try.func4, Try.ntmps4
  go_wp2_with fail
  refine (few_any v l _ H.out).mono ?_
  rintro e w1 ⟨v1, rfl, hr, rfl⟩
  have HR := Lib.hid hr
  clear hr
  go_wp2_with fail
  refine (order_read v1 (l.take 200) _ HR.out (by omega)).mono ?_
  rintro e w1 ⟨x, rfl, hx, hb1⟩
  have HR := Lib.hid (HR.out.on hb1)
  have HX := Lib.hid hx
  have H1 := Lib.hid hb1
  have hs1 := hb1.size
  clear hx hb1
  go_wp2_with fail
  refine (ref_read v1 (l.take 200) _ HR.out (by omega)).mono ?_
  rintro e w2 ⟨y, rfl, hy, hb2⟩
  have HX := Lib.hid (HX.out.on hb2)
  have HY := Lib.hid hy
  have H2 := Lib.hid (H1.out.trans (hb2.mono hs1))
  have hs2 := H2.out.size
  clear hy hb2
  go_wp2_with fail
  refine (ref_same x y _ _ _ HX.out HY.out).mono ?_
  rintro e w3 ⟨rfl, hb3⟩
  have H3 := Lib.hid (H2.out.trans (hb3.mono hs2))
  have hs3 := H3.out.size
  clear hb3
  rw [hself.out]
  generalize (rdAll (l.take 200)).1 = er
  go_wp2_with fail
  refine (lives_any _).mono ?_
  rintro e w6 ⟨rfl, hb6⟩
  have H6 := Lib.hid (H3.out.trans (hb6.mono hs3))
  clear hb6
  go_wp2_with fail
  go_ret
  exact ⟨rfl, H6.out⟩

set_option maxRecDepth 100000 in
theorem lifted (os : Os) (started : os.Started) (H : Type) (enc : TypeId × Value → H) :
    ReturnsInHanded {} Try.checked os 4 .any (Rows.orderReadsSpec.pre6 enc Try.prog Try.f4 Rows.orderReadsRow.domain false) (Rows.orderReadsSpec.post enc Try.prog Try.f4 false true false false) := by
  refine returnsInHanded_of_change (C := Try.checked) Try.own started (by kernel_rfl) Try.func4
    (ChangeSpec.witness6 (enc := enc) (C := Try.checked) false ⟨#[], #[.slice none 0 0], []⟩ 8 (by kernel_rfl) (by kernel_rfl) (by kernel_rfl) (by kernel_rfl)) ?_
  intro W base args ds gs before hval0 hW _ _
  have hval : ∀ (j : Nat) t v, Try.f4.params[j]? = some t → args[j]? = some v → Value.okWide Try.prog W .any base t v := hval0
  have hW' := hW
  obtain ⟨p, q, hA0, hV, rfl, _, _⟩ := hW
  have hA : DataW.TrodAll enc Try.prog W 0 (fun _ => true) true Try.f4.params.toList args.toList ds p := hA0
  rw [Try.params4] at hA hval
  obtain ⟨v0, d0, rfl, rfl, h0⟩ := trodAll_one hA
  obtain ⟨rfl, rfl⟩ := trodVars_none hV
  have hlt : ∀ x ∈ p, x.block < W.heap.size := fun x hx => by simpa using hW'.lt x (by simpa using hx)
  obtain ⟨l, hl⟩ := open_bytes (hval 0 _ v0 rfl rfl) h0 hlt
  refine (walk v0 l W hl).mono fun e W' ⟨he, hb⟩ => ⟨_, he, ?_⟩
  exact law_post Try.laidOut (by decide +kernel) rfl Try.underlying4 rfl hW' rfl hb

theorem holds : Rows.OrderReadsSaid :=
  OpenClaim.holds_of_wide 4 Try.f4 rfl rfl rfl rfl rfl rfl rfl ⟨rfl, rfl, rfl, rfl, rfl⟩ rfl rfl rfl rfl rfl (by kernel_rfl) Try.func4 (by kernel_rfl)
    (of_decide_eq_true (by kernel_rfl)) (by unfold Func.isWrapper; first | (rw [if_pos (by decide +kernel)]; kernel_rfl) | (rw [if_neg (by decide +kernel)]; exact ⟨rfl, rfl⟩))
    (fun os started H enc _ => lifted os started H enc)
end Go.Proofs.Ytnapadpkfjpklaa.L02
