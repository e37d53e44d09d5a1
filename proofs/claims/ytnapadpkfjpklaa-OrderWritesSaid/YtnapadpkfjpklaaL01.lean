/- OrderWrites: for every tuple its bytes are just the document's, and are read as it. No conditions. -/
import Derived.Test.YtnapadpkfjpklaaOz
import Derived.Test.YtnapadpkfjpklaaOo
namespace Go.Proofs.Ytnapadpkfjpklaa.L01
open Go.RowKit Go.ChangeShapes Go.WideShapes Go.ChangeAt
set_option linter.unusedVariables false

set_option maxHeartbeats 8000000 in
theorem walk (v : Value) (l : List PartD) (w : World) (h : RdParts w w.heap.size v l) (hl : ∀ p ∈ l, PartIn p) :
    Calls Try.prog 3 #[v] w fun e w' => e = .returned (.bool true) ∧ Below w.heap.size w w' := by
  have H := Lib.hid h
  clear h
  have okL := Lib.hid (cutL_ok hl)
  have lnL := cutL_length l
  have hrd := Lib.hid (rdAll_written (cutL l) (fun p hp => ⟨(cutL_ok hl p hp).1, (cutL_ok hl p hp).2.1⟩))
  have hnorm := Lib.hid (cmpParts_norm (cutL l))
  have hlen : (encParts (cutL l)).length ≤ 1000000 := by
    have := encParts_short (cutL_text hl) (cutL_length l); omega
  clear hl
  go_enter Try.func3, Try.ntmps3
  go_wp2_with fail
  refine (ref_cut v l _ H.out).mono ?_
  rintro e w1 ⟨v1, rfl, ho1, hb1⟩
  have HL := Lib.hid ho1.rd
  have hs1 := hb1.size
  have H1 := Lib.hid hb1
  clear ho1 hb1
  generalize cutL l = m at *
  go_wp2_with fail
  refine (order_write v1 m _ HL.out okL.out (by omega)).mono ?_
  rintro e w2 ⟨b, rfl, hob, hb2⟩
  have HL := Lib.hid (HL.out.on hb2)
  have HB := Lib.hid hob.rd
  have H2 := Lib.hid (H1.out.trans (hb2.mono hs1))
  have hs2 := H2.out.size
  clear hob hb2
  go_wp2_with fail
  refine (order_read b (encParts m) _ HB.out hlen).mono ?_
  rintro e w3 ⟨x, rfl, hx, hb3⟩
  rw [hrd.out] at hx ⊢
  have HL := Lib.hid (HL.out.on hb3)
  have HB := Lib.hid (HB.out.on hb3)
  have HX := Lib.hid hx
  have H3 := Lib.hid (H2.out.trans (hb3.mono hs2))
  have hs3 := H3.out.size
  clear hx hb3
  go_wp2_with fail
  refine (ref_same x v1 _ m _ HX.out HL.out).mono ?_
  rintro e w4 ⟨rfl, hb4⟩
  rw [hnorm.out]
  have HL := Lib.hid (HL.out.on hb4)
  have HB := Lib.hid (HB.out.on hb4)
  have H4 := Lib.hid (H3.out.trans (hb4.mono hs3))
  have hs4 := H4.out.size
  clear hb4
  have cb := (RdB.drew HB.out).str
  go_wp2_with fail
  go_region_with (first
    | (go_at_call 15; refine (ref_write v1 m _ (RdParts.drew HL.out) okL.out (by omega)).mono ?_; rintro e w5 ⟨y, rfl, hoy, hb5⟩; have cy := OwnB.str hoy; have cb5 := (RdB.below (RdB.drew HB.out) hb5).str)
    | (go_at_call 16; refine (lives_any _).mono ?_; rintro e w6 ⟨rfl, hb6⟩))
  all_goals
    go_wp2
    go_ret
    exact ⟨rfl, (H4.out.drew.trans (hb5.mono (by simpa using hs4))).trans (hb6.mono (by have := hb5.size; simp at this; omega))⟩

set_option maxRecDepth 100000 in
theorem lifted (os : Os) (started : os.Started) (H : Type) (enc : TypeId × Value → H) :
    ReturnsInHanded {} Try.checked os 3 .any (Rows.orderWritesSpec.pre6 enc Try.prog Try.f3 Rows.orderWritesRow.domain false) (Rows.orderWritesSpec.post enc Try.prog Try.f3 false true false false) := by
  refine returnsInHanded_of_change (C := Try.checked) Try.own started (by kernel_rfl) Try.func3
    (ChangeSpec.witness6 (enc := enc) (C := Try.checked) false ⟨#[], #[.slice none 0 0], []⟩ 8 (by kernel_rfl) (by kernel_rfl) (by kernel_rfl) (by kernel_rfl)) ?_
  intro W base args ds gs before hval0 hW _ _
  have hval : ∀ (j : Nat) t v, Try.f3.params[j]? = some t → args[j]? = some v → Value.okWide Try.prog W .any base t v := hval0
  have hW' := hW
  obtain ⟨p, q, hA0, hV, rfl, _, _⟩ := hW
  have hA : DataW.TrodAll enc Try.prog W 0 (fun _ => true) true Try.f3.params.toList args.toList ds p := hA0
  rw [Try.params3] at hA hval
  obtain ⟨v0, d0, rfl, rfl, h0⟩ := trodAll_one hA
  obtain ⟨rfl, rfl⟩ := trodVars_none hV
  have hlt : ∀ x ∈ p, x.block < W.heap.size := fun x hx => by simpa using hW'.lt x (by simpa using hx)
  obtain ⟨l, hl, hli⟩ := open_parts (hval 0 _ v0 rfl rfl) h0 hlt
  refine (walk v0 l W hl hli).mono fun e W' ⟨he, hb⟩ => ⟨_, he, ?_⟩
  exact law_post Try.laidOut (by decide +kernel) rfl Try.underlying4 rfl hW' rfl hb

theorem holds : Rows.OrderWritesSaid :=
  OpenClaim.holds_of_wide 3 Try.f3 rfl rfl rfl rfl rfl rfl rfl ⟨rfl, rfl, rfl, rfl, rfl⟩ rfl rfl rfl rfl rfl (by kernel_rfl) Try.func3 (by kernel_rfl)
    (of_decide_eq_true (by kernel_rfl)) (by unfold Func.isWrapper; first | (rw [if_pos (by decide +kernel)]; kernel_rfl) | (rw [if_neg (by decide +kernel)]; exact ⟨rfl, rfl⟩))
    (fun os started H enc _ => lifted os started H enc)
end Go.Proofs.Ytnapadpkfjpklaa.L01
