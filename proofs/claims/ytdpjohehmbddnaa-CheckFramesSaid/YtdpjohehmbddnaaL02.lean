/- CheckFrames: for all bytes (the first 300), the frames at their beginning, and how long they are, are the document's. No conditions. -/
import Derived.Test.YtdpjohehmbddnaaCl
import Derived.ChangeMaps5
namespace Go.Proofs.Ytdpjohehmbddnaa.L02
open Go.RowKit Go.ChangeShapes Go.WideShapes Go.ChangeAt
set_option linter.unusedVariables false

set_option maxHeartbeats 2000000 in
theorem walk (v0 : Value) (b0 : List UInt8) (w : World) (hb : RdB w w.heap.size v0 b0) :
    Calls Try.prog 4 #[v0] w fun e w' => e = .returned (.bool true) ∧ Below w.heap.size w w' := by
  have HB0 := Lib.hid hb
  have hl : (b0.take 300).length ≤ 300 := List.length_take_le _ _
  clear hb
  go_enter Try.func4, Try.ntmps4
  go_wp2_with fail
  refine (few_any _ _ b0 300 300 rfl _ HB0.out (by omega)).mono ?_
  rintro e w1 ⟨vb, rfl, hrb, rfl⟩
  have RB := Lib.hid hrb
  clear hrb
  generalize b0.take 300 = b1 at *
  go_wp2_with fail
  refine (chk_frames _ b1 _ RB.out (by omega)).mono ?_
  rintro e w1 ⟨v1, rfl, ho1, hb1⟩
  have R1 := Lib.hid ho1.rd
  have G := Lib.hid hb1
  have RB := Lib.hid (RB.out.on hb1)
  clear ho1 hb1
  go_wp2_with fail
  refine (ref_frames _ b1 _ RB.out (by omega)).mono ?_
  rintro e w2 ⟨v2, rfl, hr2, hb2⟩
  have R2 := Lib.hid hr2
  have R1 := Lib.hid (R1.out.on hb2)
  have G := Lib.hid (G.out.trans (hb2.mono G.out.size))
  clear hr2 hb2
  generalize (frs b1).1 = x at *
  generalize (frs b1).2 = n at *
  go_wp2_with fail
  refine (ref_same _ _ x x _ R1.out R2.out).mono ?_
  rintro e w3 ⟨rfl, hb3⟩
  have G := Lib.hid (G.out.trans (hb3.mono G.out.size))
  have hxx : decide (x = x) = true := by simp
  rw [hxx]
  clear hb3
  go_wp2_with fail
  refine (lives_any _).mono ?_
  rintro e w4 ⟨rfl, hb4⟩
  go_wp2_with fail
  go_ret
  exact ⟨rfl, G.out.trans (hb4.mono G.out.size)⟩

-- END
set_option maxRecDepth 100000 in
theorem lifted (os : Os) (started : os.Started) (H : Type) (enc : TypeId × Value → H) :
    ReturnsInHanded {} Try.checked os 4 .any (Rows.checkFramesSpec.pre6 enc Try.prog Try.f4 Rows.checkFramesRow.domain false) (Rows.checkFramesSpec.post enc Try.prog Try.f4 false true false false) := by
  refine returnsInHanded_of_change (C := Try.checked) Try.own started (by kernel_rfl) Try.func4
    (ChangeSpec.witness6 (enc := enc) (C := Try.checked) false ⟨#[], #[.slice none 0 0], []⟩ 8 (by kernel_rfl) (by kernel_rfl) (by kernel_rfl) (by kernel_rfl)) ?_
  intro W base args ds gs before hval0 hW _ _
  have hval : ∀ (j : Nat) t v, Try.f4.params[j]? = some t → args[j]? = some v → Value.okWide Try.prog W .any base t v := hval0
  have hW' := hW
  obtain ⟨p, q, hA0, hV, rfl, _, _⟩ := hW
  have hA : DataW.TrodAll enc Try.prog W 0 (fun _ => true) true Try.f4.params.toList args.toList ds p := hA0
  rw [Try.params4] at hA hval
  obtain ⟨v0, d0, rfl, rfl, h0⟩ := trodAll_one hA
  obtain ⟨rfl, rfl⟩ := trodVars_none hV
  have hlt : ∀ x ∈ p, x.block < W.heap.size := fun x hx => by simpa using hW'.lt x (by simpa using hx)
  obtain ⟨a0, r0⟩ := open_bytes (hval 0 _ v0 rfl rfl) h0 (fun x hx => by simpa using hlt x (by simp [hx]))
  refine (walk _ _ _ r0).mono fun e W' ⟨he, hb⟩ => ⟨_, he, ?_⟩
  exact law_post Try.laidOut (by decide +kernel) rfl Try.underlying4 rfl hW' rfl hb

theorem holds : Rows.CheckFramesSaid :=
  OpenClaim.holds_of_wide 4 Try.f4 rfl rfl rfl rfl rfl rfl rfl ⟨rfl, rfl, rfl, rfl, rfl⟩ rfl rfl rfl rfl rfl (by kernel_rfl) Try.func4 (by kernel_rfl)
    (of_decide_eq_true (by kernel_rfl)) (by unfold Func.isWrapper; first | (rw [if_pos (by decide +kernel)]; kernel_rfl) | (rw [if_neg (by decide +kernel)]; exact ⟨rfl, rfl⟩))
    (fun os started H enc _ => lifted os started H enc)
end Go.Proofs.Ytdpjohehmbddnaa.L02
