/- BlockReads: any bytes (the first 500) are read as the document's block, or refused with its error. No conditions. -/
import Derived.Test.YtecomnklofceaaaUg
import Derived.Test.YtecomnklofceaaaTh
import Derived.Test.YtecomnklofceaaaUl
import Derived.Test.YtecomnklofceaaaRr
namespace Go.Proofs.Ytecomnklofceaaa.L03
open Go.RowKit Go.ChangeShapes Go.WideShapes Go.ChangeAt
set_option linter.unusedVariables false

set_option maxHeartbeats 4000000 in
set_option maxRecDepth 100000 in
theorem walk (v : Value) (l : List UInt8) (w : World) (h : RdB w w.heap.size v l) :
    Calls Try.prog 5 #[v] w fun e w' => e = .returned (.bool true) ∧ Below w.heap.size w w' := by
  by_cases h1 : 500 < l.length
  · obtain ⟨A, c, h2, h3⟩ := sl_head h 500 500 rfl (by omega)
    have R := Lib.hid h3
    have hl : (l.take 500).length = 500 := by rw [List.length_take]; omega
    generalize l.take 500 = m at *
    have BR := Lib.hid (fun v w h => blk_read v m w h (by omega))
    have DR := Lib.hid (fun v w h => ref8_read v m w h (by omega))
    generalize blkRd m = res at *
    obtain ⟨L, E⟩ := res
    simp only at BR DR
    have z1 : decide ((500 : Int) < (l.length : Int)) = true := by simp; omega
    obtain ⟨A0, c0, rfl, -⟩ := h
    clear h3 hl
    go_enter Try.func5, Try.ntmps5
    go_wp2_with fail
    refine (BR.out _ _ R.out).mono ?_
    rintro z w1 ⟨x1, rfl, ho1, hb1⟩
    have G := Lib.hid hb1
    have R := Lib.hid (R.out.on hb1)
    have O1 := Lib.hid ho1
    obtain ⟨A1, c1, e1, -⟩ := ho1.rd
    subst e1
    clear ho1 hb1
    go_wp2_with fail
    refine (DR.out _ _ R.out).mono ?_
    rintro z w2 ⟨x2, rfl, ho2, hb2⟩
    have O1 := Lib.hid (O1.out.on hb2)
    have G := Lib.hid (G.out.trans (hb2.mono G.out.size))
    have O2 := Lib.hid ho2
    obtain ⟨A2, c2, e2, -⟩ := ho2.rd
    subst e2
    clear ho2 hb2
    go_wp2_with fail
    refine (ref6_same _ _ L L _ O1.out.rd O2.out.rd).mono ?_
    rintro z w3 ⟨r, rfl, hr, hb3⟩
    have G := Lib.hid (G.out.trans (hb3.mono G.out.size))
    obtain rfl : r = true := hr.2 rfl
    clear hr hb3
    go_wp2_with fail
    refine (lives_any8 _).mono ?_
    rintro z w8 ⟨rfl, hb⟩
    have G := Lib.hid (G.out.trans (hb.mono G.out.size))
    clear hb
    go_wp2_with fail
    go_ret
    exact ⟨rfl, G.out⟩
  · have R := Lib.hid h
    have BR := Lib.hid (fun v w h => blk_read v l w h (by omega))
    have DR := Lib.hid (fun v w h => ref8_read v l w h (by omega))
    generalize blkRd l = res at *
    obtain ⟨L, E⟩ := res
    simp only at BR DR
    have z1 : decide ((500 : Int) < (l.length : Int)) = false := by rw [decide_eq_false_iff_not]; omega
    obtain ⟨A0, c0, rfl, -⟩ := h
    go_enter Try.func5, Try.ntmps5
    go_wp2_with fail
    refine (BR.out _ _ R.out).mono ?_
    rintro z w1 ⟨x1, rfl, ho1, hb1⟩
    have G := Lib.hid hb1
    have R := Lib.hid (R.out.on hb1)
    have O1 := Lib.hid ho1
    obtain ⟨A1, c1, e1, -⟩ := ho1.rd
    subst e1
    clear ho1 hb1
    go_wp2_with fail
    refine (DR.out _ _ R.out).mono ?_
    rintro z w2 ⟨x2, rfl, ho2, hb2⟩
    have O1 := Lib.hid (O1.out.on hb2)
    have G := Lib.hid (G.out.trans (hb2.mono G.out.size))
    have O2 := Lib.hid ho2
    obtain ⟨A2, c2, e2, -⟩ := ho2.rd
    subst e2
    clear ho2 hb2
    go_wp2_with fail
    refine (ref6_same _ _ L L _ O1.out.rd O2.out.rd).mono ?_
    rintro z w3 ⟨r, rfl, hr, hb3⟩
    have G := Lib.hid (G.out.trans (hb3.mono G.out.size))
    obtain rfl : r = true := hr.2 rfl
    clear hr hb3
    go_wp2_with fail
    refine (lives_any8 _).mono ?_
    rintro z w8 ⟨rfl, hb⟩
    have G := Lib.hid (G.out.trans (hb.mono G.out.size))
    clear hb
    go_wp2_with fail
    go_ret
    exact ⟨rfl, G.out⟩
-- END
set_option maxRecDepth 100000 in
theorem lifted (os : Os) (started : os.Started) (H : Type) (enc : TypeId × Value → H) :
    ReturnsInHanded {} Try.checked os 5 .any (Rows.blockReadsSpec.pre6 enc Try.prog Try.f5 Rows.blockReadsRow.domain false) (Rows.blockReadsSpec.post enc Try.prog Try.f5 false true false false) := by
  refine returnsInHanded_of_change (C := Try.checked) Try.own started (by kernel_rfl) Try.func5
    (ChangeSpec.witness6 (enc := enc) (C := Try.checked) false ⟨#[], #[.slice none 0 0], []⟩ 8 (by kernel_rfl) (by kernel_rfl) (by kernel_rfl) (by kernel_rfl)) ?_
  intro W base args ds gs before hval0 hW _ _
  have hval : ∀ (j : Nat) t v, Try.f5.params[j]? = some t → args[j]? = some v → Value.okWide Try.prog W .any base t v := hval0
  have hW' := hW
  obtain ⟨p, q, hA0, hV, rfl, _, _⟩ := hW
  have hA : DataW.TrodAll enc Try.prog W 0 (fun _ => true) true Try.f5.params.toList args.toList ds p := hA0
  rw [Try.params5] at hA hval
  obtain ⟨v0, d0, rfl, rfl, h0⟩ := trodAll_one hA
  obtain ⟨rfl, rfl⟩ := trodVars_none hV
  have hlt : ∀ x ∈ p, x.block < W.heap.size := fun x hx => by simpa using hW'.lt x (by simpa using hx)
  obtain ⟨a0, r0⟩ := open_bytes (hval 0 _ v0 rfl rfl) h0 (fun x hx => by simpa using hlt x (by simp [hx]))
  refine (walk v0 a0 _ r0).mono fun e W' ⟨he, hb⟩ => ⟨_, he, ?_⟩
  exact law_post Try.laidOut (by decide +kernel) rfl Try.underlying4 rfl hW' rfl hb

theorem holds : Rows.BlockReadsSaid :=
  OpenClaim.holds_of_wide 5 Try.f5 rfl rfl rfl rfl rfl rfl rfl ⟨rfl, rfl, rfl, rfl, rfl⟩ rfl rfl rfl rfl rfl (by kernel_rfl) Try.func5 (by kernel_rfl)
    (of_decide_eq_true (by kernel_rfl)) (by unfold Func.isWrapper; first | (rw [if_pos (by decide +kernel)]; kernel_rfl) | (rw [if_neg (by decide +kernel)]; exact ⟨rfl, rfl⟩))
    (fun os started H enc _ => lifted os started H enc)
end Go.Proofs.Ytecomnklofceaaa.L03
