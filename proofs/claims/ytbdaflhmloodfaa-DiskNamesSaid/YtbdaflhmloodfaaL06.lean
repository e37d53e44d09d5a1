/- DiskNames: a file is made just of a name: any text (the first 30 bytes); and twice not. No conditions. -/
import Derived.Test.YtbdaflhmloodfaaIr
namespace Go.Proofs.Ytbdaflhmloodfaa.L06
open Go.RowKit Go.ChangeShapes Go.WideShapes Go.ChangeAt
set_option linter.unusedVariables false

set_option maxHeartbeats 8000000 in
set_option maxRecDepth 100000 in
theorem walk (s : ByteArray) (w : World) : Calls Try.prog 8 #[.string s] w fun e w' => e = .returned (.bool true) ∧ Below w.heap.size w w' := by
  obtain ⟨S, hS⟩ : ∃ S : Nat → Prop, S = fun i => w.heap.size ≤ i := ⟨_, rfl⟩
  have HSI := Lib.hid (show ∀ i, w.heap.size ≤ i → S i from fun i h => by rw [hS]; exact h)
  have HSB := Lib.hid (show ∀ i, S i → w.heap.size ≤ i from fun i h => by rw [hS] at h; exact h)
  clear hS
  have HFS := Lib.hid (fewS_size s)
  go_enter Try.func8, Try.ntmps8
  go_wp2_with fail
  refine (few7 s _).mono ?_
  rintro e w0 ⟨rfl, rfl⟩
  generalize fewS s = n at *
  go_wp2_with fail
  refine (p_new w 10 S ⟨by omega, by omega⟩ HSI.out).mono ?_
  rintro e w1 ⟨g, rfl, hg, hm1, hb1⟩
  have M1 := Lib.hid hm1
  have G1 := Lib.hid hb1
  clear hm1 hb1 hg
  go_wp2_with fail
  have hcr := p_create M1.out (ok_new ⟨by omega, by omega⟩) (fun i hi => HSI.out i (Nat.le_trans G1.out.size hi)) n (Nat.le_trans HFS.out (by decide))
  cases hnb : nameB n.data.toList
  · rw [create_bad n _ rfl hnb] at hcr
    have HCR := Lib.hid hcr
    have HN := Lib.hid hnb
    clear hcr hnb
    refine (HCR.out).mono ?_
    rintro e w2 ⟨rfl, hm2, hk2⟩
    have M2 := Lib.hid hm2
    have G2 := Lib.hid (G1.out.trans (hk2.under G1.out.size HSB.out))
    clear hm2 hk2
    go_wp2_with fail
    refine (ref_named n w2 (Nat.le_trans HFS.out (by decide))).mono ?_
    rintro e w3 ⟨rfl, rfl⟩
    rw [HN.out]
    go_wp2_with fail
    refine (p_list M2.out (by simp)).mono ?_
    rintro e w4 ⟨v, rfl, ho, hb4⟩
    obtain ⟨LA, lc, el, -⟩ := ho.rd
    simp [nmsF] at el
    subst el
    have G4 := Lib.hid (G2.out.trans (hb4.mono G2.out.size))
    clear ho hb4
    go_wp2_with fail
    refine (lives_any _).mono ?_
    rintro e w5 ⟨rfl, hb5⟩
    have G5 := Lib.hid (G4.out.trans (hb5.mono G4.out.size))
    clear hb5
    go_wp2_with fail
    go_ret
    exact ⟨rfl, G5.out⟩
  · rw [create_first n 10 hnb] at hcr
    have HCR := Lib.hid hcr
    have HN := Lib.hid hnb
    clear hcr hnb
    refine (HCR.out).mono ?_
    rintro e w2 ⟨rfl, hm2, hk2⟩
    have M2 := Lib.hid hm2
    have G2 := Lib.hid (G1.out.trans (hk2.under G1.out.size HSB.out))
    clear hm2 hk2
    go_wp2_with fail
    refine (ref_named n w2 (Nat.le_trans HFS.out (by decide))).mono ?_
    rintro e w3 ⟨rfl, rfl⟩
    rw [HN.out]
    go_wp2_with fail
    refine (p_list M2.out (by simp [oneD])).mono ?_
    rintro e w4 ⟨v, rfl, ho, hb4⟩
    have ho2 : OwnX smL 9 w4 w2.heap.size v [n] := ho
    have O4 := Lib.hid ho2
    obtain ⟨LA, lc, el, -⟩ := ho2.rd
    have el2 : v = .slice LA 1 lc := el
    subst el2
    have M4 := Lib.hid (M2.out.on hb4)
    have G4 := Lib.hid (G2.out.trans (hb4.mono G2.out.size))
    clear ho ho2 hb4 el
    have hc2 := p_create M4.out (ok_one ⟨by omega, by simp⟩ (by decide) ⟨by omega, by omega⟩) (fun i hi => HSI.out i (Nat.le_trans G4.out.size hi)) n (Nat.le_trans HFS.out (by decide))
    rw [create_second n _ _ _ HN.out] at hc2
    have HC2 := Lib.hid hc2
    clear hc2
    go_wp2_with fail
    refine (HC2.out).mono ?_
    rintro e w5 ⟨rfl, hm5, hk5⟩
    have G5 := Lib.hid (G4.out.trans (hk5.under G4.out.size HSB.out))
    have O5 := O4.out.kept hk5 (fun cs => by simp [projO, filO])
    obtain ⟨b, o, e, -, hc⟩ := O5.rd.at 0 (by simp)
    subst e
    have c0 : w5.cell? ⟨b, o, none⟩ = some (.string n) := by have := hc 0 (.string n) rfl; simpa [smL] using this
    clear hm5 hk5 O5 hc
    go_wp2_with fail
    refine (lives_any _).mono ?_
    rintro e w6 ⟨rfl, hb6⟩
    have G6 := Lib.hid (G5.out.trans (hb6.mono G5.out.size))
    clear hb6
    go_wp2_with fail
    go_ret
    exact ⟨rfl, G6.out⟩
-- END
set_option maxRecDepth 100000 in
theorem lifted (os : Os) (started : os.Started) (H : Type) (enc : TypeId × Value → H) :
    ReturnsInHanded {} Try.checked os 8 .any (Rows.diskNamesSpec.pre6 enc Try.prog Try.f8 Rows.diskNamesRow.domain false) (Rows.diskNamesSpec.post enc Try.prog Try.f8 false true false false) := by
  refine returnsInHanded_of_change (C := Try.checked) Try.own started (by kernel_rfl) Try.func8
    (ChangeSpec.witness6 (enc := enc) (C := Try.checked) false ⟨#[], #[.string ⟨#[]⟩], []⟩ 8 (by kernel_rfl) (by kernel_rfl) (by kernel_rfl) (by kernel_rfl)) ?_
  intro W base args ds gs before hval0 hW _ _
  have hval : ∀ (j : Nat) t v, Try.f8.params[j]? = some t → args[j]? = some v → Value.okWide Try.prog W .any base t v := hval0
  have hW' := hW
  obtain ⟨p, q, hA0, hV, rfl, _, _⟩ := hW
  have hA : DataW.TrodAll enc Try.prog W 0 (fun _ => true) true Try.f8.params.toList args.toList ds p := hA0
  rw [Try.params8] at hA hval
  obtain ⟨v0, d0, rfl, rfl, h0⟩ := trodAll_one hA
  obtain ⟨rfl, rfl⟩ := trodVars_none hV
  obtain ⟨a0, rfl, rfl, rfl, w0⟩ := ChangeMaps.open_string Try.underlying9 (hval 0 _ v0 rfl rfl) h0
  simp only [maxLen] at w0
  refine (walk a0 _).mono fun e W' ⟨he, hb⟩ => ⟨_, he, ?_⟩
  exact law_post Try.laidOut (by decide +kernel) rfl Try.underlying4 rfl hW' rfl hb

theorem holds : Rows.DiskNamesSaid :=
  OpenClaim.holds_of_wide 8 Try.f8 rfl rfl rfl rfl rfl rfl rfl ⟨rfl, rfl, rfl, rfl, rfl⟩ rfl rfl rfl rfl rfl (by kernel_rfl) Try.func8 (by kernel_rfl)
    (of_decide_eq_true (by kernel_rfl)) (by unfold Func.isWrapper; first | (rw [if_pos (by decide +kernel)]; kernel_rfl) | (rw [if_neg (by decide +kernel)]; exact ⟨rfl, rfl⟩))
    (fun os started H enc _ => lifted os started H enc)
end Go.Proofs.Ytbdaflhmloodfaa.L06
