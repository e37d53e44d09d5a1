/- DiskTwice: Up where the power is there does nothing but that nothing is armed: any deeds (the first 20, the first 30 bytes of their texts), any keep. No conditions. -/
import Derived.Test.YtbdaflhmloodfaaIq
namespace Go.Proofs.Ytbdaflhmloodfaa.L07
open Go.RowKit Go.ChangeShapes Go.WideShapes Go.ChangeAt
set_option linter.unusedVariables false

set_option maxHeartbeats 8000000 in
set_option maxRecDepth 100000 in
theorem walk (va vk : Value) (l : List Deed) (keep : List Int) (w : World) (h : RdX deedL w w.heap.size va l) (hd : ∀ x ∈ l, OkDeed w w.heap.size x) (hkr : RdI w w.heap.size vk keep) (hkb : ∀ x ∈ keep, -9223372036854775808 ≤ x ∧ x ≤ 9223372036854775807) :
    Calls Try.prog 9 #[va, vk] w fun e w' => e = .returned (.bool true) ∧ Below w.heap.size w w' := by
  obtain ⟨S, hS⟩ : ∃ S : Nat → Prop, S = fun i => w.heap.size ≤ i := ⟨_, rfl⟩
  have HSI := Lib.hid (show ∀ i, w.heap.size ≤ i → S i from fun i h => by rw [hS]; exact h)
  have HSB := Lib.hid (show ∀ i, S i → w.heap.size ≤ i from fun i h => by rw [hS] at h; exact h)
  have HX := Lib.hid h
  have HD := Lib.hid hd
  have HKR := Lib.hid hkr
  have HKB := Lib.hid hkb
  obtain ⟨VA, vc, e, -⟩ := h
  subst e
  clear hS hd hkr hkb
  go_enter Try.func9, Try.ntmps9
  go_wp2_with fail
  refine (p_new w 1000 S ⟨by omega, by omega⟩ HSI.out).mono ?_
  rintro e w1 ⟨g, rfl, hg, hm1, hb1⟩
  have M1 := Lib.hid hm1
  have G1 := Lib.hid hb1
  clear hm1 hb1 hg
  go_wp2_with fail
  refine (ref_new7 w1 1000 (by omega) (by omega)).mono ?_
  rintro e w2 ⟨p', rfl, hd2, hb2⟩
  have BB := Lib.hid (both_new ⟨by omega, by omega⟩ M1.out G1.out hd2 hb2)
  have G2 := Lib.hid (G1.out.trans (hb2.mono G1.out.size))
  obtain rfl := hd2.ptr
  clear hd2 hb2
  go_wp2_with fail
  go_loopw [7] (fun i wr => ∃ (k : Nat) (d : Dk), i = .int .i64 k ∧ k ≤ l.length ∧ k ≤ 20 ∧ Both wr w.heap.size S g w1.heap.size (.pointer (some ⟨g, 0, none⟩)) (.pointer (some ⟨w1.heap.size, 0, none⟩)) d ∧ NamesOk d ∧ usedF d.f ≤ 30 * (k : Int) ∧ Below w.heap.size w wr) (fun i _ => l.length - (intOf i).toNat)
  case atStart => exact ⟨0, _, rfl, Nat.zero_le _, by omega, BB.out, names_new 1000, by simp [usedF], G2.out⟩
  case round =>
    obtain ⟨k, d, rfl, hk, hk20, hbb, hnm, hus, hbw⟩ := hrel
    have BR := Lib.hid hbb
    have HNM := Lib.hid hnm
    have HUS := Lib.hid hus
    have G := Lib.hid hbw
    have U2 := Lib.hid (upD_down d keep)
    have UA := Lib.hid (up_again U2.out.1 U2.out.2 keep)
    have HKE := Lib.hid (keep_up hnm hbb.ok.safe keep)
    have US2 := Lib.hid (show usedF (upD d keep).f ≤ 100000 from by have := HKE.out.2; omega)
    have CI := Lib.hid (show ((createD (upD d keep) ⟨#[102, 114, 101, 115, 104]⟩).2 != 7) = true from by rw [create_idle U2.out.1 U2.out.2]; have := createE_ne (upD d keep) ⟨#[102, 114, 101, 115, 104]⟩; simpa [bne] using this)
    clear hbb hnm hus hbw
    by_cases hin : k < l.length ∧ k < 20
    · obtain ⟨hlt, h20⟩ := hin
      have zl : decide ((k : Int) < (l.length : Int)) = true := by simp; omega
      have z20 : decide ((k : Int) < 20) = true := by simp; omega
      obtain ⟨b, o, c, e, c0, c1, c2, c3, c4, c5⟩ := deed_cells (HX.out.below G.out) k hlt
      injection e with e1 e2 e3
      subst e1 e3
      clear e2
      have DC := Lib.hid (does_any wr w.heap.size S g w1.heap.size _ _ d l[k] BR.out G.out.size HSB.out (fun i hi => HSI.out i (Nat.le_trans G.out.size hi)) ((HD.out _ (List.getElem_mem hlt)).on G.out))
      have hkd := keep_does HNM.out BR.out.ok l[k]
      have NM2 := Lib.hid hkd.1
      have US3 := Lib.hid (show usedF (doesD d l[k]).f ≤ 30 * ((k + 1 : Nat) : Int) from by have := hkd.2; have := HUS.out; omega)
      clear hkd
      generalize l[k] = x at *
      go_wp2_with (go_at_call 13; refine (DC.out).mono ?_; rintro e w3 ⟨rfl, hbb, hb⟩; have B3 := Lib.hid hbb; have G3 := Lib.hid hb; clear hbb hb)
      go_roundw
      case rel => exact ⟨k + 1, doesD d x, by go_num, by omega, by omega, B3.out, NM2.out, US3.out, G.out.trans G3.out⟩
      case measure => simp [intOf]; omega
    · have hd20 : ¬ (k < l.length ∧ k < 20) := hin
      have HLT := Lib.hid hin
      by_cases hlt : k < l.length
      · have h20 : 20 ≤ k := by omega
        have zl : decide ((k : Int) < (l.length : Int)) = true := by simp; omega
        have z20 : decide ((k : Int) < 20) = false := by rw [decide_eq_false_iff_not]; omega
        clear hin hd20
        go_wp2_with fail
        refine (p_up BR.out.rm BR.out.ok (fun i hi => HSI.out i (Nat.le_trans G.out.size hi)) _ keep (fun wx hx => ⟨w.heap.size, (HKR.out.below G.out).below (hx.under G.out.size HSB.out)⟩) HKB.out).mono ?_
        rintro e w3 ⟨rfl, hm3, hk3⟩
        have M3 := Lib.hid hm3
        have K3 := Lib.hid hk3
        have G3 := Lib.hid (G.out.trans (hk3.under G.out.size HSB.out))
        clear hm3 hk3
        go_wp2_with fail
        refine (ref_up7 _ w.heap.size w1.heap.size _ _ d keep (BR.out.rd.kept K3.out) BR.out.ok (HKR.out.below G3.out) HKB.out).mono ?_
        rintro e w4 ⟨rfl, hd4, hk4⟩
        have D4 := Lib.hid hd4
        have M4 := Lib.hid (M3.out.keeps hk4)
        have G4 := Lib.hid (G3.out.trans hk4.below)
        clear hd4 hk4
        go_wp2_with fail
        refine (p_arm M4.out 0 (by omega)).mono ?_
        rintro e w5 ⟨rfl, hm5, hk5⟩
        have M5 := Lib.hid hm5
        have D5 := Lib.hid (D4.out.kept hk5)
        have G5 := Lib.hid (G4.out.trans (hk5.under G4.out.size HSB.out))
        clear hm5 hk5
        go_wp2_with fail
        refine (p_up M5.out (ok_arm (ok_up BR.out.ok keep) 0 (by omega)) (fun i hi => HSI.out i (Nat.le_trans G5.out.size hi)) _ keep (fun wx hx => ⟨w.heap.size, (HKR.out.below G5.out).below (hx.under G5.out.size HSB.out)⟩) HKB.out).mono ?_
        rintro e w6 ⟨rfl, hm6, hk6⟩
        rw [UA.out] at hm6
        have M6 := Lib.hid hm6
        have D6 := Lib.hid (D5.out.kept hk6)
        have G6 := Lib.hid (G5.out.trans (hk6.under G5.out.size HSB.out))
        clear hm6 hk6
        go_wp2_with fail
        refine (like_any _ w.heap.size S g w1.heap.size _ _ (upD d keep) ⟨M6.out, D6.out, ok_up BR.out.ok keep⟩ HKE.out.1 US2.out).mono ?_
        rintro e w7 ⟨rfl, hb7⟩
        have M7 := Lib.hid (M6.out.on hb7)
        have G7 := Lib.hid (G6.out.trans (hb7.mono G6.out.size))
        clear hb7
        go_wp2_with fail
        refine (p_alive M7.out).mono ?_
        rintro e w8 ⟨rfl, rfl⟩
        rw [U2.out.1]
        go_wp2_with fail
        refine (p_create M7.out (ok_up BR.out.ok keep) (fun i hi => HSI.out i (Nat.le_trans G7.out.size hi)) ⟨#[102, 114, 101, 115, 104]⟩ (by decide)).mono ?_
        rintro e w9 ⟨rfl, hm9, hk9⟩
        have G9 := Lib.hid (G7.out.trans (hk9.under G7.out.size HSB.out))
        have hci := CI.out
        clear hm9 hk9
        generalize (createD (upD d keep) ⟨#[102, 114, 101, 115, 104]⟩).2 = q9 at *
        go_wp2_with fail
        refine (lives_any _).mono ?_
        rintro e w10 ⟨rfl, hb10⟩
        have G10 := Lib.hid (G9.out.trans (hb10.mono G9.out.size))
        clear hb10
        go_wp2_with fail
        go_ret
        exact ⟨rfl, G10.out⟩
      · have zl : decide ((k : Int) < (l.length : Int)) = false := by rw [decide_eq_false_iff_not]; omega
        clear hin hd20
        go_wp2_with fail
        refine (p_up BR.out.rm BR.out.ok (fun i hi => HSI.out i (Nat.le_trans G.out.size hi)) _ keep (fun wx hx => ⟨w.heap.size, (HKR.out.below G.out).below (hx.under G.out.size HSB.out)⟩) HKB.out).mono ?_
        rintro e w3 ⟨rfl, hm3, hk3⟩
        have M3 := Lib.hid hm3
        have K3 := Lib.hid hk3
        have G3 := Lib.hid (G.out.trans (hk3.under G.out.size HSB.out))
        clear hm3 hk3
        go_wp2_with fail
        refine (ref_up7 _ w.heap.size w1.heap.size _ _ d keep (BR.out.rd.kept K3.out) BR.out.ok (HKR.out.below G3.out) HKB.out).mono ?_
        rintro e w4 ⟨rfl, hd4, hk4⟩
        have D4 := Lib.hid hd4
        have M4 := Lib.hid (M3.out.keeps hk4)
        have G4 := Lib.hid (G3.out.trans hk4.below)
        clear hd4 hk4
        go_wp2_with fail
        refine (p_arm M4.out 0 (by omega)).mono ?_
        rintro e w5 ⟨rfl, hm5, hk5⟩
        have M5 := Lib.hid hm5
        have D5 := Lib.hid (D4.out.kept hk5)
        have G5 := Lib.hid (G4.out.trans (hk5.under G4.out.size HSB.out))
        clear hm5 hk5
        go_wp2_with fail
        refine (p_up M5.out (ok_arm (ok_up BR.out.ok keep) 0 (by omega)) (fun i hi => HSI.out i (Nat.le_trans G5.out.size hi)) _ keep (fun wx hx => ⟨w.heap.size, (HKR.out.below G5.out).below (hx.under G5.out.size HSB.out)⟩) HKB.out).mono ?_
        rintro e w6 ⟨rfl, hm6, hk6⟩
        rw [UA.out] at hm6
        have M6 := Lib.hid hm6
        have D6 := Lib.hid (D5.out.kept hk6)
        have G6 := Lib.hid (G5.out.trans (hk6.under G5.out.size HSB.out))
        clear hm6 hk6
        go_wp2_with fail
        refine (like_any _ w.heap.size S g w1.heap.size _ _ (upD d keep) ⟨M6.out, D6.out, ok_up BR.out.ok keep⟩ HKE.out.1 US2.out).mono ?_
        rintro e w7 ⟨rfl, hb7⟩
        have M7 := Lib.hid (M6.out.on hb7)
        have G7 := Lib.hid (G6.out.trans (hb7.mono G6.out.size))
        clear hb7
        go_wp2_with fail
        refine (p_alive M7.out).mono ?_
        rintro e w8 ⟨rfl, rfl⟩
        rw [U2.out.1]
        go_wp2_with fail
        refine (p_create M7.out (ok_up BR.out.ok keep) (fun i hi => HSI.out i (Nat.le_trans G7.out.size hi)) ⟨#[102, 114, 101, 115, 104]⟩ (by decide)).mono ?_
        rintro e w9 ⟨rfl, hm9, hk9⟩
        have G9 := Lib.hid (G7.out.trans (hk9.under G7.out.size HSB.out))
        have hci := CI.out
        clear hm9 hk9
        generalize (createD (upD d keep) ⟨#[102, 114, 101, 115, 104]⟩).2 = q9 at *
        go_wp2_with fail
        refine (lives_any _).mono ?_
        rintro e w10 ⟨rfl, hb10⟩
        have G10 := Lib.hid (G9.out.trans (hb10.mono G9.out.size))
        clear hb10
        go_wp2_with fail
        go_ret
        exact ⟨rfl, G10.out⟩
-- END
set_option maxRecDepth 100000 in
theorem lifted (os : Os) (started : os.Started) (H : Type) (enc : TypeId × Value → H) :
    ReturnsInHanded {} Try.checked os 9 .any (Rows.diskTwiceSpec.pre6 enc Try.prog Try.f9 Rows.diskTwiceRow.domain false) (Rows.diskTwiceSpec.post enc Try.prog Try.f9 false true false false) := by
  refine returnsInHanded_of_change (C := Try.checked) Try.own started (by kernel_rfl) Try.func9
    (ChangeSpec.witness6 (enc := enc) (C := Try.checked) false ⟨#[], #[.slice none 0 0, .slice none 0 0], []⟩ 8 (by kernel_rfl) (by kernel_rfl) (by kernel_rfl) (by kernel_rfl)) ?_
  intro W base args ds gs before hval0 hW _ _
  have hval : ∀ (j : Nat) t v, Try.f9.params[j]? = some t → args[j]? = some v → Value.okWide Try.prog W .any base t v := hval0
  have hW' := hW
  obtain ⟨p, q, hA0, hV, rfl, _, _⟩ := hW
  have hA : DataW.TrodAll enc Try.prog W 0 (fun _ => true) true Try.f9.params.toList args.toList ds p := hA0
  rw [Try.params9] at hA hval
  obtain ⟨v0, v1, d0, d1, p0, p1, rfl, rfl, rfl, h0, h1⟩ := trodAll_two hA
  obtain ⟨rfl, rfl⟩ := trodVars_none hV
  have hlt := fun x hx => hW'.lt x hx
  obtain ⟨a0, r0, b0⟩ := open_deeds (hval 0 _ v0 rfl rfl) h0 (fun x hx => by simpa using hlt x (by simp [hx]))
  obtain ⟨a1, r1, b1⟩ := open_nums (hval 1 _ v1 rfl rfl) h1 (fun x hx => by simpa using hlt x (by simp [hx]))
  refine (walk _ _ a0 a1 _ r0 b0 r1 b1).mono fun e W' ⟨he, hb⟩ => ⟨_, he, ?_⟩
  exact law_post Try.laidOut (by decide +kernel) rfl Try.underlying4 rfl hW' rfl hb

theorem holds : Rows.DiskTwiceSaid :=
  OpenClaim.holds_of_wide 9 Try.f9 rfl rfl rfl rfl rfl rfl rfl ⟨rfl, rfl, rfl, rfl, rfl⟩ rfl rfl rfl rfl rfl (by kernel_rfl) Try.func9 (by kernel_rfl)
    (of_decide_eq_true (by kernel_rfl)) (by unfold Func.isWrapper; first | (rw [if_pos (by decide +kernel)]; kernel_rfl) | (rw [if_neg (by decide +kernel)]; exact ⟨rfl, rfl⟩))
    (fun os started H enc _ => lifted os started H enc)
end Go.Proofs.Ytbdaflhmloodfaa.L07
