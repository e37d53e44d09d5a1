/- DiskPlays: whatever is asked of a disk, it answers, and has, just what the document says: any quota, any deeds (the first 40, the first 30 bytes of their texts). No conditions. -/
import Derived.Test.YtbdaflhmloodfaaIe
namespace Go.Proofs.Ytbdaflhmloodfaa.L01
open Go.RowKit Go.ChangeShapes Go.WideShapes Go.ChangeAt
set_option linter.unusedVariables false

set_option maxHeartbeats 8000000 in
set_option maxRecDepth 100000 in
theorem walk (q : Int) (va : Value) (l : List Deed) (w : World) (h : RdX deedL w w.heap.size va l) (hd : ∀ x ∈ l, OkDeed w w.heap.size x) :
    Calls Try.prog 3 #[.int .i64 q, va] w fun e w' => e = .returned (.bool true) ∧ Below w.heap.size w w' := by
  by_cases hq : 0 ≤ q ∧ q ≤ 16777216
  · obtain ⟨S, hS⟩ : ∃ S : Nat → Prop, S = fun i => w.heap.size ≤ i := ⟨_, rfl⟩
    have HSI := Lib.hid (show ∀ i, w.heap.size ≤ i → S i from fun i h => by rw [hS]; exact h)
    have HSB := Lib.hid (show ∀ i, S i → w.heap.size ≤ i from fun i h => by rw [hS] at h; exact h)
    have HQ := Lib.hid hq
    have HX := Lib.hid h
    have HD := Lib.hid hd
    obtain ⟨VA, vc, e, -⟩ := h
    subst e
    clear hS hq hd
    go_enter Try.func3, Try.ntmps3
    go_wp2_with fail
    refine (p_new w q S HQ.out HSI.out).mono ?_
    rintro e w1 ⟨g, rfl, hg, hm1, hb1⟩
    have M1 := Lib.hid hm1
    have G1 := Lib.hid hb1
    clear hm1 hb1 hg
    go_wp2_with fail
    refine (ref_new7 w1 q HQ.out.1 HQ.out.2).mono ?_
    rintro e w2 ⟨p', rfl, hd2, hb2⟩
    have BB := Lib.hid (both_new HQ.out M1.out G1.out hd2 hb2)
    have G2 := Lib.hid (G1.out.trans (hb2.mono G1.out.size))
    obtain rfl := hd2.ptr
    clear hd2 hb2
    go_wp2_with fail
    go_loopw [7] (fun i wr => ∃ (k : Nat) (d : Dk), i = .int .i64 k ∧ k ≤ l.length ∧ k ≤ 40 ∧ Both wr w.heap.size S g w1.heap.size (.pointer (some ⟨g, 0, none⟩)) (.pointer (some ⟨w1.heap.size, 0, none⟩)) d ∧ NamesOk d ∧ usedF d.f ≤ 30 * (k : Int) ∧ Below w.heap.size w wr) (fun i _ => l.length - (intOf i).toNat)
    case atStart => exact ⟨0, _, rfl, Nat.zero_le _, by omega, BB.out, names_new q, by simp [usedF], G2.out⟩
    case round =>
      obtain ⟨k, d, rfl, hk, hk40, hbb, hnm, hus, hbw⟩ := hrel
      have BR := Lib.hid hbb
      have HNM := Lib.hid hnm
      have HUS := Lib.hid hus
      have G := Lib.hid hbw
      clear hbb hnm hus hbw
      by_cases hlt : k < l.length
      · have zl : decide ((k : Int) < (l.length : Int)) = true := by simp; omega
        by_cases h40 : k < 40
        · have z40 : decide ((k : Int) < 40) = true := by simp; omega
          obtain ⟨b, o, c, e, c0, c1, c2, c3, c4, c5⟩ := deed_cells (HX.out.below G.out) k hlt
          injection e with e1 e2 e3
          subst e1 e3
          clear e2
          have DC := Lib.hid (does_any wr w.heap.size S g w1.heap.size _ _ d l[k] BR.out G.out.size HSB.out (fun i hi => HSI.out i (Nat.le_trans G.out.size hi)) ((HD.out _ (List.getElem_mem hlt)).on G.out))
          have hkd := keep_does HNM.out BR.out.ok l[k]
          have NM2 := Lib.hid hkd.1
          have US2 := Lib.hid (show usedF (doesD d l[k]).f ≤ 30 * ((k + 1 : Nat) : Int) from by have := hkd.2; have := HUS.out; omega)
          have US3 := Lib.hid (show usedF (doesD d l[k]).f ≤ 100000 from by have := US2.out; omega)
          clear hkd
          generalize l[k] = x at *
          go_wp2_with (first
            | (go_at_call 13; refine (DC.out).mono ?_; rintro e w3 ⟨rfl, hbb, hb⟩; have B3 := Lib.hid hbb; have G3 := Lib.hid hb; clear hbb hb)
            | (go_at_call 14; refine (like_any _ _ _ _ _ _ _ _ B3.out NM2.out US3.out).mono ?_; rintro e w4 ⟨rfl, hb⟩; have G4 := Lib.hid hb; clear hb))
          go_roundw
          case rel => exact ⟨k + 1, doesD d x, by go_num, by omega, by omega, ⟨B3.out.rm.on G4.out, B3.out.rd.on G4.out, B3.out.ok⟩, NM2.out, US2.out, (G.out.trans G3.out).trans (G4.out.mono (Nat.le_trans G.out.size G3.out.size))⟩
          case measure => simp [intOf]; omega
        · have z40 : decide ((k : Int) < 40) = false := by rw [decide_eq_false_iff_not]; omega
          go_wp2_with (go_at_call 12; refine (lives_any _).mono ?_; rintro e w3 ⟨rfl, hb⟩; have G3 := Lib.hid hb; clear hb)
          go_ret
          exact ⟨rfl, G.out.trans (G3.out.mono G.out.size)⟩
      · have zl : decide ((k : Int) < (l.length : Int)) = false := by rw [decide_eq_false_iff_not]; omega
        go_wp2_with (go_at_call 12; refine (lives_any _).mono ?_; rintro e w3 ⟨rfl, hb⟩; have G3 := Lib.hid hb; clear hb)
        go_ret
        exact ⟨rfl, G.out.trans (G3.out.mono G.out.size)⟩
  · have HQ := Lib.hid hq
    clear hq h hd
    go_enter Try.func3, Try.ntmps3
    go_wp2_with (first
      | (go_at_call 10; refine (p_new_bad _ q HQ.out).mono ?_; rintro e w1 ⟨rfl, rfl⟩)
      | (go_at_call 11; refine (ref_new7_bad _ q HQ.out).mono ?_; rintro e w1 ⟨rfl, rfl⟩)
      | (go_at_call 12; refine (lives_any _).mono ?_; rintro e w3 ⟨rfl, hb⟩; have G3 := Lib.hid hb; clear hb))
    go_ret
    exact ⟨rfl, G3.out⟩
-- END
set_option maxRecDepth 100000 in
theorem lifted (os : Os) (started : os.Started) (H : Type) (enc : TypeId × Value → H) :
    ReturnsInHanded {} Try.checked os 3 .any (Rows.diskPlaysSpec.pre6 enc Try.prog Try.f3 Rows.diskPlaysRow.domain false) (Rows.diskPlaysSpec.post enc Try.prog Try.f3 false true false false) := by
  refine returnsInHanded_of_change (C := Try.checked) Try.own started (by kernel_rfl) Try.func3
    (ChangeSpec.witness6 (enc := enc) (C := Try.checked) false ⟨#[], #[.int .i64 0, .slice none 0 0], []⟩ 8 (by kernel_rfl) (by kernel_rfl) (by kernel_rfl) (by kernel_rfl)) ?_
  intro W base args ds gs before hval0 hW _ _
  have hval : ∀ (j : Nat) t v, Try.f3.params[j]? = some t → args[j]? = some v → Value.okWide Try.prog W .any base t v := hval0
  have hW' := hW
  obtain ⟨p, q, hA0, hV, rfl, _, _⟩ := hW
  have hA : DataW.TrodAll enc Try.prog W 0 (fun _ => true) true Try.f3.params.toList args.toList ds p := hA0
  rw [Try.params3] at hA hval
  obtain ⟨v0, v1, d0, d1, p0, p1, rfl, rfl, rfl, h0, h1⟩ := trodAll_two hA
  obtain ⟨rfl, rfl⟩ := trodVars_none hV
  have hlt := fun x hx => hW'.lt x hx
  obtain ⟨a0, rfl, rfl, rfl, w0⟩ := open_int Try.underlying3 (hval 0 _ v0 rfl rfl) h0
  have w0 := wf_int w0
  obtain ⟨a1, r1, b1⟩ := open_deeds (hval 1 _ v1 rfl rfl) h1 (fun x hx => by simpa using hlt x (by simp [hx]))
  refine (walk a0 _ a1 _ r1 b1).mono fun e W' ⟨he, hb⟩ => ⟨_, he, ?_⟩
  exact law_post Try.laidOut (by decide +kernel) rfl Try.underlying4 rfl hW' rfl hb

theorem holds : Rows.DiskPlaysSaid :=
  OpenClaim.holds_of_wide 3 Try.f3 rfl rfl rfl rfl rfl rfl rfl ⟨rfl, rfl, rfl, rfl, rfl⟩ rfl rfl rfl rfl rfl (by kernel_rfl) Try.func3 (by kernel_rfl)
    (of_decide_eq_true (by kernel_rfl)) (by unfold Func.isWrapper; first | (rw [if_pos (by decide +kernel)]; kernel_rfl) | (rw [if_neg (by decide +kernel)]; exact ⟨rfl, rfl⟩))
    (fun os started H enc _ => lifted os started H enc)
end Go.Proofs.Ytbdaflhmloodfaa.L01
