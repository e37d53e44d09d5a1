/- DiskFull: a disk is never more than full, and what is refused changes nothing: any quota (up to 100), any deeds (the first 30) but those of the quota. No conditions. -/
import Derived.Test.YtbdaflhmloodfaaIq
namespace Go.Proofs.Ytbdaflhmloodfaa.L03
open Go.RowKit Go.ChangeShapes Go.WideShapes Go.ChangeAt
set_option linter.unusedVariables false

def quoF (q : Int) : Int := (if q < 0 then -(q + 1) else q) % 101
theorem quoF_bd (q : Int) : 0 ≤ quoF q ∧ quoF q ≤ 100 := by unfold quoF; omega

set_option maxHeartbeats 8000000 in
set_option maxRecDepth 100000 in
theorem rest (q : Int) (va : Value) (l : List Deed) (w : World) (h : RdX deedL w w.heap.size va l) (hd : ∀ x ∈ l, OkDeed w w.heap.size x) (z : Int) (hz : z = quoF q) (hq0 : -9223372036854775808 ≤ q ∧ q ≤ 9223372036854775807) :
    Calls Try.prog 5 #[.int .i64 q, va] w fun e w' => e = .returned (.bool true) ∧ Below w.heap.size w w' := by
  obtain ⟨S, hS⟩ : ∃ S : Nat → Prop, S = fun i => w.heap.size ≤ i := ⟨_, rfl⟩
  have HSI := Lib.hid (show ∀ i, w.heap.size ≤ i → S i from fun i h => by rw [hS]; exact h)
  have HSB := Lib.hid (show ∀ i, S i → w.heap.size ≤ i from fun i h => by rw [hS] at h; exact h)
  have HX := Lib.hid h
  have HD := Lib.hid hd
  have hqb := quoF_bd q
  rw [← hz] at hqb
  have HQ := Lib.hid (show 0 ≤ z ∧ z ≤ 16777216 from by omega)
  have HZ := Lib.hid hz
  obtain ⟨VA, vc, e, -⟩ := h
  subst e
  clear hS hd hz
  by_cases hneg : q < 0
  · have hz2 : z = (-(q + 1)) % 101 := by rw [HZ.out]; unfold quoF; rw [if_pos hneg]
    have hw1 : IntKind.i64.wrap (q + 1) = q + 1 := by rw [IntKind.wrap_i64]; omega
    have hv1 : wrap64 (q + 1) = q + 1 := by unfold wrap64; omega
    have hw2 : IntKind.i64.wrap (-(q + 1)) = -(q + 1) := by rw [IntKind.wrap_i64]; omega
    have hv2 : wrap64 (-(q + 1)) = -(q + 1) := by unfold wrap64; omega
    have hrm : Int.tmod (-(q + 1)) 101 = z := by rw [hz2]; exact Int.tmod_eq_emod_of_nonneg (by omega)
    have hrm2 : -Int.tmod (q + 1) 101 = z := by rw [← hrm]; exact (Int.neg_tmod ..).symm
    have hrm3 : -(q + 1) % 101 = z := hz2.symm
    clear hz2
    go_enter Try.func5, Try.ntmps5
    go_wp2_with fail
    refine (p_new w z S HQ.out HSI.out).mono ?_
    clear hw1 hv1 hw2 hv2 hrm hrm2 hrm3
    rintro e w1 ⟨g, rfl, hg, hm1, hb1⟩
    have M1 := Lib.hid hm1
    have G1 := Lib.hid hb1
    clear hm1 hb1 hg
    go_wp2_with fail
    refine (ref_new7 w1 z HQ.out.1 HQ.out.2).mono ?_
    rintro e w2 ⟨p', rfl, hd2, hb2⟩
    have BB := Lib.hid (both_new HQ.out M1.out G1.out hd2 hb2)
    have G2 := Lib.hid (G1.out.trans (hb2.mono G1.out.size))
    obtain rfl := hd2.ptr
    clear hd2 hb2
    go_wp2_with fail
    go_loopw [7] (fun i wr => ∃ (k : Nat) (d : Dk), i = .int .i64 k ∧ k ≤ l.length ∧ k ≤ 30 ∧ Both wr w.heap.size S g w1.heap.size (.pointer (some ⟨g, 0, none⟩)) (.pointer (some ⟨w1.heap.size, 0, none⟩)) d ∧ NamesOk d ∧ usedF d.f ≤ d.max ∧ d.max = z ∧ Below w.heap.size w wr) (fun i _ => l.length - (intOf i).toNat)
    case atStart => exact ⟨0, _, rfl, Nat.zero_le _, by omega, BB.out, names_new z, HQ.out.1, rfl, G2.out⟩
    case round =>
      obtain ⟨k, d, rfl, hk, hk30, hbb, hnm, hus, hmx, hbw⟩ := hrel
      have BR := Lib.hid hbb
      have HNM := Lib.hid hnm
      have HUS := Lib.hid hus
      have HMX := Lib.hid hmx
      have G := Lib.hid hbw
      clear hbb hnm hus hbw hmx
      by_cases hin : k < l.length ∧ k < 30
      · obtain ⟨hlt, h30⟩ := hin
        have zl : decide ((k : Int) < (l.length : Int)) = true := by simp; omega
        have z30 : decide ((k : Int) < 30) = true := by simp; omega
        obtain ⟨b, o, c, e, c0, c1, c2, c3, c4, c5⟩ := deed_cells (HX.out.below G.out) k hlt
        injection e with e1 e2 e3
        subst e1 e3
        clear e2
        by_cases hk7 : l[k].kind = 7
        · have z7 : (l[k].kind == 7) = true := by simpa using hk7
          clear hk7
          generalize l[k] = x at *
          go_wp2_with fail
          go_roundw
          case rel => exact ⟨k + 1, d, by go_num, by omega, by omega, BR.out, HNM.out, HUS.out, HMX.out, G.out⟩
          case measure => simp [intOf]; omega
        · have z7 : (l[k].kind == 7) = false := by simpa using hk7
          have DC := Lib.hid (does_any wr w.heap.size S g w1.heap.size _ _ d l[k] BR.out G.out.size HSB.out (fun i hi => HSI.out i (Nat.le_trans G.out.size hi)) ((HD.out _ (List.getElem_mem hlt)).on G.out))
          have NM2 := Lib.hid (keep_does HNM.out BR.out.ok l[k]).1
          have hfd := full_does HNM.out BR.out.ok HUS.out l[k] hk7
          have hmd := max_does (d := d) l[k] hk7
          have US2 := Lib.hid (show usedF (doesD d l[k]).f ≤ (doesD d l[k]).max from by rw [hmd]; exact hfd)
          have MX2 := Lib.hid (show (doesD d l[k]).max = z from by rw [hmd]; exact HMX.out)
          have hle : usedF (doesD d l[k]).f ≤ z := by rw [← HMX.out]; exact hfd
          have hnn := usedF_nn (doesD d l[k]).f
          have hbig : usedF (doesD d l[k]).f ≤ 1000000000 := by have := HQ.out.2; omega
          have HBIG := Lib.hid hbig
          clear hk7 hfd hmd hbig
          generalize l[k] = x at *
          generalize doesD d x = d2 at *
          go_wp2_with (go_at_call 13; refine (DC.out).mono ?_; rintro e w3 ⟨rfl, hbb, hb⟩; have B3 := Lib.hid hbb; have G3 := Lib.hid (G.out.trans hb); clear hbb hb)
          refine (p_used B3.out.rm HBIG.out).mono ?_
          rintro e w4 ⟨rfl, hb4⟩
          have B4 := Lib.hid (B3.out.rm.on hb4)
          have G4 := Lib.hid (G3.out.trans (hb4.mono G3.out.size))
          have D4 := Lib.hid (B3.out.rd.on hb4)
          clear hb4
          go_wp2_with fail
          refine (p_used B4.out HBIG.out).mono ?_
          rintro e w5 ⟨rfl, hb5⟩
          have B5 := Lib.hid (B4.out.on hb5)
          have D5 := Lib.hid (D4.out.on hb5)
          have G5 := Lib.hid (G4.out.trans (hb5.mono G4.out.size))
          clear hb5
          go_wp2_with fail
          go_roundw
          case rel => exact ⟨k + 1, d2, by go_num, by omega, by omega, ⟨B5.out, D5.out, B3.out.ok⟩, NM2.out, US2.out, MX2.out, G5.out⟩
          case measure => simp [intOf]; omega
      · by_cases hlt : k < l.length
        · have h30 : 30 ≤ k := by omega
          have zl : decide ((k : Int) < (l.length : Int)) = true := by simp; omega
          have z30 : decide ((k : Int) < 30) = false := by rw [decide_eq_false_iff_not]; omega
          clear hin
          go_wp2_with (go_at_call 12; refine (lives_any _).mono ?_; rintro e w3 ⟨rfl, hb⟩; have G3 := Lib.hid hb; clear hb)
          go_ret
          exact ⟨rfl, G.out.trans (G3.out.mono G.out.size)⟩
        · have zl : decide ((k : Int) < (l.length : Int)) = false := by rw [decide_eq_false_iff_not]; omega
          clear hin
          go_wp2_with (go_at_call 12; refine (lives_any _).mono ?_; rintro e w3 ⟨rfl, hb⟩; have G3 := Lib.hid hb; clear hb)
          go_ret
          exact ⟨rfl, G.out.trans (G3.out.mono G.out.size)⟩
  · have hz2 : z = q % 101 := by rw [HZ.out]; unfold quoF; rw [if_neg hneg]
    have hrm : Int.tmod q 101 = z := by rw [hz2]; exact Int.tmod_eq_emod_of_nonneg (by omega)
    have hrm3 : q % 101 = z := hz2.symm
    have hpos : 0 ≤ q := by omega
    clear hz2 hneg
    go_enter Try.func5, Try.ntmps5
    go_wp2_with fail
    refine (p_new w z S HQ.out HSI.out).mono ?_
    clear hrm hrm3
    rintro e w1 ⟨g, rfl, hg, hm1, hb1⟩
    have M1 := Lib.hid hm1
    have G1 := Lib.hid hb1
    clear hm1 hb1 hg
    go_wp2_with fail
    refine (ref_new7 w1 z HQ.out.1 HQ.out.2).mono ?_
    rintro e w2 ⟨p', rfl, hd2, hb2⟩
    have BB := Lib.hid (both_new HQ.out M1.out G1.out hd2 hb2)
    have G2 := Lib.hid (G1.out.trans (hb2.mono G1.out.size))
    obtain rfl := hd2.ptr
    clear hd2 hb2
    go_wp2_with fail
    go_loopw [7] (fun i wr => ∃ (k : Nat) (d : Dk), i = .int .i64 k ∧ k ≤ l.length ∧ k ≤ 30 ∧ Both wr w.heap.size S g w1.heap.size (.pointer (some ⟨g, 0, none⟩)) (.pointer (some ⟨w1.heap.size, 0, none⟩)) d ∧ NamesOk d ∧ usedF d.f ≤ d.max ∧ d.max = z ∧ Below w.heap.size w wr) (fun i _ => l.length - (intOf i).toNat)
    case atStart => exact ⟨0, _, rfl, Nat.zero_le _, by omega, BB.out, names_new z, HQ.out.1, rfl, G2.out⟩
    case round =>
      obtain ⟨k, d, rfl, hk, hk30, hbb, hnm, hus, hmx, hbw⟩ := hrel
      have BR := Lib.hid hbb
      have HNM := Lib.hid hnm
      have HUS := Lib.hid hus
      have HMX := Lib.hid hmx
      have G := Lib.hid hbw
      clear hbb hnm hus hbw hmx
      by_cases hin : k < l.length ∧ k < 30
      · obtain ⟨hlt, h30⟩ := hin
        have zl : decide ((k : Int) < (l.length : Int)) = true := by simp; omega
        have z30 : decide ((k : Int) < 30) = true := by simp; omega
        obtain ⟨b, o, c, e, c0, c1, c2, c3, c4, c5⟩ := deed_cells (HX.out.below G.out) k hlt
        injection e with e1 e2 e3
        subst e1 e3
        clear e2
        by_cases hk7 : l[k].kind = 7
        · have z7 : (l[k].kind == 7) = true := by simpa using hk7
          clear hk7
          generalize l[k] = x at *
          go_wp2_with fail
          go_roundw
          case rel => exact ⟨k + 1, d, by go_num, by omega, by omega, BR.out, HNM.out, HUS.out, HMX.out, G.out⟩
          case measure => simp [intOf]; omega
        · have z7 : (l[k].kind == 7) = false := by simpa using hk7
          have DC := Lib.hid (does_any wr w.heap.size S g w1.heap.size _ _ d l[k] BR.out G.out.size HSB.out (fun i hi => HSI.out i (Nat.le_trans G.out.size hi)) ((HD.out _ (List.getElem_mem hlt)).on G.out))
          have NM2 := Lib.hid (keep_does HNM.out BR.out.ok l[k]).1
          have hfd := full_does HNM.out BR.out.ok HUS.out l[k] hk7
          have hmd := max_does (d := d) l[k] hk7
          have US2 := Lib.hid (show usedF (doesD d l[k]).f ≤ (doesD d l[k]).max from by rw [hmd]; exact hfd)
          have MX2 := Lib.hid (show (doesD d l[k]).max = z from by rw [hmd]; exact HMX.out)
          have hle : usedF (doesD d l[k]).f ≤ z := by rw [← HMX.out]; exact hfd
          have hnn := usedF_nn (doesD d l[k]).f
          have hbig : usedF (doesD d l[k]).f ≤ 1000000000 := by have := HQ.out.2; omega
          have HBIG := Lib.hid hbig
          clear hk7 hfd hmd hbig
          generalize l[k] = x at *
          generalize doesD d x = d2 at *
          go_wp2_with (go_at_call 13; refine (DC.out).mono ?_; rintro e w3 ⟨rfl, hbb, hb⟩; have B3 := Lib.hid hbb; have G3 := Lib.hid (G.out.trans hb); clear hbb hb)
          refine (p_used B3.out.rm HBIG.out).mono ?_
          rintro e w4 ⟨rfl, hb4⟩
          have B4 := Lib.hid (B3.out.rm.on hb4)
          have G4 := Lib.hid (G3.out.trans (hb4.mono G3.out.size))
          have D4 := Lib.hid (B3.out.rd.on hb4)
          clear hb4
          go_wp2_with fail
          refine (p_used B4.out HBIG.out).mono ?_
          rintro e w5 ⟨rfl, hb5⟩
          have B5 := Lib.hid (B4.out.on hb5)
          have D5 := Lib.hid (D4.out.on hb5)
          have G5 := Lib.hid (G4.out.trans (hb5.mono G4.out.size))
          clear hb5
          go_wp2_with fail
          go_roundw
          case rel => exact ⟨k + 1, d2, by go_num, by omega, by omega, ⟨B5.out, D5.out, B3.out.ok⟩, NM2.out, US2.out, MX2.out, G5.out⟩
          case measure => simp [intOf]; omega
      · by_cases hlt : k < l.length
        · have h30 : 30 ≤ k := by omega
          have zl : decide ((k : Int) < (l.length : Int)) = true := by simp; omega
          have z30 : decide ((k : Int) < 30) = false := by rw [decide_eq_false_iff_not]; omega
          clear hin
          go_wp2_with (go_at_call 12; refine (lives_any _).mono ?_; rintro e w3 ⟨rfl, hb⟩; have G3 := Lib.hid hb; clear hb)
          go_ret
          exact ⟨rfl, G.out.trans (G3.out.mono G.out.size)⟩
        · have zl : decide ((k : Int) < (l.length : Int)) = false := by rw [decide_eq_false_iff_not]; omega
          clear hin
          go_wp2_with (go_at_call 12; refine (lives_any _).mono ?_; rintro e w3 ⟨rfl, hb⟩; have G3 := Lib.hid hb; clear hb)
          go_ret
          exact ⟨rfl, G.out.trans (G3.out.mono G.out.size)⟩
theorem walk (q : Int) (va : Value) (l : List Deed) (w : World) (hq : -9223372036854775808 ≤ q ∧ q ≤ 9223372036854775807) (h : RdX deedL w w.heap.size va l) (hd : ∀ x ∈ l, OkDeed w w.heap.size x) :
    Calls Try.prog 5 #[.int .i64 q, va] w fun e w' => e = .returned (.bool true) ∧ Below w.heap.size w w' := rest q va l w h hd _ rfl hq
-- END
set_option maxRecDepth 100000 in
theorem lifted (os : Os) (started : os.Started) (H : Type) (enc : TypeId × Value → H) :
    ReturnsInHanded {} Try.checked os 5 .any (Rows.diskFullSpec.pre6 enc Try.prog Try.f5 Rows.diskFullRow.domain false) (Rows.diskFullSpec.post enc Try.prog Try.f5 false true false false) := by
  refine returnsInHanded_of_change (C := Try.checked) Try.own started (by kernel_rfl) Try.func5
    (ChangeSpec.witness6 (enc := enc) (C := Try.checked) false ⟨#[], #[.int .i64 0, .slice none 0 0], []⟩ 8 (by kernel_rfl) (by kernel_rfl) (by kernel_rfl) (by kernel_rfl)) ?_
  intro W base args ds gs before hval0 hW _ _
  have hval : ∀ (j : Nat) t v, Try.f5.params[j]? = some t → args[j]? = some v → Value.okWide Try.prog W .any base t v := hval0
  have hW' := hW
  obtain ⟨p, q, hA0, hV, rfl, _, _⟩ := hW
  have hA : DataW.TrodAll enc Try.prog W 0 (fun _ => true) true Try.f5.params.toList args.toList ds p := hA0
  rw [Try.params5] at hA hval
  obtain ⟨v0, v1, d0, d1, p0, p1, rfl, rfl, rfl, h0, h1⟩ := trodAll_two hA
  obtain ⟨rfl, rfl⟩ := trodVars_none hV
  have hlt := fun x hx => hW'.lt x hx
  obtain ⟨a0, rfl, rfl, rfl, w0⟩ := open_int Try.underlying3 (hval 0 _ v0 rfl rfl) h0
  have w0 := wf_int w0
  obtain ⟨a1, r1, b1⟩ := open_deeds (hval 1 _ v1 rfl rfl) h1 (fun x hx => by simpa using hlt x (by simp [hx]))
  refine (walk a0 _ a1 _ w0 r1 b1).mono fun e W' ⟨he, hb⟩ => ⟨_, he, ?_⟩
  exact law_post Try.laidOut (by decide +kernel) rfl Try.underlying4 rfl hW' rfl hb

theorem holds : Rows.DiskFullSaid :=
  OpenClaim.holds_of_wide 5 Try.f5 rfl rfl rfl rfl rfl rfl rfl ⟨rfl, rfl, rfl, rfl, rfl⟩ rfl rfl rfl rfl rfl (by kernel_rfl) Try.func5 (by kernel_rfl)
    (of_decide_eq_true (by kernel_rfl)) (by unfold Func.isWrapper; first | (rw [if_pos (by decide +kernel)]; kernel_rfl) | (rw [if_neg (by decide +kernel)]; exact ⟨rfl, rfl⟩))
    (fun os started H enc _ => lifted os started H enc)
end Go.Proofs.Ytbdaflhmloodfaa.L03
