/- Layer 7: deeds that are none, of both disks. -/
import Derived.Test.YtbdaflhmloodfaaIa
namespace Go.Proofs.Ytbdaflhmloodfaa
open Go.RowKit
set_option linter.unusedVariables false

section
variable {w w' : World} {B g : Nat} {d : Dk} {p : Value}
theorem RdD.cells (h : RdD w B g p d) : ∃ fv, Box w g #[fv, .int .i64 d.max, .int .i64 d.left, .bool d.down] 57 := by obtain ⟨_, _, fv, h3, _⟩ := h; exact ⟨fv, h3⟩
theorem RdD.setLeft (h : RdD w B g p d) (z : Int) : RdD (w.setCell ⟨g, 2, none⟩ (.int .i64 z)) B g p { d with left := z } ∧ Keeps B docO w (w.setCell ⟨g, 2, none⟩ (.int .i64 z)) := by
  obtain ⟨h1, h2, fv, h3, h4⟩ := h
  exact ⟨⟨h1, h2, fv, h3.set 2 _, h4.apart (n := g) (fun i hi _ => Below.heap_setCell _ ⟨g, 2, none⟩ _ i hi) (h4.notBox h3 (by decide))⟩, (Keeps.refl B docO w).set h3 h2 docO_disk 2 _⟩
theorem RdD.setMax (h : RdD w B g p d) (z : Int) : RdD (w.setCell ⟨g, 1, none⟩ (.int .i64 z)) B g p { d with max := z } ∧ Keeps B docO w (w.setCell ⟨g, 1, none⟩ (.int .i64 z)) := by
  obtain ⟨h1, h2, fv, h3, h4⟩ := h
  exact ⟨⟨h1, h2, fv, h3.set 1 _, h4.apart (n := g) (fun i hi _ => Below.heap_setCell _ ⟨g, 1, none⟩ _ i hi) (h4.notBox h3 (by decide))⟩, (Keeps.refl B docO w).set h3 h2 docO_disk 1 _⟩
end
theorem ok_arm {d : Dk} (h : OkD d) (n : Int) (hn : n ≤ 9223372036854775807) : OkD (armD d n) := by
  obtain ⟨h1, h2, h3, h4, h5⟩ := h
  refine ⟨h1, h2, h3, ?_, h5⟩
  unfold armD
  simp only
  split <;> omega
theorem ok_quota {d : Dk} (h : OkD d) (n : Int) : OkD (quotaD d n).1 := by
  obtain ⟨h1, h2, h3, h4, h5⟩ := h
  unfold quotaD
  split
  · exact ⟨h1, h2, h3, h4, h5⟩
  · split
    · rename_i hq; exact ⟨h1, h2, hq, h4, h5⟩
    · exact ⟨h1, h2, h3, h4, h5⟩

set_option maxHeartbeats 8000000 in
set_option maxRecDepth 100000 in
theorem does_arm (w : World) (B : Nat) (S : Nat → Prop) (g g' : Nat) (p p' : Value) (dp dr : Dk) (x : Deed) (h : Two w B S g g' p p' dp dr) (hB : B ≤ w.heap.size) (hSB : ∀ i, S i → B ≤ i) (hS : ∀ i, w.heap.size ≤ i → S i) (hx : OkDeed w B x) (hk : x.kind = 5) :
    Calls Try.prog 13 #[p, p', .agg #[.int .i64 x.kind, .int .i64 x.n, .int .i64 x.m, .string x.a, .string x.b, .slice x.ka x.keep.length x.kc]] w fun e w' => (∃ q : Bool, e = .returned (.bool q) ∧ (dp = dr → q = true)) ∧ Two w' B S g g' p p' (armD dp x.n) (armD dr x.n) ∧ Below B w w' := by
  obtain ⟨hrm, hrd, hok, hok2⟩ := h
  obtain rfl := hrd.ptr
  obtain ⟨kd, xn, xm, xa, xb, kp, ka, kc⟩ := x
  simp only at hk
  subst hk
  obtain ⟨-, hxn, hxm, hxa, hxb, hkr, hkb⟩ := hx
  simp only at hxn hxm hxa hxb hkr hkb
  unfold inD at hxn hxm hkb
  obtain ⟨W0, hW0⟩ : ∃ W0, w.alloc (.cells #[.int .i64 5, .int .i64 xn, .int .i64 xm, .string xa, .string xb, .slice ka kp.length kc] 31) = W0 := ⟨_, rfl⟩
  have BX := Lib.hid (show Box W0 w.heap.size #[.int .i64 5, .int .i64 xn, .int .i64 xm, .string xa, .string xb, .slice ka kp.length kc] 31 from by rw [← hW0]; exact Box.new w _ _ _ rfl)
  have RM := Lib.hid (show RdM W0 S g p dp from by rw [← hW0]; exact hrm.on (alloc_below _ _))
  have RD := Lib.hid (show RdD W0 B g' (.pointer (some ⟨g', 0, none⟩)) dr from by rw [← hW0]; exact hrd.on (alloc_below _ _))
  have GB := Lib.hid (show Below w.heap.size w W0 from by rw [← hW0]; exact alloc_below _ _)
  have HS := Lib.hid (show ∀ i, W0.heap.size ≤ i → S i from fun i hi => hS i (Nat.le_trans GB.out.size hi))
  have HBW := Lib.hid (show B ≤ W0.heap.size from Nat.le_trans hB GB.out.size)
  have HBL := Lib.hid hB
  have HSB := Lib.hid hSB
  have OK := Lib.hid hok
  have OK2 := Lib.hid hok2
  have HKR := Lib.hid hkr
  have HKB := Lib.hid hkb
  have HXA := Lib.hid hxa
  have HXB := Lib.hid hxb
  have HXN := Lib.hid hxn
  have HXM := Lib.hid hxm
  have c0 := BX.out.cell 0 (.int .i64 5) rfl
  have c1 := BX.out.cell 1 (.int .i64 xn) rfl
  have c2 := BX.out.cell 2 (.int .i64 xm) rfl
  have c3 := BX.out.cell 3 (.string xa) rfl
  have c4 := BX.out.cell 4 (.string xb) rfl
  have c5 := BX.out.cell 5 (.slice ka kp.length kc) rfl
  have FA := Lib.hid (fewS_size xa)
  have FB := Lib.hid (fewS_size xb)
  clear hrm hrd hok hok2 hkr hkb hxa hxb hB hSB hS hxn hxm
  have zn : W0.heap.size = W0.heap.size := rfl
  clear zn
  by_cases hneg : xn < 0
  · have HR := Lib.hid (show armD dr xn = { dr with left := -1 } from by unfold armD; rw [if_pos hneg])
    go_enter Try.func13, Try.ntmps13
    go_wp2_with (first
      | (go_at_call 15; refine (few7 _ _).mono ?_; rintro e w' ⟨rfl, rfl⟩)
      | (go_at_call 26; refine (p_arm RM.out xn HXN.out).mono ?_; rintro e w1 ⟨rfl, hm1, hk1⟩; have M1 := Lib.hid hm1; have K1 := Lib.hid hk1; clear hm1 hk1; obtain ⟨fv, hbx⟩ := (RD.out.kept K1.out).cells; have a1 := hbx.cell 1 (.int .i64 dr.max) rfl; have a2 := hbx.cell 2 (.int .i64 dr.left) rfl; have a3 := hbx.cell 3 (.bool dr.down) rfl; have b1 := hbx.frozen 1; have b2 := hbx.frozen 2; have e1 := (K1.out.box BX.out rfl).cell 1 (.int .i64 xn) rfl; clear hbx))
    go_ret
    have h1 := (RD.out.kept K1.out).setLeft xn
    have h2 := h1.1.setLeft (-1)
    exact ⟨⟨_, rfl, fun _ => rfl⟩, ⟨(M1.out.keeps h1.2).keeps h2.2, by rw [HR.out]; exact h2.1, ok_arm OK.out xn HXN.out.2, ok_arm OK2.out xn HXN.out.2⟩, (((GB.out.mono HBL.out).trans (K1.out.under HBW.out HSB.out)).trans h1.2.below).trans h2.2.below⟩
  · have HR := Lib.hid (show armD dr xn = { dr with left := xn } from by unfold armD; rw [if_neg hneg])
    have hpos : 0 ≤ xn := by omega
    clear hneg
    go_enter Try.func13, Try.ntmps13
    go_wp2_with (first
      | (go_at_call 15; refine (few7 _ _).mono ?_; rintro e w' ⟨rfl, rfl⟩)
      | (go_at_call 26; refine (p_arm RM.out xn HXN.out).mono ?_; rintro e w1 ⟨rfl, hm1, hk1⟩; have M1 := Lib.hid hm1; have K1 := Lib.hid hk1; clear hm1 hk1; obtain ⟨fv, hbx⟩ := (RD.out.kept K1.out).cells; have a1 := hbx.cell 1 (.int .i64 dr.max) rfl; have a2 := hbx.cell 2 (.int .i64 dr.left) rfl; have a3 := hbx.cell 3 (.bool dr.down) rfl; have b1 := hbx.frozen 1; have b2 := hbx.frozen 2; have e1 := (K1.out.box BX.out rfl).cell 1 (.int .i64 xn) rfl; clear hbx))
    go_ret
    have h1 := (RD.out.kept K1.out).setLeft xn
    exact ⟨⟨_, rfl, fun _ => rfl⟩, ⟨M1.out.keeps h1.2, by rw [HR.out]; exact h1.1, ok_arm OK.out xn HXN.out.2, ok_arm OK2.out xn HXN.out.2⟩, ((GB.out.mono HBL.out).trans (K1.out.under HBW.out HSB.out)).trans h1.2.below⟩

set_option maxHeartbeats 8000000 in
set_option maxRecDepth 100000 in
theorem does_up (w : World) (B : Nat) (S : Nat → Prop) (g g' : Nat) (p p' : Value) (dp dr : Dk) (x : Deed) (h : Two w B S g g' p p' dp dr) (hB : B ≤ w.heap.size) (hSB : ∀ i, S i → B ≤ i) (hS : ∀ i, w.heap.size ≤ i → S i) (hx : OkDeed w B x) (hk : x.kind = 6) :
    Calls Try.prog 13 #[p, p', .agg #[.int .i64 x.kind, .int .i64 x.n, .int .i64 x.m, .string x.a, .string x.b, .slice x.ka x.keep.length x.kc]] w fun e w' => (∃ q : Bool, e = .returned (.bool q) ∧ (dp = dr → q = true)) ∧ Two w' B S g g' p p' (upD dp x.keep) (upD dr x.keep) ∧ Below B w w' := by
  obtain ⟨hrm, hrd, hok, hok2⟩ := h
  obtain ⟨kd, xn, xm, xa, xb, kp, ka, kc⟩ := x
  simp only at hk
  subst hk
  obtain ⟨-, hxn, hxm, hxa, hxb, hkr, hkb⟩ := hx
  simp only at hxn hxm hxa hxb hkr hkb
  unfold inD at hxn hxm hkb
  obtain ⟨W0, hW0⟩ : ∃ W0, w.alloc (.cells #[.int .i64 6, .int .i64 xn, .int .i64 xm, .string xa, .string xb, .slice ka kp.length kc] 31) = W0 := ⟨_, rfl⟩
  have BX := Lib.hid (show Box W0 w.heap.size #[.int .i64 6, .int .i64 xn, .int .i64 xm, .string xa, .string xb, .slice ka kp.length kc] 31 from by rw [← hW0]; exact Box.new w _ _ _ rfl)
  have RM := Lib.hid (show RdM W0 S g p dp from by rw [← hW0]; exact hrm.on (alloc_below _ _))
  have RD := Lib.hid (show RdD W0 B g' p' dr from by rw [← hW0]; exact hrd.on (alloc_below _ _))
  have GB := Lib.hid (show Below w.heap.size w W0 from by rw [← hW0]; exact alloc_below _ _)
  have HS := Lib.hid (show ∀ i, W0.heap.size ≤ i → S i from fun i hi => hS i (Nat.le_trans GB.out.size hi))
  have HBW := Lib.hid (show B ≤ W0.heap.size from Nat.le_trans hB GB.out.size)
  have HBL := Lib.hid hB
  have HSB := Lib.hid hSB
  have OK := Lib.hid hok
  have OK2 := Lib.hid hok2
  have HKR := Lib.hid hkr
  have HKB := Lib.hid hkb
  have HXA := Lib.hid hxa
  have HXB := Lib.hid hxb
  have HXN := Lib.hid hxn
  have HXM := Lib.hid hxm
  have c0 := BX.out.cell 0 (.int .i64 6) rfl
  have c1 := BX.out.cell 1 (.int .i64 xn) rfl
  have c2 := BX.out.cell 2 (.int .i64 xm) rfl
  have c3 := BX.out.cell 3 (.string xa) rfl
  have c4 := BX.out.cell 4 (.string xb) rfl
  have c5 := BX.out.cell 5 (.slice ka kp.length kc) rfl
  have FA := Lib.hid (fewS_size xa)
  have FB := Lib.hid (fewS_size xb)
  clear hrm hrd hok hok2 hkr hkb hxa hxb hB hSB hS hxn hxm
  go_enter Try.func13, Try.ntmps13
  go_wp2_with (first
    | (go_at_call 15; refine (few7 _ _).mono ?_; rintro e w' ⟨rfl, rfl⟩)
    | (go_at_call 20; refine (p_up RM.out OK.out HS.out _ kp (fun wr hk => ⟨B, (HKR.out.below (GB.out.mono HBL.out)).below (hk.under HBW.out HSB.out)⟩) HKB.out).mono ?_; rintro e w1 ⟨rfl, hm1, hk1⟩; have M1 := Lib.hid hm1; have K1 := Lib.hid hk1; clear hm1 hk1; have e5 := (K1.out.box BX.out rfl).cell 5 (.slice ka kp.length kc) rfl)
    | (go_at_call 25; refine (ref_up7 _ B g' _ _ dr kp (RD.out.kept K1.out) OK2.out (HKR.out.below ((GB.out.mono HBL.out).trans (K1.out.under HBW.out HSB.out))) HKB.out).mono ?_; rintro e w2 ⟨rfl, hd2, hk2⟩; have D2 := Lib.hid hd2; have K2 := Lib.hid hk2; clear hd2 hk2))
  go_ret
  exact ⟨⟨_, rfl, fun e => by first | rfl | (rw [e]; simp)⟩, ⟨M1.out.keeps K2.out, D2.out, ok_up OK.out _, ok_up OK2.out _⟩, ((GB.out.mono HBL.out).trans (K1.out.under HBW.out HSB.out)).trans K2.out.below⟩

set_option maxHeartbeats 8000000 in
set_option maxRecDepth 100000 in
theorem does_quota (w : World) (B : Nat) (S : Nat → Prop) (g g' : Nat) (p p' : Value) (d : Dk) (x : Deed) (h : Both w B S g g' p p' d) (hB : B ≤ w.heap.size) (hSB : ∀ i, S i → B ≤ i) (hS : ∀ i, w.heap.size ≤ i → S i) (hx : OkDeed w B x) (hk : x.kind = 7) :
    Calls Try.prog 13 #[p, p', .agg #[.int .i64 x.kind, .int .i64 x.n, .int .i64 x.m, .string x.a, .string x.b, .slice x.ka x.keep.length x.kc]] w fun e w' => e = .returned (.bool true) ∧ Both w' B S g g' p p' (quotaD d x.n).1 ∧ Below B w w' := by
  obtain ⟨hrm, hrd, hok⟩ := h
  obtain rfl := hrd.ptr
  obtain ⟨kd, xn, xm, xa, xb, kp, ka, kc⟩ := x
  simp only at hk
  subst hk
  obtain ⟨-, hxn, hxm, hxa, hxb, hkr, hkb⟩ := hx
  simp only at hxn hxm hxa hxb hkr hkb
  unfold inD at hxn hxm hkb
  obtain ⟨W0, hW0⟩ : ∃ W0, w.alloc (.cells #[.int .i64 7, .int .i64 xn, .int .i64 xm, .string xa, .string xb, .slice ka kp.length kc] 31) = W0 := ⟨_, rfl⟩
  have BX := Lib.hid (show Box W0 w.heap.size #[.int .i64 7, .int .i64 xn, .int .i64 xm, .string xa, .string xb, .slice ka kp.length kc] 31 from by rw [← hW0]; exact Box.new w _ _ _ rfl)
  have RM := Lib.hid (show RdM W0 S g p d from by rw [← hW0]; exact hrm.on (alloc_below _ _))
  have RD := Lib.hid (show RdD W0 B g' (.pointer (some ⟨g', 0, none⟩)) d from by rw [← hW0]; exact hrd.on (alloc_below _ _))
  have GB := Lib.hid (show Below w.heap.size w W0 from by rw [← hW0]; exact alloc_below _ _)
  have HS := Lib.hid (show ∀ i, W0.heap.size ≤ i → S i from fun i hi => hS i (Nat.le_trans GB.out.size hi))
  have HBW := Lib.hid (show B ≤ W0.heap.size from Nat.le_trans hB GB.out.size)
  have HBL := Lib.hid hB
  have HSB := Lib.hid hSB
  have OK := Lib.hid hok
  have HKR := Lib.hid hkr
  have HKB := Lib.hid hkb
  have HXA := Lib.hid hxa
  have HXB := Lib.hid hxb
  have HXN := Lib.hid hxn
  have HXM := Lib.hid hxm
  have c0 := BX.out.cell 0 (.int .i64 7) rfl
  have c1 := BX.out.cell 1 (.int .i64 xn) rfl
  have c2 := BX.out.cell 2 (.int .i64 xm) rfl
  have c3 := BX.out.cell 3 (.string xa) rfl
  have c4 := BX.out.cell 4 (.string xb) rfl
  have c5 := BX.out.cell 5 (.slice ka kp.length kc) rfl
  have FA := Lib.hid (fewS_size xa)
  have FB := Lib.hid (fewS_size xb)
  clear hrm hrd hok hkr hkb hxa hxb hB hSB hS hxn hxm
  cases hdn : d.down
  · have HDN := Lib.hid hdn
    clear hdn
    by_cases hq : 0 ≤ xn ∧ xn ≤ 16777216
    · have HR := Lib.hid (show quotaD d xn = ({ d with max := xn }, 0) from by unfold quotaD; rw [if_neg (by simp [HDN.out]), if_pos hq])
      obtain ⟨hq1, hq2⟩ := hq
      have OQ := Lib.hid (ok_quota OK.out xn)
      go_enter Try.func13, Try.ntmps13
      go_wp2_with (first
        | (go_at_call 15; refine (few7 _ _).mono ?_; rintro e w' ⟨rfl, rfl⟩)
        | (go_at_call 34; refine (p_quota RM.out xn).mono ?_; rintro e w1 ⟨rfl, hm1, hk1⟩; have M1 := Lib.hid hm1; have K1 := Lib.hid hk1; clear hm1 hk1; obtain ⟨fv, hbx⟩ := (RD.out.kept K1.out).cells; have a1 := hbx.cell 1 (.int .i64 d.max) rfl; have a2 := hbx.cell 2 (.int .i64 d.left) rfl; have a3 := hbx.cell 3 (.bool d.down) rfl; have b1 := hbx.frozen 1; have b2 := hbx.frozen 2; have e1 := (K1.out.box BX.out rfl).cell 1 (.int .i64 xn) rfl; clear hbx; rw [HDN.out] at a3))
      go_ret
      have h1 := (RD.out.kept K1.out).setMax xn
      rw [HR.out]
      exact ⟨by first | rfl | simp, ⟨by have := M1.out; rw [HR.out] at this; exact this.keeps h1.2, h1.1, by have := OQ.out; rw [HR.out] at this; exact this⟩, ((GB.out.mono HBL.out).trans (K1.out.under HBW.out HSB.out)).trans h1.2.below⟩
    · have HR := Lib.hid (show quotaD d xn = (d, 1) from by unfold quotaD; rw [if_neg (by simp [HDN.out]), if_neg hq])
      by_cases hneg : xn < 0
      · clear hq
        go_enter Try.func13, Try.ntmps13
        go_wp2_with (first
          | (go_at_call 15; refine (few7 _ _).mono ?_; rintro e w' ⟨rfl, rfl⟩)
          | (go_at_call 34; refine (p_quota RM.out xn).mono ?_; rintro e w1 ⟨rfl, hm1, hk1⟩; have M1 := Lib.hid hm1; have K1 := Lib.hid hk1; clear hm1 hk1; obtain ⟨fv, hbx⟩ := (RD.out.kept K1.out).cells; have a1 := hbx.cell 1 (.int .i64 d.max) rfl; have a2 := hbx.cell 2 (.int .i64 d.left) rfl; have a3 := hbx.cell 3 (.bool d.down) rfl; have b1 := hbx.frozen 1; have b2 := hbx.frozen 2; have e1 := (K1.out.box BX.out rfl).cell 1 (.int .i64 xn) rfl; clear hbx; rw [HDN.out] at a3))
        go_ret
        rw [HR.out]
        exact ⟨rfl, ⟨by have := M1.out; rw [HR.out] at this; exact this, RD.out.kept K1.out, OK.out⟩, ((GB.out.mono HBL.out).trans (K1.out.under HBW.out HSB.out))⟩
      · have hbig : 16777216 < xn := by omega
        have hpos : 0 ≤ xn := by omega
        clear hq hneg
        go_enter Try.func13, Try.ntmps13
        go_wp2_with (first
          | (go_at_call 15; refine (few7 _ _).mono ?_; rintro e w' ⟨rfl, rfl⟩)
          | (go_at_call 34; refine (p_quota RM.out xn).mono ?_; rintro e w1 ⟨rfl, hm1, hk1⟩; have M1 := Lib.hid hm1; have K1 := Lib.hid hk1; clear hm1 hk1; obtain ⟨fv, hbx⟩ := (RD.out.kept K1.out).cells; have a1 := hbx.cell 1 (.int .i64 d.max) rfl; have a2 := hbx.cell 2 (.int .i64 d.left) rfl; have a3 := hbx.cell 3 (.bool d.down) rfl; have b1 := hbx.frozen 1; have b2 := hbx.frozen 2; have e1 := (K1.out.box BX.out rfl).cell 1 (.int .i64 xn) rfl; clear hbx; rw [HDN.out] at a3))
        go_ret
        rw [HR.out]
        exact ⟨rfl, ⟨by have := M1.out; rw [HR.out] at this; exact this, RD.out.kept K1.out, OK.out⟩, ((GB.out.mono HBL.out).trans (K1.out.under HBW.out HSB.out))⟩
  · have HDN := Lib.hid hdn
    have HR := Lib.hid (show quotaD d xn = (d, 7) from by unfold quotaD; rw [if_pos hdn])
    clear hdn
    go_enter Try.func13, Try.ntmps13
    go_wp2_with (first
      | (go_at_call 15; refine (few7 _ _).mono ?_; rintro e w' ⟨rfl, rfl⟩)
      | (go_at_call 34; refine (p_quota RM.out xn).mono ?_; rintro e w1 ⟨rfl, hm1, hk1⟩; have M1 := Lib.hid hm1; have K1 := Lib.hid hk1; clear hm1 hk1; obtain ⟨fv, hbx⟩ := (RD.out.kept K1.out).cells; have a1 := hbx.cell 1 (.int .i64 d.max) rfl; have a2 := hbx.cell 2 (.int .i64 d.left) rfl; have a3 := hbx.cell 3 (.bool d.down) rfl; have b1 := hbx.frozen 1; have b2 := hbx.frozen 2; have e1 := (K1.out.box BX.out rfl).cell 1 (.int .i64 xn) rfl; clear hbx; rw [HDN.out] at a3))
    go_ret
    rw [HR.out]
    exact ⟨rfl, ⟨by have := M1.out; rw [HR.out] at this; exact this, RD.out.kept K1.out, OK.out⟩, ((GB.out.mono HBL.out).trans (K1.out.under HBW.out HSB.out))⟩

set_option maxHeartbeats 8000000 in
set_option maxRecDepth 100000 in
theorem does_read (w : World) (B : Nat) (S : Nat → Prop) (g g' : Nat) (p p' : Value) (dp dr : Dk) (x : Deed) (h : Two w B S g g' p p' dp dr) (hB : B ≤ w.heap.size) (hSB : ∀ i, S i → B ≤ i) (hS : ∀ i, w.heap.size ≤ i → S i) (hx : OkDeed w B x) (hk : x.kind = 8) :
    Calls Try.prog 13 #[p, p', .agg #[.int .i64 x.kind, .int .i64 x.n, .int .i64 x.m, .string x.a, .string x.b, .slice x.ka x.keep.length x.kc]] w fun e w' => (∃ q : Bool, e = .returned (.bool q) ∧ (dp = dr → q = true)) ∧ Two w' B S g g' p p' (dp) (dr) ∧ Below B w w' := by
  obtain ⟨hrm, hrd, hok, hok2⟩ := h
  obtain ⟨kd, xn, xm, xa, xb, kp, ka, kc⟩ := x
  simp only at hk
  subst hk
  obtain ⟨-, hxn, hxm, hxa, hxb, hkr, hkb⟩ := hx
  simp only at hxn hxm hxa hxb hkr hkb
  unfold inD at hxn hxm hkb
  obtain ⟨W0, hW0⟩ : ∃ W0, w.alloc (.cells #[.int .i64 8, .int .i64 xn, .int .i64 xm, .string xa, .string xb, .slice ka kp.length kc] 31) = W0 := ⟨_, rfl⟩
  have BX := Lib.hid (show Box W0 w.heap.size #[.int .i64 8, .int .i64 xn, .int .i64 xm, .string xa, .string xb, .slice ka kp.length kc] 31 from by rw [← hW0]; exact Box.new w _ _ _ rfl)
  have RM := Lib.hid (show RdM W0 S g p dp from by rw [← hW0]; exact hrm.on (alloc_below _ _))
  have RD := Lib.hid (show RdD W0 B g' p' dr from by rw [← hW0]; exact hrd.on (alloc_below _ _))
  have GB := Lib.hid (show Below w.heap.size w W0 from by rw [← hW0]; exact alloc_below _ _)
  have HS := Lib.hid (show ∀ i, W0.heap.size ≤ i → S i from fun i hi => hS i (Nat.le_trans GB.out.size hi))
  have HBW := Lib.hid (show B ≤ W0.heap.size from Nat.le_trans hB GB.out.size)
  have HBL := Lib.hid hB
  have HSB := Lib.hid hSB
  have OK := Lib.hid hok
  have OK2 := Lib.hid hok2
  have HKR := Lib.hid hkr
  have HKB := Lib.hid hkb
  have HXA := Lib.hid hxa
  have HXB := Lib.hid hxb
  have HXN := Lib.hid hxn
  have HXM := Lib.hid hxm
  have c0 := BX.out.cell 0 (.int .i64 8) rfl
  have c1 := BX.out.cell 1 (.int .i64 xn) rfl
  have c2 := BX.out.cell 2 (.int .i64 xm) rfl
  have c3 := BX.out.cell 3 (.string xa) rfl
  have c4 := BX.out.cell 4 (.string xb) rfl
  have c5 := BX.out.cell 5 (.slice ka kp.length kc) rfl
  have FA := Lib.hid (fewS_size xa)
  have FB := Lib.hid (fewS_size xb)
  clear hrm hrd hok hok2 hkr hkb hxa hxb hB hSB hS hxn hxm
  obtain ⟨t1, e1, ht⟩ : ∃ t1 e1, (t1, e1) = readD dp (fewS xa) xn xm := ⟨_, _, rfl⟩
  obtain ⟨t2, e2, hu⟩ : ∃ t2 e2, (t2, e2) = readD dr (fewS xa) xn xm := ⟨_, _, rfl⟩
  have PR := p_read RM.out (fewS xa) xn xm (Nat.le_trans FA.out (by decide)) OK.out HXN.out HXM.out
  rw [← ht] at PR
  have PR := Lib.hid PR
  have RR := Lib.hid (fun (W : World) (h : RdD W B g' p' dr) => by
    have h1 := ref_read7 W B g' p' dr (fewS xa) xn xm h OK2.out HXN.out HXM.out
    rw [← hu] at h1
    exact h1)
  have HEQ := Lib.hid (show dp = dr → t1 = t2 ∧ e1 = e2 from fun e => by
    have : (t1, e1) = (t2, e2) := by rw [ht, hu, e]
    injection this with a b
    exact ⟨a, b⟩)
  clear ht hu
  cases hq : (t1.toList == t2.toList)
  · have HQ := Lib.hid hq
    go_enter Try.func13, Try.ntmps13
    go_wp2_with (first
      | (go_at_call 15; refine (few7 _ _).mono ?_; rintro e w' ⟨rfl, rfl⟩)
      | (go_at_call 21; refine (PR.out).mono ?_; rintro e w1 ⟨v1, rfl, ho1, hk1⟩; have G1 := Lib.hid hk1; have hcv : (convert 38 9 v1).run Try.prog w1 = .ok (.string t1) w1 := OwnB.str ho1; have BX1 := Lib.hid (BX.out.later G1.out); have e1 := BX1.out.cell 1 (.int .i64 xn) rfl; have e2 := BX1.out.cell 2 (.int .i64 xm) rfl; clear ho1 hk1)
      | (go_at_call 35; refine (RR.out _ (RD.out.on G1.out)).mono ?_; rintro e w2 ⟨rfl, rfl⟩))
    go_ret
    exact ⟨⟨_, rfl, fun e => by obtain ⟨a, b⟩ := HEQ.out e; have hq := HQ.out; subst a b; simp at hq ⊢⟩, ⟨RM.out.on G1.out, RD.out.on G1.out, OK.out, OK2.out⟩, (GB.out.mono HBL.out).trans (G1.out.mono HBW.out)⟩
  · have HQ := Lib.hid hq
    go_enter Try.func13, Try.ntmps13
    go_wp2_with (first
      | (go_at_call 15; refine (few7 _ _).mono ?_; rintro e w' ⟨rfl, rfl⟩)
      | (go_at_call 21; refine (PR.out).mono ?_; rintro e w1 ⟨v1, rfl, ho1, hk1⟩; have G1 := Lib.hid hk1; have hcv : (convert 38 9 v1).run Try.prog w1 = .ok (.string t1) w1 := OwnB.str ho1; have BX1 := Lib.hid (BX.out.later G1.out); have e1 := BX1.out.cell 1 (.int .i64 xn) rfl; have e2 := BX1.out.cell 2 (.int .i64 xm) rfl; clear ho1 hk1)
      | (go_at_call 35; refine (RR.out _ (RD.out.on G1.out)).mono ?_; rintro e w2 ⟨rfl, rfl⟩))
    go_ret
    exact ⟨⟨_, rfl, fun e => by obtain ⟨a, b⟩ := HEQ.out e; have hq := HQ.out; subst a b; simp at hq ⊢⟩, ⟨RM.out.on G1.out, RD.out.on G1.out, OK.out, OK2.out⟩, (GB.out.mono HBL.out).trans (G1.out.mono HBW.out)⟩

set_option maxHeartbeats 8000000 in
set_option maxRecDepth 100000 in
theorem does_none (w : World) (B : Nat) (S : Nat → Prop) (g g' : Nat) (p p' : Value) (dp dr : Dk) (x : Deed) (h : Two w B S g g' p p' dp dr) (hB : B ≤ w.heap.size) (hSB : ∀ i, S i → B ≤ i) (hS : ∀ i, w.heap.size ≤ i → S i) (hx : OkDeed w B x) (hk : ¬ (x.kind = 0 ∨ x.kind = 1 ∨ x.kind = 2 ∨ x.kind = 3 ∨ x.kind = 4 ∨ x.kind = 5 ∨ x.kind = 6 ∨ x.kind = 7 ∨ x.kind = 8)) :
    Calls Try.prog 13 #[p, p', .agg #[.int .i64 x.kind, .int .i64 x.n, .int .i64 x.m, .string x.a, .string x.b, .slice x.ka x.keep.length x.kc]] w fun e w' => (∃ q : Bool, e = .returned (.bool q) ∧ (dp = dr → q = true)) ∧ Two w' B S g g' p p' (dp) (dr) ∧ Below B w w' := by
  obtain ⟨hrm, hrd, hok, hok2⟩ := h
  obtain ⟨kd, xn, xm, xa, xb, kp, ka, kc⟩ := x
  simp only at hk
  obtain ⟨-, hxn, hxm, hxa, hxb, hkr, hkb⟩ := hx
  simp only at hxn hxm hxa hxb hkr hkb
  unfold inD at hxn hxm hkb
  obtain ⟨W0, hW0⟩ : ∃ W0, w.alloc (.cells #[.int .i64 kd, .int .i64 xn, .int .i64 xm, .string xa, .string xb, .slice ka kp.length kc] 31) = W0 := ⟨_, rfl⟩
  have BX := Lib.hid (show Box W0 w.heap.size #[.int .i64 kd, .int .i64 xn, .int .i64 xm, .string xa, .string xb, .slice ka kp.length kc] 31 from by rw [← hW0]; exact Box.new w _ _ _ rfl)
  have RM := Lib.hid (show RdM W0 S g p dp from by rw [← hW0]; exact hrm.on (alloc_below _ _))
  have RD := Lib.hid (show RdD W0 B g' p' dr from by rw [← hW0]; exact hrd.on (alloc_below _ _))
  have GB := Lib.hid (show Below w.heap.size w W0 from by rw [← hW0]; exact alloc_below _ _)
  have HS := Lib.hid (show ∀ i, W0.heap.size ≤ i → S i from fun i hi => hS i (Nat.le_trans GB.out.size hi))
  have HBW := Lib.hid (show B ≤ W0.heap.size from Nat.le_trans hB GB.out.size)
  have HBL := Lib.hid hB
  have HSB := Lib.hid hSB
  have OK := Lib.hid hok
  have OK2 := Lib.hid hok2
  have HKR := Lib.hid hkr
  have HKB := Lib.hid hkb
  have HXA := Lib.hid hxa
  have HXB := Lib.hid hxb
  have HXN := Lib.hid hxn
  have HXM := Lib.hid hxm
  have c0 := BX.out.cell 0 (.int .i64 kd) rfl
  have c1 := BX.out.cell 1 (.int .i64 xn) rfl
  have c2 := BX.out.cell 2 (.int .i64 xm) rfl
  have c3 := BX.out.cell 3 (.string xa) rfl
  have c4 := BX.out.cell 4 (.string xb) rfl
  have c5 := BX.out.cell 5 (.slice ka kp.length kc) rfl
  have FA := Lib.hid (fewS_size xa)
  have FB := Lib.hid (fewS_size xb)
  clear hrm hrd hok hok2 hkr hkb hxa hxb hB hSB hS hxn hxm
  have z0 : (kd == 0) = false := by rw [beq_eq_false_iff_ne]; omega
  have z1 : (kd == 1) = false := by rw [beq_eq_false_iff_ne]; omega
  have z2 : (kd == 2) = false := by rw [beq_eq_false_iff_ne]; omega
  have z3 : (kd == 3) = false := by rw [beq_eq_false_iff_ne]; omega
  have z4 : (kd == 4) = false := by rw [beq_eq_false_iff_ne]; omega
  have z5 : (kd == 5) = false := by rw [beq_eq_false_iff_ne]; omega
  have z6 : (kd == 6) = false := by rw [beq_eq_false_iff_ne]; omega
  have z7 : (kd == 7) = false := by rw [beq_eq_false_iff_ne]; omega
  have z8 : (kd == 8) = false := by rw [beq_eq_false_iff_ne]; omega
  clear hk
  go_enter Try.func13, Try.ntmps13
  go_wp2_with (go_at_call 15; refine (few7 _ _).mono ?_; rintro e w' ⟨rfl, rfl⟩)
  go_ret
  exact ⟨⟨_, rfl, fun _ => rfl⟩, ⟨RM.out, RD.out, OK.out, OK2.out⟩, GB.out.mono HBL.out⟩

def doesD (d : Dk) (x : Deed) : Dk :=
  if x.kind = 0 then (createD d (fewS x.a)).1 else if x.kind = 1 then (appendD d (fewS x.a) (fewS x.b)).1 else if x.kind = 2 then (endsD d (fewS x.a) false).1 else if x.kind = 3 then (renameD d (fewS x.a) (fewS x.b)).1
  else if x.kind = 4 then (endsD d (fewS x.a) true).1 else if x.kind = 5 then armD d x.n else if x.kind = 6 then upD d x.keep else if x.kind = 7 then (quotaD d x.n).1 else d
theorem does2_any (w : World) (B : Nat) (S : Nat → Prop) (g g' : Nat) (p p' : Value) (dp dr : Dk) (x : Deed) (h : Two w B S g g' p p' dp dr) (hB : B ≤ w.heap.size) (hSB : ∀ i, S i → B ≤ i) (hS : ∀ i, w.heap.size ≤ i → S i) (hx : OkDeed w B x) (h7 : x.kind ≠ 7) :
    Calls Try.prog 13 #[p, p', .agg #[.int .i64 x.kind, .int .i64 x.n, .int .i64 x.m, .string x.a, .string x.b, .slice x.ka x.keep.length x.kc]] w fun e w' => (∃ q : Bool, e = .returned (.bool q) ∧ (dp = dr → q = true)) ∧ Two w' B S g g' p p' (doesD dp x) (doesD dr x) ∧ Below B w w' := by
  unfold doesD
  by_cases h0 : x.kind = 0
  · simp only [if_pos h0]; exact does_create w B S g g' p p' dp dr x h hB hSB hS hx h0
  by_cases h1 : x.kind = 1
  · simp only [if_neg h0, if_pos h1]; exact does_append w B S g g' p p' dp dr x h hB hSB hS hx h1
  by_cases h2 : x.kind = 2
  · simp only [if_neg h0, if_neg h1, if_pos h2]; exact does_sync w B S g g' p p' dp dr x h hB hSB hS hx h2
  by_cases h3 : x.kind = 3
  · simp only [if_neg h0, if_neg h1, if_neg h2, if_pos h3]; exact does_rename w B S g g' p p' dp dr x h hB hSB hS hx h3
  by_cases h4 : x.kind = 4
  · simp only [if_neg h0, if_neg h1, if_neg h2, if_neg h3, if_pos h4]; exact does_remove w B S g g' p p' dp dr x h hB hSB hS hx h4
  by_cases h5 : x.kind = 5
  · simp only [if_neg h0, if_neg h1, if_neg h2, if_neg h3, if_neg h4, if_pos h5]; exact does_arm w B S g g' p p' dp dr x h hB hSB hS hx h5
  by_cases h6 : x.kind = 6
  · simp only [if_neg h0, if_neg h1, if_neg h2, if_neg h3, if_neg h4, if_neg h5, if_pos h6]; exact does_up w B S g g' p p' dp dr x h hB hSB hS hx h6
  simp only [if_neg h0, if_neg h1, if_neg h2, if_neg h3, if_neg h4, if_neg h5, if_neg h6, if_neg h7]
  by_cases h8 : x.kind = 8
  · exact does_read w B S g g' p p' dp dr x h hB hSB hS hx h8
  · exact does_none w B S g g' p p' dp dr x h hB hSB hS hx (by omega)
theorem does_any (w : World) (B : Nat) (S : Nat → Prop) (g g' : Nat) (p p' : Value) (d : Dk) (x : Deed) (h : Both w B S g g' p p' d) (hB : B ≤ w.heap.size) (hSB : ∀ i, S i → B ≤ i) (hS : ∀ i, w.heap.size ≤ i → S i) (hx : OkDeed w B x) :
    Calls Try.prog 13 #[p, p', .agg #[.int .i64 x.kind, .int .i64 x.n, .int .i64 x.m, .string x.a, .string x.b, .slice x.ka x.keep.length x.kc]] w fun e w' => e = .returned (.bool true) ∧ Both w' B S g g' p p' (doesD d x) ∧ Below B w w' := by
  by_cases h7 : x.kind = 7
  · have e7 : doesD d x = (quotaD d x.n).1 := by unfold doesD; rw [h7]; simp
    rw [e7]
    exact does_quota w B S g g' p p' d x h hB hSB hS hx h7
  · refine (does2_any w B S g g' p p' d d x ⟨h.rm, h.rd, h.ok, h.ok⟩ hB hSB hS hx h7).mono ?_
    rintro e w' ⟨⟨q, rfl, hq⟩, ht, hb⟩
    rw [hq rfl]
    exact ⟨rfl, ⟨ht.rm, ht.rd, ht.ok⟩, hb⟩
theorem does_ok {d : Dk} (h : OkD d) (x : Deed) (hn : x.n ≤ 9223372036854775807) : OkD (doesD d x) := by
  unfold doesD
  split; exact ok_create h _
  split; exact ok_append h _ _
  split; exact ok_ends h _ _
  split; exact ok_rename h _ _
  split; exact ok_ends h _ _
  split; exact ok_arm h _ hn
  split; exact ok_up h _
  split; exact ok_quota h _
  exact h
end Go.Proofs.Ytbdaflhmloodfaa
