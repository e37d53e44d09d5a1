/- Layer 7: a deed, of both disks. -/
import Derived.Test.YtbdaflhmloodfaaHk
import Derived.Test.YtbdaflhmloodfaaHn
import Derived.Test.YtbdaflhmloodfaaDo
namespace Go.Proofs.Ytbdaflhmloodfaa
open Go.RowKit
set_option linter.unusedVariables false

/-- The project's disk and the document's are one. -/
structure Both (w : World) (B : Nat) (S : Nat → Prop) (g g' : Nat) (p p' : Value) (d : Dk) : Prop where
  rm : RdM w S g p d
  rd : RdD w B g' p' d
  ok : OkD d
/-- They are two. -/
structure Two (w : World) (B : Nat) (S : Nat → Prop) (g g' : Nat) (p p' : Value) (dp dr : Dk) : Prop where
  rm : RdM w S g p dp
  rd : RdD w B g' p' dr
  ok : OkD dp
  ok2 : OkD dr

set_option maxHeartbeats 8000000 in
set_option maxRecDepth 100000 in
theorem does_create (w : World) (B : Nat) (S : Nat → Prop) (g g' : Nat) (p p' : Value) (dp dr : Dk) (x : Deed) (h : Two w B S g g' p p' dp dr) (hB : B ≤ w.heap.size) (hSB : ∀ i, S i → B ≤ i) (hS : ∀ i, w.heap.size ≤ i → S i) (hx : OkDeed w B x) (hk : x.kind = 0) :
    Calls Try.prog 13 #[p, p', .agg #[.int .i64 x.kind, .int .i64 x.n, .int .i64 x.m, .string x.a, .string x.b, .slice x.ka x.keep.length x.kc]] w fun e w' => (∃ q : Bool, e = .returned (.bool q) ∧ (dp = dr → q = true)) ∧ Two w' B S g g' p p' ((createD dp (fewS x.a)).1) ((createD dr (fewS x.a)).1) ∧ Below B w w' := by
  obtain ⟨hrm, hrd, hok, hok2⟩ := h
  obtain ⟨kd, xn, xm, xa, xb, kp, ka, kc⟩ := x
  simp only at hk
  subst hk
  obtain ⟨-, hxn, hxm, hxa, hxb, hkr, hkb⟩ := hx
  simp only at hxn hxm hxa hxb hkr hkb
  unfold inD at hxn hxm hkb
  obtain ⟨W0, hW0⟩ : ∃ W0, w.alloc (.cells #[.int .i64 0, .int .i64 xn, .int .i64 xm, .string xa, .string xb, .slice ka kp.length kc] 31) = W0 := ⟨_, rfl⟩
  have BX := Lib.hid (show Box W0 w.heap.size #[.int .i64 0, .int .i64 xn, .int .i64 xm, .string xa, .string xb, .slice ka kp.length kc] 31 from by rw [← hW0]; exact Box.new w _ _ _ rfl)
  have RM := Lib.hid (show RdM W0 S g p dp from by rw [← hW0]; exact hrm.on (alloc_below _ _))
  have RD := Lib.hid (show RdD W0 B g' p' dr from by rw [← hW0]; exact hrd.on (alloc_below _ _))
  have GB := Lib.hid (show Below w.heap.size w W0 from by rw [← hW0]; exact alloc_below _ _)
  have HS := Lib.hid (show ∀ i, W0.heap.size ≤ i → S i from fun i hi => hS i (Nat.le_trans GB.out.size hi))
  have HBW := Lib.hid (show B ≤ W0.heap.size from Nat.le_trans hB GB.out.size)
  have HBL := Lib.hid hB
  have HSB := Lib.hid hSB
  have OK := Lib.hid hok
  have OK2 := Lib.hid hok2
  have HKR := Lib.hid hkr
  have HKB := Lib.hid hkb
  have HXA := Lib.hid hxa
  have HXB := Lib.hid hxb
  have HXN := Lib.hid hxn
  have HXM := Lib.hid hxm
  have c0 := BX.out.cell 0 (.int .i64 0) rfl
  have c1 := BX.out.cell 1 (.int .i64 xn) rfl
  have c2 := BX.out.cell 2 (.int .i64 xm) rfl
  have c3 := BX.out.cell 3 (.string xa) rfl
  have c4 := BX.out.cell 4 (.string xb) rfl
  have c5 := BX.out.cell 5 (.slice ka kp.length kc) rfl
  have FA := Lib.hid (fewS_size xa)
  have FB := Lib.hid (fewS_size xb)
  clear hrm hrd hok hok2 hkr hkb hxa hxb hB hSB hS hxn hxm
  go_enter Try.func13, Try.ntmps13
  go_wp2_with (first
    | (go_at_call 15; refine (few7 _ _).mono ?_; rintro e w' ⟨rfl, rfl⟩)
    | (go_at_call 16; refine (p_create RM.out OK.out HS.out (fewS xa) (Nat.le_trans FA.out (by decide))).mono ?_; rintro e w1 ⟨rfl, hm1, hk1⟩; have M1 := Lib.hid hm1; have K1 := Lib.hid hk1; clear hm1 hk1)
    | (go_at_call 28; refine (ref_create7 _ B g' _ dr (fewS xa) (RD.out.kept K1.out) OK2.out (Nat.le_trans FA.out (by decide))).mono ?_; rintro e w2 ⟨rfl, hd2, hk2⟩; have D2 := Lib.hid hd2; have K2 := Lib.hid hk2; clear hd2 hk2))
  go_ret
  exact ⟨⟨_, rfl, fun e => by first | rfl | (rw [e]; simp)⟩, ⟨M1.out.keeps K2.out, D2.out, ok_create OK.out _, ok_create OK2.out _⟩, ((GB.out.mono HBL.out).trans (K1.out.under HBW.out HSB.out)).trans K2.out.below⟩

set_option maxHeartbeats 8000000 in
set_option maxRecDepth 100000 in
theorem does_append (w : World) (B : Nat) (S : Nat → Prop) (g g' : Nat) (p p' : Value) (dp dr : Dk) (x : Deed) (h : Two w B S g g' p p' dp dr) (hB : B ≤ w.heap.size) (hSB : ∀ i, S i → B ≤ i) (hS : ∀ i, w.heap.size ≤ i → S i) (hx : OkDeed w B x) (hk : x.kind = 1) :
    Calls Try.prog 13 #[p, p', .agg #[.int .i64 x.kind, .int .i64 x.n, .int .i64 x.m, .string x.a, .string x.b, .slice x.ka x.keep.length x.kc]] w fun e w' => (∃ q : Bool, e = .returned (.bool q) ∧ (dp = dr → q = true)) ∧ Two w' B S g g' p p' ((appendD dp (fewS x.a) (fewS x.b)).1) ((appendD dr (fewS x.a) (fewS x.b)).1) ∧ Below B w w' := by
  obtain ⟨hrm, hrd, hok, hok2⟩ := h
  obtain ⟨kd, xn, xm, xa, xb, kp, ka, kc⟩ := x
  simp only at hk
  subst hk
  obtain ⟨-, hxn, hxm, hxa, hxb, hkr, hkb⟩ := hx
  simp only at hxn hxm hxa hxb hkr hkb
  unfold inD at hxn hxm hkb
  obtain ⟨W0, hW0⟩ : ∃ W0, w.alloc (.cells #[.int .i64 1, .int .i64 xn, .int .i64 xm, .string xa, .string xb, .slice ka kp.length kc] 31) = W0 := ⟨_, rfl⟩
  have BX := Lib.hid (show Box W0 w.heap.size #[.int .i64 1, .int .i64 xn, .int .i64 xm, .string xa, .string xb, .slice ka kp.length kc] 31 from by rw [← hW0]; exact Box.new w _ _ _ rfl)
  have RM := Lib.hid (show RdM W0 S g p dp from by rw [← hW0]; exact hrm.on (alloc_below _ _))
  have RD := Lib.hid (show RdD W0 B g' p' dr from by rw [← hW0]; exact hrd.on (alloc_below _ _))
  have GB := Lib.hid (show Below w.heap.size w W0 from by rw [← hW0]; exact alloc_below _ _)
  have HS := Lib.hid (show ∀ i, W0.heap.size ≤ i → S i from fun i hi => hS i (Nat.le_trans GB.out.size hi))
  have HBW := Lib.hid (show B ≤ W0.heap.size from Nat.le_trans hB GB.out.size)
  have HBL := Lib.hid hB
  have HSB := Lib.hid hSB
  have OK := Lib.hid hok
  have OK2 := Lib.hid hok2
  have HKR := Lib.hid hkr
  have HKB := Lib.hid hkb
  have HXA := Lib.hid hxa
  have HXB := Lib.hid hxb
  have HXN := Lib.hid hxn
  have HXM := Lib.hid hxm
  have c0 := BX.out.cell 0 (.int .i64 1) rfl
  have c1 := BX.out.cell 1 (.int .i64 xn) rfl
  have c2 := BX.out.cell 2 (.int .i64 xm) rfl
  have c3 := BX.out.cell 3 (.string xa) rfl
  have c4 := BX.out.cell 4 (.string xb) rfl
  have c5 := BX.out.cell 5 (.slice ka kp.length kc) rfl
  have FA := Lib.hid (fewS_size xa)
  have FB := Lib.hid (fewS_size xb)
  clear hrm hrd hok hok2 hkr hkb hxa hxb hB hSB hS hxn hxm
  obtain ⟨UA, uc, W1, hcv, hur, hub, -⟩ := str_bytes (fewS xb) W0 (Nat.le_trans FB.out (by decide))
  have UR := Lib.hid hur
  have UB := Lib.hid hub
  clear hur hub
  go_enter Try.func13, Try.ntmps13
  go_wp2_with (first
    | (go_at_call 15; refine (few7 _ _).mono ?_; rintro e w' ⟨rfl, rfl⟩)
    | (go_at_call 17; refine (p_append (RM.out.on UB.out) OK.out (fun i hi => HS.out i (Nat.le_trans UB.out.size hi)) (fewS xa) (fewS xb) (Nat.le_trans FA.out (by decide)) (Nat.le_trans FB.out (by decide)) _ UR.out).mono ?_; rintro e w1 ⟨rfl, hm1, hk1⟩; have M1 := Lib.hid hm1; have K1 := Lib.hid hk1; clear hm1 hk1)
    | (go_at_call 29; refine (ref_append7 _ B g' _ dr (fewS xa) (fewS xb) ((RD.out.on UB.out).kept K1.out) OK2.out (Nat.le_trans FB.out (by decide))).mono ?_; rintro e w2 ⟨rfl, hd2, hk2⟩; have D2 := Lib.hid hd2; have K2 := Lib.hid hk2; clear hd2 hk2))
  go_ret
  exact ⟨⟨_, rfl, fun e => by first | rfl | (rw [e]; simp)⟩, ⟨M1.out.keeps K2.out, D2.out, ok_append OK.out _ _, ok_append OK2.out _ _⟩, (((GB.out.mono HBL.out).trans (UB.out.mono HBW.out)).trans (K1.out.under (Nat.le_trans HBW.out UB.out.size) HSB.out)).trans K2.out.below⟩

set_option maxHeartbeats 8000000 in
set_option maxRecDepth 100000 in
theorem does_sync (w : World) (B : Nat) (S : Nat → Prop) (g g' : Nat) (p p' : Value) (dp dr : Dk) (x : Deed) (h : Two w B S g g' p p' dp dr) (hB : B ≤ w.heap.size) (hSB : ∀ i, S i → B ≤ i) (hS : ∀ i, w.heap.size ≤ i → S i) (hx : OkDeed w B x) (hk : x.kind = 2) :
    Calls Try.prog 13 #[p, p', .agg #[.int .i64 x.kind, .int .i64 x.n, .int .i64 x.m, .string x.a, .string x.b, .slice x.ka x.keep.length x.kc]] w fun e w' => (∃ q : Bool, e = .returned (.bool q) ∧ (dp = dr → q = true)) ∧ Two w' B S g g' p p' ((endsD dp (fewS x.a) false).1) ((endsD dr (fewS x.a) false).1) ∧ Below B w w' := by
  obtain ⟨hrm, hrd, hok, hok2⟩ := h
  obtain ⟨kd, xn, xm, xa, xb, kp, ka, kc⟩ := x
  simp only at hk
  subst hk
  obtain ⟨-, hxn, hxm, hxa, hxb, hkr, hkb⟩ := hx
  simp only at hxn hxm hxa hxb hkr hkb
  unfold inD at hxn hxm hkb
  obtain ⟨W0, hW0⟩ : ∃ W0, w.alloc (.cells #[.int .i64 2, .int .i64 xn, .int .i64 xm, .string xa, .string xb, .slice ka kp.length kc] 31) = W0 := ⟨_, rfl⟩
  have BX := Lib.hid (show Box W0 w.heap.size #[.int .i64 2, .int .i64 xn, .int .i64 xm, .string xa, .string xb, .slice ka kp.length kc] 31 from by rw [← hW0]; exact Box.new w _ _ _ rfl)
  have RM := Lib.hid (show RdM W0 S g p dp from by rw [← hW0]; exact hrm.on (alloc_below _ _))
  have RD := Lib.hid (show RdD W0 B g' p' dr from by rw [← hW0]; exact hrd.on (alloc_below _ _))
  have GB := Lib.hid (show Below w.heap.size w W0 from by rw [← hW0]; exact alloc_below _ _)
  have HS := Lib.hid (show ∀ i, W0.heap.size ≤ i → S i from fun i hi => hS i (Nat.le_trans GB.out.size hi))
  have HBW := Lib.hid (show B ≤ W0.heap.size from Nat.le_trans hB GB.out.size)
  have HBL := Lib.hid hB
  have HSB := Lib.hid hSB
  have OK := Lib.hid hok
  have OK2 := Lib.hid hok2
  have HKR := Lib.hid hkr
  have HKB := Lib.hid hkb
  have HXA := Lib.hid hxa
  have HXB := Lib.hid hxb
  have HXN := Lib.hid hxn
  have HXM := Lib.hid hxm
  have c0 := BX.out.cell 0 (.int .i64 2) rfl
  have c1 := BX.out.cell 1 (.int .i64 xn) rfl
  have c2 := BX.out.cell 2 (.int .i64 xm) rfl
  have c3 := BX.out.cell 3 (.string xa) rfl
  have c4 := BX.out.cell 4 (.string xb) rfl
  have c5 := BX.out.cell 5 (.slice ka kp.length kc) rfl
  have FA := Lib.hid (fewS_size xa)
  have FB := Lib.hid (fewS_size xb)
  clear hrm hrd hok hok2 hkr hkb hxa hxb hB hSB hS hxn hxm
  go_enter Try.func13, Try.ntmps13
  go_wp2_with (first
    | (go_at_call 15; refine (few7 _ _).mono ?_; rintro e w' ⟨rfl, rfl⟩)
    | (go_at_call 18; refine (p_sync RM.out OK.out HS.out (fewS xa) (Nat.le_trans FA.out (by decide))).mono ?_; rintro e w1 ⟨rfl, hm1, hk1⟩; have M1 := Lib.hid hm1; have K1 := Lib.hid hk1; clear hm1 hk1)
    | (go_at_call 30; refine (ref_ends7 _ B g' _ dr (fewS xa) false (RD.out.kept K1.out) OK2.out).mono ?_; rintro e w2 ⟨rfl, hd2, hk2⟩; have D2 := Lib.hid hd2; have K2 := Lib.hid hk2; clear hd2 hk2))
  go_ret
  exact ⟨⟨_, rfl, fun e => by first | rfl | (rw [e]; simp)⟩, ⟨M1.out.keeps K2.out, D2.out, ok_ends OK.out _ _, ok_ends OK2.out _ _⟩, ((GB.out.mono HBL.out).trans (K1.out.under HBW.out HSB.out)).trans K2.out.below⟩

set_option maxHeartbeats 8000000 in
set_option maxRecDepth 100000 in
theorem does_rename (w : World) (B : Nat) (S : Nat → Prop) (g g' : Nat) (p p' : Value) (dp dr : Dk) (x : Deed) (h : Two w B S g g' p p' dp dr) (hB : B ≤ w.heap.size) (hSB : ∀ i, S i → B ≤ i) (hS : ∀ i, w.heap.size ≤ i → S i) (hx : OkDeed w B x) (hk : x.kind = 3) :
    Calls Try.prog 13 #[p, p', .agg #[.int .i64 x.kind, .int .i64 x.n, .int .i64 x.m, .string x.a, .string x.b, .slice x.ka x.keep.length x.kc]] w fun e w' => (∃ q : Bool, e = .returned (.bool q) ∧ (dp = dr → q = true)) ∧ Two w' B S g g' p p' ((renameD dp (fewS x.a) (fewS x.b)).1) ((renameD dr (fewS x.a) (fewS x.b)).1) ∧ Below B w w' := by
  obtain ⟨hrm, hrd, hok, hok2⟩ := h
  obtain ⟨kd, xn, xm, xa, xb, kp, ka, kc⟩ := x
  simp only at hk
  subst hk
  obtain ⟨-, hxn, hxm, hxa, hxb, hkr, hkb⟩ := hx
  simp only at hxn hxm hxa hxb hkr hkb
  unfold inD at hxn hxm hkb
  obtain ⟨W0, hW0⟩ : ∃ W0, w.alloc (.cells #[.int .i64 3, .int .i64 xn, .int .i64 xm, .string xa, .string xb, .slice ka kp.length kc] 31) = W0 := ⟨_, rfl⟩
  have BX := Lib.hid (show Box W0 w.heap.size #[.int .i64 3, .int .i64 xn, .int .i64 xm, .string xa, .string xb, .slice ka kp.length kc] 31 from by rw [← hW0]; exact Box.new w _ _ _ rfl)
  have RM := Lib.hid (show RdM W0 S g p dp from by rw [← hW0]; exact hrm.on (alloc_below _ _))
  have RD := Lib.hid (show RdD W0 B g' p' dr from by rw [← hW0]; exact hrd.on (alloc_below _ _))
  have GB := Lib.hid (show Below w.heap.size w W0 from by rw [← hW0]; exact alloc_below _ _)
  have HS := Lib.hid (show ∀ i, W0.heap.size ≤ i → S i from fun i hi => hS i (Nat.le_trans GB.out.size hi))
  have HBW := Lib.hid (show B ≤ W0.heap.size from Nat.le_trans hB GB.out.size)
  have HBL := Lib.hid hB
  have HSB := Lib.hid hSB
  have OK := Lib.hid hok
  have OK2 := Lib.hid hok2
  have HKR := Lib.hid hkr
  have HKB := Lib.hid hkb
  have HXA := Lib.hid hxa
  have HXB := Lib.hid hxb
  have HXN := Lib.hid hxn
  have HXM := Lib.hid hxm
  have c0 := BX.out.cell 0 (.int .i64 3) rfl
  have c1 := BX.out.cell 1 (.int .i64 xn) rfl
  have c2 := BX.out.cell 2 (.int .i64 xm) rfl
  have c3 := BX.out.cell 3 (.string xa) rfl
  have c4 := BX.out.cell 4 (.string xb) rfl
  have c5 := BX.out.cell 5 (.slice ka kp.length kc) rfl
  have FA := Lib.hid (fewS_size xa)
  have FB := Lib.hid (fewS_size xb)
  clear hrm hrd hok hok2 hkr hkb hxa hxb hB hSB hS hxn hxm
  go_enter Try.func13, Try.ntmps13
  go_wp2_with (first
    | (go_at_call 15; refine (few7 _ _).mono ?_; rintro e w' ⟨rfl, rfl⟩)
    | (go_at_call 31; refine (p_rename RM.out OK.out HS.out (fewS xa) (fewS xb) (Nat.le_trans FA.out (by decide)) (Nat.le_trans FB.out (by decide))).mono ?_; rintro e w1 ⟨rfl, hm1, hk1⟩; have M1 := Lib.hid hm1; have K1 := Lib.hid hk1; clear hm1 hk1)
    | (go_at_call 32; refine (ref_rename7 _ B g' _ dr (fewS xa) (fewS xb) (RD.out.kept K1.out) OK2.out (Nat.le_trans FB.out (by decide))).mono ?_; rintro e w2 ⟨rfl, hd2, hk2⟩; have D2 := Lib.hid hd2; have K2 := Lib.hid hk2; clear hd2 hk2))
  go_ret
  exact ⟨⟨_, rfl, fun e => by first | rfl | (rw [e]; simp)⟩, ⟨M1.out.keeps K2.out, D2.out, ok_rename OK.out _ _, ok_rename OK2.out _ _⟩, ((GB.out.mono HBL.out).trans (K1.out.under HBW.out HSB.out)).trans K2.out.below⟩

set_option maxHeartbeats 8000000 in
set_option maxRecDepth 100000 in
theorem does_remove (w : World) (B : Nat) (S : Nat → Prop) (g g' : Nat) (p p' : Value) (dp dr : Dk) (x : Deed) (h : Two w B S g g' p p' dp dr) (hB : B ≤ w.heap.size) (hSB : ∀ i, S i → B ≤ i) (hS : ∀ i, w.heap.size ≤ i → S i) (hx : OkDeed w B x) (hk : x.kind = 4) :
    Calls Try.prog 13 #[p, p', .agg #[.int .i64 x.kind, .int .i64 x.n, .int .i64 x.m, .string x.a, .string x.b, .slice x.ka x.keep.length x.kc]] w fun e w' => (∃ q : Bool, e = .returned (.bool q) ∧ (dp = dr → q = true)) ∧ Two w' B S g g' p p' ((endsD dp (fewS x.a) true).1) ((endsD dr (fewS x.a) true).1) ∧ Below B w w' := by
  obtain ⟨hrm, hrd, hok, hok2⟩ := h
  obtain ⟨kd, xn, xm, xa, xb, kp, ka, kc⟩ := x
  simp only at hk
  subst hk
  obtain ⟨-, hxn, hxm, hxa, hxb, hkr, hkb⟩ := hx
  simp only at hxn hxm hxa hxb hkr hkb
  unfold inD at hxn hxm hkb
  obtain ⟨W0, hW0⟩ : ∃ W0, w.alloc (.cells #[.int .i64 4, .int .i64 xn, .int .i64 xm, .string xa, .string xb, .slice ka kp.length kc] 31) = W0 := ⟨_, rfl⟩
  have BX := Lib.hid (show Box W0 w.heap.size #[.int .i64 4, .int .i64 xn, .int .i64 xm, .string xa, .string xb, .slice ka kp.length kc] 31 from by rw [← hW0]; exact Box.new w _ _ _ rfl)
  have RM := Lib.hid (show RdM W0 S g p dp from by rw [← hW0]; exact hrm.on (alloc_below _ _))
  have RD := Lib.hid (show RdD W0 B g' p' dr from by rw [← hW0]; exact hrd.on (alloc_below _ _))
  have GB := Lib.hid (show Below w.heap.size w W0 from by rw [← hW0]; exact alloc_below _ _)
  have HS := Lib.hid (show ∀ i, W0.heap.size ≤ i → S i from fun i hi => hS i (Nat.le_trans GB.out.size hi))
  have HBW := Lib.hid (show B ≤ W0.heap.size from Nat.le_trans hB GB.out.size)
  have HBL := Lib.hid hB
  have HSB := Lib.hid hSB
  have OK := Lib.hid hok
  have OK2 := Lib.hid hok2
  have HKR := Lib.hid hkr
  have HKB := Lib.hid hkb
  have HXA := Lib.hid hxa
  have HXB := Lib.hid hxb
  have HXN := Lib.hid hxn
  have HXM := Lib.hid hxm
  have c0 := BX.out.cell 0 (.int .i64 4) rfl
  have c1 := BX.out.cell 1 (.int .i64 xn) rfl
  have c2 := BX.out.cell 2 (.int .i64 xm) rfl
  have c3 := BX.out.cell 3 (.string xa) rfl
  have c4 := BX.out.cell 4 (.string xb) rfl
  have c5 := BX.out.cell 5 (.slice ka kp.length kc) rfl
  have FA := Lib.hid (fewS_size xa)
  have FB := Lib.hid (fewS_size xb)
  clear hrm hrd hok hok2 hkr hkb hxa hxb hB hSB hS hxn hxm
  go_enter Try.func13, Try.ntmps13
  go_wp2_with (first
    | (go_at_call 15; refine (few7 _ _).mono ?_; rintro e w' ⟨rfl, rfl⟩)
    | (go_at_call 33; refine (p_remove RM.out OK.out HS.out (fewS xa) (Nat.le_trans FA.out (by decide))).mono ?_; rintro e w1 ⟨rfl, hm1, hk1⟩; have M1 := Lib.hid hm1; have K1 := Lib.hid hk1; clear hm1 hk1)
    | (go_at_call 30; refine (ref_ends7 _ B g' _ dr (fewS xa) true (RD.out.kept K1.out) OK2.out).mono ?_; rintro e w2 ⟨rfl, hd2, hk2⟩; have D2 := Lib.hid hd2; have K2 := Lib.hid hk2; clear hd2 hk2))
  go_ret
  exact ⟨⟨_, rfl, fun e => by first | rfl | (rw [e]; simp)⟩, ⟨M1.out.keeps K2.out, D2.out, ok_ends OK.out _ _, ok_ends OK2.out _ _⟩, ((GB.out.mono HBL.out).trans (K1.out.under HBW.out HSB.out)).trans K2.out.below⟩

end Go.Proofs.Ytbdaflhmloodfaa
