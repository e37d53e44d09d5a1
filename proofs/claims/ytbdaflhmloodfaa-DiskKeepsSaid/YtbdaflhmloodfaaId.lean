/- Layer 7: the document's example. -/
import Derived.Test.YtbdaflhmloodfaaIp
import Derived.Lib.SlBytesConst
namespace Go.Proofs.Ytbdaflhmloodfaa
open Go.RowKit
set_option linter.unusedVariables false

def exA : ByteArray := ⟨#[97]⟩
def exD0 : Dk := ⟨[], 100, -1, false⟩
def exD1 : Dk := (createD exD0 exA).1
def exD2 : Dk := (appendD exD1 exA ⟨#[97, 98, 99]⟩).1
def exD3 : Dk := (endsD exD2 exA false).1
def exD4 : Dk := armD exD3 0
def exD5 : Dk := (appendD exD4 exA ⟨#[100, 101, 102]⟩).1
def exD6 : Dk := upD exD5 [1]
theorem ex_seven : (appendD exD4 exA ⟨#[100, 101, 102]⟩).2 = 7 := by kernel_rfl
theorem ex_read : readD exD6 exA 0 9 = (⟨#[97, 98, 99, 100]⟩, 0) := by kernel_rfl
theorem exO0 : OkD exD0 := ok_new (by omega)
theorem exO1 : OkD exD1 := ok_create exO0 _
theorem exO2 : OkD exD2 := ok_append exO1 _ _
theorem exO3 : OkD exD3 := ok_ends exO2 _ _
theorem exO4 : OkD exD4 := ok_arm exO3 0 (by omega)
theorem exO5 : OkD exD5 := ok_append exO4 _ _
theorem exO6 : OkD exD6 := ok_up exO5 _
theorem lit_one {w : World} {S : Nat → Prop} {n : Nat} (hb : Box w n #[.int .i64 1] 3) : ∀ wr, Kept S w wr → ∃ B, RdI wr B (.slice (some ⟨n, 0, none⟩) 1 1) [1] := fun wr hk => by
  have h1 := hk.box hb (by simp [projO, filO])
  refine ⟨n + 1, some ⟨n, 0, none⟩, 1, rfl, by simp, by omega, fun _ => ⟨n, 0, rfl, by omega, fun k x hx => ?_⟩⟩
  match k, hx with
  | 0, hx => simp at hx; subst hx; exact h1.cell 0 _ rfl
  | k + 1, hx => simp at hx

theorem rd_marked (w : World) (l : List UInt8) (cs : Array Value) (p : Nat × Nat) (h : cs = (bv l).toArray) (hl : l.length ≤ 1099511627776) :
    RdB (w.alloc (.cells cs 5 p)) (w.heap.size + 1) (.slice (some ⟨w.heap.size, 0, none⟩) l.length l.length) l := by
  subst h
  refine ⟨_, l.length, rfl, Nat.le_refl _, by omega, fun _ => ⟨_, _, rfl, by omega, fun k u hk => ?_⟩⟩
  rw [cell_of_row _ _ _ _ _ p (heap_alloc_new w _)]
  simp [bv, hk]

set_option maxHeartbeats 8000000 in
set_option maxRecDepth 100000 in
theorem lives_any (w : World) : Calls Try.prog 12 #[] w fun e w' => e = .returned (.bool true) ∧ Below w.heap.size w w' := by
  have kc := fun (w : World) (C : Array Value) (n c : Nat) => Lib.run_convert_bytes_const (P := Try.prog) w 38 5 C n c Try.underlying38 Try.underlying5
  obtain ⟨S, hS⟩ : ∃ S : Nat → Prop, S = fun i => w.heap.size ≤ i := ⟨_, rfl⟩
  have HSI := Lib.hid (show ∀ i, w.heap.size ≤ i → S i from fun i h => by rw [hS]; exact h)
  have HSB := Lib.hid (show ∀ i, S i → w.heap.size ≤ i from fun i h => by rw [hS] at h; exact h)
  clear hS
  go_enter Try.func12, Try.ntmps12
  go_wp2_with fail
  refine (p_new w 100 S ⟨by omega, by omega⟩ HSI.out).mono ?_
  rintro e w1 ⟨g, rfl, hg, hm1, hb1⟩
  have M1 := Lib.hid hm1
  have G1 := Lib.hid hb1
  clear hm1 hb1 hg
  go_wp2_with fail
  refine (p_create (d := exD0) M1.out exO0 (fun i hi => HSI.out i (Nat.le_trans G1.out.size hi)) exA (by decide)).mono ?_
  rintro e w2 ⟨rfl, hm2, hk2⟩
  generalize hq2 : (createD exD0 exA).2 = q2
  have M2 := Lib.hid (show RdM w2 S g _ exD1 from hm2)
  have G2 := Lib.hid (G1.out.trans (hk2.under G1.out.size HSB.out))
  clear hm2 hk2 hq2
  have U2 := Lib.hid (rd_marked w2 [97, 98, 99] #[.int .u8 97, .int .u8 98, .int .u8 99] (3, 4) rfl (by simp))
  go_wp2_with fail
  refine (p_append (d := exD1) (M2.out.on (alloc_below _ _)) exO1 (fun i hi => HSI.out i (Nat.le_trans G2.out.size (Nat.le_trans (alloc_below w2 _).size hi))) exA ⟨#[97, 98, 99]⟩ (by decide) (by decide) _ (U2.out.more (by simp))).mono ?_
  rintro e w3 ⟨rfl, hm3, hk3⟩
  generalize hq3 : (appendD exD1 exA ⟨#[97, 98, 99]⟩).2 = q3
  have M3 := Lib.hid (show RdM w3 S g _ exD2 from hm3)
  have G3 := Lib.hid ((G2.out.trans ((alloc_below w2 _).mono G2.out.size)).trans (hk3.under (Nat.le_trans G2.out.size (alloc_below w2 _).size) HSB.out))
  clear hm3 hk3 hq3
  go_wp2_with fail
  refine (p_sync (d := exD2) M3.out exO2 (fun i hi => HSI.out i (Nat.le_trans G3.out.size hi)) exA (by decide)).mono ?_
  rintro e w4 ⟨rfl, hm4, hk4⟩
  generalize hq4 : (endsD exD2 exA false).2 = q4
  have M4 := Lib.hid (show RdM w4 S g _ exD3 from hm4)
  have G4 := Lib.hid (G3.out.trans (hk4.under G3.out.size HSB.out))
  clear hm4 hk4 hq4
  go_wp2_with fail
  refine (p_arm (d := exD3) M4.out 0 (by omega)).mono ?_
  rintro e w5 ⟨rfl, hm5, hk5⟩
  have M5 := Lib.hid (show RdM w5 S g _ exD4 from hm5)
  have G5 := Lib.hid (G4.out.trans (hk5.under G4.out.size HSB.out))
  clear hm5 hk5
  have U5 := Lib.hid (rd_marked w5 [100, 101, 102] #[.int .u8 100, .int .u8 101, .int .u8 102] (3, 4) rfl (by simp))
  go_wp2_with fail
  refine (p_append (d := exD4) (M5.out.on (alloc_below _ _)) exO4 (fun i hi => HSI.out i (Nat.le_trans G5.out.size (Nat.le_trans (alloc_below w5 _).size hi))) exA ⟨#[100, 101, 102]⟩ (by decide) (by decide) _ (U5.out.more (by simp))).mono ?_
  rintro e w6 ⟨rfl, hm6, hk6⟩
  rw [ex_seven]
  have M6 := Lib.hid (show RdM w6 S g _ exD5 from hm6)
  have G6 := Lib.hid ((G5.out.trans ((alloc_below w5 _).mono G5.out.size)).trans (hk6.under (Nat.le_trans G5.out.size (alloc_below w5 _).size) HSB.out))
  clear hm6 hk6
  go_wp2_with fail
  refine (p_up (d := exD5) (M6.out.on (alloc_below _ _)) exO5 (fun i hi => HSI.out i (Nat.le_trans G6.out.size (Nat.le_trans (alloc_below w6 _).size hi))) _ [1] (lit_one (Box.new w6 _ _ _ rfl)) (by simp)).mono ?_
  rintro e w7 ⟨rfl, hm7, hk7⟩
  have M7 := Lib.hid (show RdM w7 S g _ exD6 from hm7)
  have G7 := Lib.hid ((G6.out.trans ((alloc_below w6 _).mono G6.out.size)).trans (hk7.under (Nat.le_trans G6.out.size (alloc_below w6 _).size) HSB.out))
  clear hm7 hk7
  go_wp2_with fail
  have hrd := p_read (d := exD6) M7.out exA 0 9 (by decide) exO6 (by omega) (by omega)
  rw [ex_read] at hrd
  have HRD := Lib.hid hrd
  clear hrd
  refine (HRD.out).mono ?_
  rintro e w8 ⟨v, rfl, ho, hb8⟩
  have hcv : (convert 38 9 v).run Try.prog w8 = .ok (.string ⟨#[97, 98, 99, 100]⟩) w8 := OwnB.str ho
  have G8 := Lib.hid (G7.out.trans (hb8.mono G7.out.size))
  clear ho hb8
  go_wp2_with fail
  go_ret
  exact ⟨by first | rfl | simp, G8.out⟩
end Go.Proofs.Ytbdaflhmloodfaa
