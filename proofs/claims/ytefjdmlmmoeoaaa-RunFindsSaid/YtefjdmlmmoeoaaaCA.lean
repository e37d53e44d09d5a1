/- Plain facts on check sums: the register as a number; as a row of bits; that one byte more or less tells. -/
import Derived.Test.YtefjdmlmmoeoaaaRows
import Derived.Test.YtefjdmlmmoeoaaaBstr
import Derived.Test.YtefjdmlmmoeoaaaBrow
import Derived.Test.YtefjdmlmmoeoaaaBE
import Derived.WalkKit
import Derived.RegionTactic
import Derived.StillTailTactics
namespace Go.Proofs.Ytefjdmlmmoeoaaa
open Go.RowKit

/-- One bit out of the register. -/
def crcBit (r : Nat) : Nat := if r % 2 = 1 then r / 2 ^^^ 3988292384 else r / 2
def crcBits : Nat → Nat → Nat
  | 0, r => r
  | k + 1, r => crcBits k (crcBit r)
/-- One byte into it. -/
def crcByte (r : Nat) (c : UInt8) : Nat := crcBits 8 (r ^^^ c.toNat)
def crcGo (r : Nat) (l : List UInt8) : Nat := l.foldl crcByte r
def crcN (l : List UInt8) : Nat := crcGo 4294967295 l ^^^ 4294967295

theorem xor_lt {a b k : Nat} (ha : a < 2 ^ k) (hb : b < 2 ^ k) : a ^^^ b < 2 ^ k := Nat.xor_lt_two_pow ha hb
theorem crcBit_lt {r : Nat} (h : r < 4294967296) : crcBit r < 4294967296 := by
  unfold crcBit
  split
  · exact xor_lt (k := 32) (by omega) (by decide)
  · omega
theorem crcBits_lt (k : Nat) : ∀ {r : Nat}, r < 4294967296 → crcBits k r < 4294967296 := by
  induction k with
  | zero => intro r h; exact h
  | succ k ih => intro r h; exact ih (crcBit_lt h)
theorem crcByte_lt {r : Nat} (c : UInt8) (h : r < 4294967296) : crcByte r c < 4294967296 :=
  crcBits_lt 8 (xor_lt (k := 32) h (by have := c.toNat_lt; omega))
theorem crcGo_lt (l : List UInt8) : ∀ {r : Nat}, r < 4294967296 → crcGo r l < 4294967296 := by
  induction l with
  | nil => intro r h; exact h
  | cons c l ih => intro r h; exact ih (crcByte_lt c h)
theorem crcN_lt (l : List UInt8) : crcN l < 4294967296 := xor_lt (k := 32) (crcGo_lt l (by omega)) (by decide)
theorem crcGo_append (r : Nat) (l m : List UInt8) : crcGo r (l ++ m) = crcGo (crcGo r l) m := by simp [crcGo]

/-- The last bit that came out stands in the highest one. -/
theorem crcBit_high {r : Nat} (h : r < 4294967296) : (crcBit r).testBit 31 = decide (r % 2 = 1) := by
  unfold crcBit
  have hr : (r / 2).testBit 31 = false := Nat.testBit_lt_two_pow (by omega)
  split
  · rename_i h1
    rw [Nat.testBit_xor, hr, h1]; decide
  · rename_i h1
    rw [hr]; simp [h1]
theorem byte_lt (r : Nat) (c : UInt8) (h : r < 4294967296) : r ^^^ c.toNat < 4294967296 := xor_lt (k := 32) h (by have := c.toNat_lt; omega)

/-- The register as the document's answer has it: 32 bits, the lowest first. -/
def bit (r i : Nat) : Nat := if r.testBit i then 1 else 0
theorem bit_le (r i : Nat) : bit r i ≤ 1 := by unfold bit; split <;> omega
theorem bit_eq (r i : Nat) : bit r i = r / 2 ^ i % 2 := by
  unfold bit
  rw [Nat.testBit_eq_decide_div_mod_eq]
  by_cases h : r / 2 ^ i % 2 = 1
  · simp [h]
  · have : r / 2 ^ i % 2 = 0 := by omega
    simp [this]
theorem bit_xor (a b i : Nat) : bit (a ^^^ b) i = (bit a i + bit b i) % 2 := by
  unfold bit
  rw [Nat.testBit_xor]
  cases a.testBit i <;> cases b.testBit i <;> rfl
theorem bit_crc (r i : Nat) (_hi : i < 31) : bit (crcBit r) i = (bit r (i + 1) + bit r 0 * bit 3988292384 i) % 2 := by
  have h0 : bit r 0 = r % 2 := by rw [bit_eq]; simp
  have hs : bit (r / 2) i = bit r (i + 1) := by
    rw [bit_eq, bit_eq, Nat.pow_succ, Nat.mul_comm (2 ^ i) 2, Nat.div_div_eq_div_mul]
  have h1 := bit_le r (i + 1)
  unfold crcBit
  split
  · rename_i h
    rw [bit_xor, hs, h0, h, Nat.one_mul]
  · rename_i h
    have : r % 2 = 0 := by omega
    rw [hs, h0, this, Nat.zero_mul, Nat.add_zero]; omega
theorem bit_crc_high (r : Nat) (h : r < 4294967296) : bit (crcBit r) 31 = bit r 0 * bit 3988292384 31 := by
  have h0 : bit r 0 = r % 2 := by rw [bit_eq]; simp
  have hp : bit 3988292384 31 = 1 := by decide
  rw [h0, hp]
  unfold bit
  rw [crcBit_high h]
  by_cases h1 : r % 2 = 1
  · simp [h1]
  · have : r % 2 = 0 := by omega
    simp [this]
end Go.Proofs.Ytefjdmlmmoeoaaa
/- Layer 3: rows of 32 numbers that a call owns; the document's bits of a number. -/
namespace Go.Proofs.Ytefjdmlmmoeoaaa
open Go.RowKit
set_option linter.unusedVariables false

/-- v is the row, in block g, of memory from base on, of 32 numbers f 0 .. f 31. -/
def rowF (f : Nat → Nat) : List Value := (List.range 32).map fun i => .int .i64 (f i : Int)
def Own32 (w : World) (base g : Nat) (f : Nat → Nat) : Prop := w.ownsRow base 3 1 (.slice (some ⟨g, 0, none⟩) 32 32) 32 (rowF f)

theorem rowF_congr {f f' : Nat → Nat} (h : ∀ i, i < 32 → f i = f' i) : rowF f = rowF f' := by
  unfold rowF
  exact List.map_congr_left fun i hi => by rw [h i (by simpa using hi)]
theorem Own32.congr {w : World} {base g : Nat} {f f' : Nat → Nat} (h : Own32 w base g f) (hf : ∀ i, i < 32 → f i = f' i) : Own32 w base g f' := by
  unfold Own32; rw [← rowF_congr hf]; exact h
theorem rowF_at (f : Nat → Nat) (j : Nat) (h : j < 32) : (rowF f)[j]? = some (.int .i64 (f j : Int)) := by simp [rowF, h]
theorem rowF_set (f : Nat → Nat) (j x : Nat) (h : j < 32) : (rowF f).set j (.int .i64 (x : Int)) = rowF (fun i => if i = j then x else f i) := by
  apply List.ext_getElem?
  intro i
  by_cases hi : i < 32
  · rw [List.getElem?_set, rowF_at _ i hi]
    by_cases hij : j = i
    · subst hij; simp [rowF, h]
    · rw [if_neg hij, rowF_at _ i hi, if_neg (fun e => hij e.symm)]
  · rw [List.getElem?_eq_none (by simp [rowF]; omega), List.getElem?_eq_none (by simp [rowF]; omega)]
theorem Own32.cell {w : World} {base g : Nat} {f : Nat → Nat} (h : Own32 w base g f) (j : Nat) (hj : j < 32) : w.cell? ⟨g, j, none⟩ = some (.int .i64 (f j : Int)) := by
  have := World.ownsRow.cellAt h j (by omega)
  rw [this, rowF_at f j hj]
theorem Own32.frozen {w : World} {base g : Nat} {f : Nat → Nat} (h : Own32 w base g f) (j : Nat) : w.frozen? ⟨g, j, none⟩ = false := World.ownsRow.frozenAt h j
theorem Own32.lt {w : World} {base g : Nat} {f : Nat → Nat} (h : Own32 w base g f) : base ≤ g ∧ g < w.heap.size := World.ownsRow.lt h g rfl
theorem Own32.set {w : World} {base g : Nat} {f : Nat → Nat} (h : Own32 w base g f) (j x : Nat) (hj : j < 32) (z : Int) (hz : z = (x : Int)) :
    Own32 (w.setCell ⟨g, j, none⟩ (.int .i64 z)) base g (fun i => if i = j then x else f i) := by
  subst hz
  have := (World.ownsRow.stored h j (.int .i64 (x : Int))).1
  rw [rowF_set f j x hj] at this
  exact this
theorem Own32.on {w w' : World} {base g : Nat} {f : Nat → Nat} (h : Own32 w base g f) (hb : Below w.heap.size w w') : Own32 w' base g f :=
  World.ownsRow.kept h (row := none) ⟨hb.os, hb.tape, hb.output, hb.size, fun i hi _ => hb.block i hi⟩ (.inr (by simp [Value.ownBlock]))
theorem Own32.other {w : World} {base g g' : Nat} {f : Nat → Nat} (h : Own32 w base g f) (hne : g' ≠ g) (o : Nat) (v : Value) : Own32 (w.setCell ⟨g', o, none⟩ v) base g f :=
  World.ownsRow.kept h (row := some g') ⟨rfl, rfl, rfl, by simp [World.setCell], fun k _ hk => Below.heap_setCell _ _ _ _ (fun e => hk (by simp [e]))⟩ (.inr (by simp [Value.ownBlock]; exact fun e => hne e.symm))
theorem Own32.drew {w : World} {base g : Nat} {f : Nat → Nat} (h : Own32 w base g f) : Own32 w.drew base g f := h
theorem Own32.drewN {w : World} {base g : Nat} {f : Nat → Nat} (h : Own32 w base g f) (n : Nat) : Own32 (w.drewN n) base g f := h

theorem mk32 (W : World) : (Instr.makeSlice 86 (.int .i64 32) (.int .i64 32)).run Try.prog W = .ok (.slice (some ⟨W.heap.size, 0, none⟩) 32 32)
    (W.alloc (.cells (Array.replicate 32 (.int .i64 0)) 3)) := by kernel_rfl
theorem own32_new (W : World) : Own32 (W.alloc (.cells (Array.replicate 32 (.int .i64 0)) 3)) W.heap.size W.heap.size (fun _ => 0) :=
  ⟨by simp [rowF], .inr ⟨W.heap.size, 32, _, rfl, Nat.le_refl _, heap_alloc_new W _, Nat.le_refl _, by simp only [maxLen]; omega, by simp, by simp [rowF]; rfl⟩⟩

set_option maxHeartbeats 400000 in
theorem ref_bits (n : Nat) (w : World) (hn : n < 4294967296) :
    Calls Try.prog 81 #[.int .i64 n] w fun e w' => ∃ g, e = .returned (.slice (some ⟨g, 0, none⟩) 32 32) ∧ Own32 w' w.heap.size g (bit n) ∧ Below w.heap.size w w' := by
  have hmk := mk32
  have hnew := Lib.hid (own32_new w)
  have hHN := Lib.hid (show ∀ k, n / 2 ^ k % 2 = bit n k from fun k => (bit_eq n k).symm)
  go_enter Try.func81, Try.ntmps81
  go_wp2
  go_loopw [0, 4] (fun m i wr => ∃ k N : Nat, i = .int .i64 k ∧ k ≤ 32 ∧ m = .int .i64 N ∧ N = n / 2 ^ k ∧ N < 4294967296 ∧ Own32 wr w.heap.size w.heap.size (fun i => if i < k then bit n i else 0) ∧ Below w.heap.size w wr) (fun _ i _ => 32 - (intOf i).toNat)
  case atStart => exact ⟨0, n, rfl, by omega, rfl, by simp, hn, hnew.out.congr (fun i _ => by simp), alloc_below w _⟩
  case round =>
    obtain ⟨k, N, rfl, hk, rfl, hN, hNb, ho, hb⟩ := hrel
    have HO := Lib.hid ho
    have HB := Lib.hid hb
    have HN := Lib.hid hN
    clear ho hb hN
    by_cases hlt : k < 32
    · have ck := HO.out.cell k hlt
      have fk := HO.out.frozen k
      generalize (if k < k then bit n k else 0) = y at ck
      have hst := Lib.hid (HO.out.set k (N % 2) hlt ((N : Int) % 2) (by omega))
      have hbn := Lib.hid (show N % 2 = bit n k from by rw [HN.out]; exact hHN.out k)
      have hnn := Lib.hid (show N / 2 = n / 2 ^ (k + 1) from by rw [HN.out, Nat.pow_succ, Nat.div_div_eq_div_mul])
      go_wp2
      go_roundw
      case rel => exact ⟨k + 1, N / 2, by go_num, by omega, by go_num, hnn.out, by omega, hst.out.congr (fun i _ => by
        by_cases h1 : i = k
        · subst h1; simp [hbn.out]
        · by_cases h2 : i < k
          · simp [h1, h2, Nat.lt_succ_of_lt h2]
          · simp [h1, h2, show ¬ i < k + 1 from by omega]), HB.out.setCell (Nat.le_refl _) _⟩
      case measure => simp [intOf]; omega
    · have hk2 : k = 32 := by omega
      subst hk2
      go_wp2
      go_ret
      exact ⟨w.heap.size, rfl, HO.out.congr (fun i hi => by simp [hi]), HB.out⟩
end Go.Proofs.Ytefjdmlmmoeoaaa
/- Layer 3: the document's check sum. -/
namespace Go.Proofs.Ytefjdmlmmoeoaaa
open Go.RowKit
set_option linter.unusedVariables false

theorem crcBits_succ (k : Nat) : ∀ r, crcBits (k + 1) r = crcBit (crcBits k r) := by
  induction k with
  | zero => intro r; rfl
  | succ k ih => intro r; rw [crcBits, ih, ← crcBits]
theorem crcGo_snoc (r : Nat) (l : List UInt8) (k : Nat) (h : k < l.length) : crcGo r (l.take (k + 1)) = crcByte (crcGo r (l.take k)) l[k] := by
  rw [List.take_succ_eq_append_getElem h, crcGo_append]; rfl
theorem bit_ones (i : Nat) (h : i < 32) : bit 4294967295 i = 1 := by
  unfold bit
  rw [show (4294967295 : Nat) = 2 ^ 32 - 1 from rfl, Nat.testBit_two_pow_sub_one]
  simp [h]
theorem not_bits (r k : Nat) (h : k < 32) : (r ^^^ 4294967295) % 2 ^ (k + 1) = (r ^^^ 4294967295) % 2 ^ k + 2 ^ k * (1 - bit r k) := by
  have h1 : bit (r ^^^ 4294967295) k = 1 - bit r k := by
    rw [bit_xor, bit_ones k h]
    have := bit_le r k
    omega
  rw [← h1, bit_eq, Nat.mod_pow_succ]

theorem mod_cast3 {a b : Nat} (ha : a ≤ 1) (hb : b ≤ 1) : (wrap64 ((a : Int) + (b : Int))).tmod 2 = (((a + b) % 2 : Nat) : Int) := by
  rw [show wrap64 ((a : Int) + (b : Int)) = (a : Int) + (b : Int) from by unfold wrap64; omega, Int.tmod_eq_emod_of_nonneg (by omega)]
  omega
theorem mul_bit {a b : Nat} (ha : a ≤ 1) (hb : b ≤ 1) : a * b ≤ 1 := by
  have := Nat.mul_le_mul ha hb; simpa using this
theorem mul_wrap {a b : Nat} (ha : a ≤ 1) (hb : b ≤ 1) : wrap64 ((a : Int) * (b : Int)) = ((a * b : Nat) : Int) := by
  have := mul_bit ha hb
  rw [← Int.natCast_mul]
  unfold wrap64; omega

set_option maxHeartbeats 4000000 in
set_option maxRecDepth 100000 in
theorem ref_sum (v : Value) (l : List UInt8) (w : World) (h : RdB w w.heap.size v l) (hl : l.length ≤ 1000000000) :
    Calls Try.prog 62 #[v] w fun e w' => e = .returned (.int .i64 (crcN l)) ∧ Below w.heap.size w w' := by
  have hmk := mk32
  have hnew := Lib.hid (own32_new w)
  have H := Lib.hid h
  obtain ⟨A, c, rfl, hlc, hc, -⟩ := h
  go_enter Try.func62, Try.ntmps62
  go_wp2_with fail
  go_loopw [4] (fun i wr => ∃ k : Nat, i = .int .i64 k ∧ k ≤ 32 ∧ Own32 wr w.heap.size w.heap.size (fun i => if i < k then 1 else 0) ∧ Below w.heap.size w wr) (fun i _ => 32 - (intOf i).toNat)
  case atStart => exact ⟨0, rfl, by omega, hnew.out.congr (fun i _ => by simp), alloc_below w _⟩
  case round =>
    obtain ⟨k, rfl, hk, ho, hb⟩ := hrel
    have HO := Lib.hid ho
    have HB := Lib.hid hb
    clear ho hb hmk
    by_cases hlt : k < 32
    · have ck := HO.out.cell k hlt
      have fk := HO.out.frozen k
      generalize (if k < k then 1 else 0) = y at ck
      have hst := Lib.hid (HO.out.set k 1 hlt 1 rfl)
      go_wp2
      go_roundw
      case rel => exact ⟨k + 1, by go_num, by omega, hst.out.congr (fun i _ => by
        by_cases h1 : i = k
        · subst h1; simp
        · by_cases h2 : i < k
          · simp [h1, h2, Nat.lt_succ_of_lt h2]
          · simp [h1, h2, show ¬ i < k + 1 from by omega]), HB.out.setCell (Nat.le_refl _) _⟩
      case measure => simp [intOf]; omega
    · obtain ⟨wa, rfl⟩ : ∃ wa : World, wa = wr := ⟨_, rfl⟩
      have hk2 : k = 32 := by omega
      subst hk2
      have R0 := Lib.hid (show Own32 wa w.heap.size w.heap.size (bit 4294967295) from HO.out.congr (fun i hi => by simp [hi, bit_ones i hi]))
      clear HO hnew
      go_wp2_with fail
      refine (ref_bits 3988292384 wa (by omega)).mono ?_
      rintro e w1 ⟨gp, rfl, hp, hb1⟩
      have P0 := Lib.hid hp
      have hgp := hp.lt
      have hw1 := HB.out.size
      have hwr := R0.out.lt
      have R0 := Lib.hid (R0.out.on hb1)
      have HB := Lib.hid (HB.out.trans (hb1.mono HB.out.size))
      clear hp hb1
      go_wp2_with fail
      go_loopw [6] (fun i wt => ∃ k : Nat, i = .int .i64 k ∧ k ≤ l.length ∧ Own32 wt w.heap.size w.heap.size (bit (crcGo 4294967295 (l.take k))) ∧ Own32 wt wa.heap.size gp (bit 3988292384) ∧ Below w.heap.size w wt) (fun i _ => l.length - (intOf i).toNat)
      case atStart => exact ⟨0, rfl, by omega, R0.out, P0.out, HB.out⟩
      case round =>
        obtain ⟨k, rfl, hk, ho, hp, hb⟩ := hrel
        obtain ⟨wb, rfl⟩ : ∃ wb : World, wb = wr := ⟨_, rfl⟩
        have R := Lib.hid ho
        have P := Lib.hid hp
        have G := Lib.hid hb
        clear ho hp hb R0 P0 HB
        by_cases hkl : k < l.length
        · obtain ⟨A', c', e1, -, -, hcell⟩ := H.out.below G.out
          obtain ⟨b, o, rfl, hb, hcell2⟩ := hcell (by omega)
          cases e1
          have c1 := hcell2 k l[k] (List.getElem?_eq_getElem hkl)
          have hsn := Lib.hid (crcGo_snoc 4294967295 l k hkl)
          have hrl := crcGo_lt (l.take k) (r := 4294967295) (by omega)
          generalize crcGo 4294967295 (l.take k) = r at *
          generalize l[k] = x at *
          have hx := x.toNat_lt
          have HRL := Lib.hid hrl
          clear hcell hcell2 hrl
          go_wp2_with fail
          refine (ref_bits x.toNat _ (by omega)).mono ?_
          rintro e w2 ⟨gc, rfl, hcc, hb2⟩
          have hgc := hcc.lt
          have hwt := R.out.lt
          have hwp := P.out.lt
          have C := Lib.hid hcc
          have R := Lib.hid (R.out.on hb2)
          have P := Lib.hid (P.out.on hb2)
          have G := Lib.hid (G.out.trans (hb2.mono G.out.size))
          clear hcc hb2 c1
          go_wp2_with fail
          go_loopw [8] (fun i ws => ∃ j : Nat, i = .int .i64 j ∧ j ≤ 32 ∧ Own32 ws w.heap.size w.heap.size (fun i => if i < j then (bit r i + bit x.toNat i) % 2 else bit r i) ∧ Own32 ws wa.heap.size gp (bit 3988292384) ∧ Own32 ws wb.heap.size gc (bit x.toNat) ∧ Below w.heap.size w ws) (fun i _ => 32 - (intOf i).toNat)
          case atStart => exact ⟨0, rfl, by omega, R.out.congr (fun i _ => by simp), P.out, C.out, G.out⟩
          case round =>
            obtain ⟨j, rfl, hj, ho, hp, hcc, hb⟩ := hrel
            have R := Lib.hid ho
            have P := Lib.hid hp
            have C := Lib.hid hcc
            have G := Lib.hid hb
            clear ho hp hcc hb
            by_cases hj32 : j < 32
            · have ck := R.out.cell j hj32
              have fk := R.out.frozen j
              have cc := C.out.cell j hj32
              rw [if_neg (show ¬ j < j from by omega)] at ck
              have hb1 := bit_le r j
              have hb2 := bit_le x.toNat j
              generalize hy1 : bit r j = y1 at *
              generalize hy2 : bit x.toNat j = y2 at *
              have Y1 := Lib.hid hy1
              have Y2 := Lib.hid hy2
              clear hy1 hy2
              have hst := Lib.hid (R.out.set j ((y1 + y2) % 2) hj32 (((y1 : Int) + (y2 : Int)) % 2) (by omega))
              go_wp2_with fail
              go_still_tail 13, (by kernel_rfl)
              go_wp2_with fail
              go_roundw
              case rel => exact ⟨j + 1, by go_num, by omega, (hst.out.congr (fun i _ => by
                by_cases h1 : i = j
                · subst h1; simp [Y1.out, Y2.out]
                · by_cases h2 : i < j
                  · simp [h1, h2, Nat.lt_succ_of_lt h2]
                  · simp [h1, h2, show ¬ i < j + 1 from by omega])).drew, (P.out.other (by omega) _ _).drew, (C.out.other (by omega) _ _).drew, (G.out.setCell (Nat.le_refl _) _).drew⟩
              case measure => simp [intOf]; omega
            · have hj2 : j = 32 := by omega
              subst hj2
              have R := Lib.hid (show Own32 wr w.heap.size w.heap.size (bit (r ^^^ x.toNat)) from R.out.congr (fun i hi => by rw [if_pos hi, bit_xor]))
              have hrx := byte_lt r x HRL.out
              have hby := Lib.hid (show crcByte r x = crcBits 8 (r ^^^ x.toNat) from rfl)
              generalize r ^^^ x.toNat = r1 at *
              have HRX := Lib.hid hrx
              clear hrx C
              go_wp2_with fail
              go_loopw [9] (fun i ws => ∃ m : Nat, i = .int .i64 m ∧ m ≤ 8 ∧ Own32 ws w.heap.size w.heap.size (bit (crcBits m r1)) ∧ Own32 ws wa.heap.size gp (bit 3988292384) ∧ Below w.heap.size w ws) (fun i _ => 8 - (intOf i).toNat)
              case atStart => exact ⟨0, rfl, by omega, R.out, P.out, G.out⟩
              case round =>
                obtain ⟨m, rfl, hm, ho, hp, hb⟩ := hrel
                have R := Lib.hid ho
                have P := Lib.hid hp
                have G := Lib.hid hb
                clear ho hp hb
                by_cases hm8 : m < 8
                · have hsuc := Lib.hid (crcBits_succ m r1)
                  have hr2 := crcBits_lt m HRX.out
                  generalize crcBits m r1 = r2 at *
                  have HR2 := Lib.hid hr2
                  clear hr2
                  have c0 := R.out.cell 0 (by omega)
                  have hb0 := bit_le r2 0
                  obtain ⟨y0, hy0⟩ : ∃ y, y = bit r2 0 := ⟨_, rfl⟩
                  rw [← hy0] at c0 hb0
                  have Y0 := Lib.hid hy0
                  clear hy0
                  go_wp2_with fail
                  go_loopw [11] (fun i ws => ∃ j : Nat, i = .int .i64 j ∧ j ≤ 31 ∧ Own32 ws w.heap.size w.heap.size (fun i => if i < j then (bit r2 (i + 1) + y0 * bit 3988292384 i) % 2 else bit r2 i) ∧ Own32 ws wa.heap.size gp (bit 3988292384) ∧ Below w.heap.size w ws) (fun i _ => 31 - (intOf i).toNat)
                  case atStart => exact ⟨0, rfl, by omega, R.out.congr (fun i _ => by simp), P.out, G.out⟩
                  case round =>
                    obtain ⟨j, rfl, hj, ho, hp, hb⟩ := hrel
                    have R := Lib.hid ho
                    have P := Lib.hid hp
                    have G := Lib.hid hb
                    clear ho hp hb
                    by_cases hj31 : j < 31
                    · have ck0 := R.out.cell j (by omega)
                      have fk := R.out.frozen j
                      have ck := R.out.cell (j + 1) (by omega)
                      have cp := P.out.cell j (by omega)
                      rw [if_neg (show ¬ j + 1 < j from by omega)] at ck
                      rw [if_neg (show ¬ j < j from by omega)] at ck0
                      have hb1 := bit_le r2 (j + 1)
                      have hb2 := bit_le 3988292384 j
                      generalize bit r2 j = y9 at ck0
                      obtain ⟨y1, hy1⟩ : ∃ y, y = bit r2 (j + 1) := ⟨_, rfl⟩
                      obtain ⟨y2, hy2⟩ : ∃ y, y = bit 3988292384 j := ⟨_, rfl⟩
                      rw [← hy1] at ck hb1
                      rw [← hy2] at cp hb2
                      have Y1 := Lib.hid hy1
                      have Y2 := Lib.hid hy2
                      clear hy1 hy2
                      obtain ⟨q, hq⟩ : ∃ q, q = y0 * y2 := ⟨_, rfl⟩
                      have hq1 : q ≤ 1 := by rw [hq]; exact mul_bit hb0 hb2
                      have hmul : wrap64 ((y0 : Int) * (y2 : Int)) = (q : Int) := by rw [hq]; exact mul_wrap hb0 hb2
                      have hst := Lib.hid (R.out.set j ((y1 + q) % 2) (Nat.lt_succ_of_lt hj31) ((wrap64 ((y1 : Int) + (q : Int))).tmod 2) (mod_cast3 hb1 hq1))
                      have hi1 : (j : Int) + 1 < 32 := by omega
                      have hi0 : (0 : Int) ≤ (j : Int) + 1 := by omega
                      have hi2 : (j : Int) < 32 := by omega
                      have HQ := Lib.hid hq
                      clear hq
                      go_wp2_with fail
                      go_region
                      go_wp2_with fail
                      go_roundw
                      case rel => exact ⟨j + 1, by go_num, by omega, (hst.out.congr (fun i _ => by
                        by_cases h1 : i = j
                        · subst h1; simp [Y1.out, Y2.out, HQ.out]
                        · by_cases h2 : i < j
                          · simp [h1, h2, Nat.lt_succ_of_lt h2]
                          · simp [h1, h2, show ¬ i < j + 1 from by omega])).drew, (P.out.other (by omega) _ _).drew, (G.out.setCell (Nat.le_refl _) _).drew⟩
                      case measure => simp [intOf]; omega
                    · have hj2 : j = 31 := by omega
                      subst hj2
                      have c31 := R.out.cell 31 (by omega)
                      have f31 := R.out.frozen 31
                      have cp := P.out.cell 31 (by omega)
                      rw [if_neg (show ¬ 31 < 31 from by omega)] at c31
                      generalize bit r2 31 = y9 at c31
                      have hb2 := bit_le 3988292384 31
                      obtain ⟨y2, hy2⟩ : ∃ y, y = bit 3988292384 31 := ⟨_, rfl⟩
                      rw [← hy2] at cp hb2
                      have Y2 := Lib.hid hy2
                      obtain ⟨q, hq⟩ : ∃ q, q = y0 * y2 := ⟨_, rfl⟩
                      have hq1 : q ≤ 1 := by rw [hq]; exact mul_bit hb0 hb2
                      have hmul : wrap64 ((y0 : Int) * (y2 : Int)) = (q : Int) := by rw [hq]; exact mul_wrap hb0 hb2
                      have hst := Lib.hid (R.out.set 31 q (by omega) (q : Int) rfl)
                      have HQ := Lib.hid hq
                      clear hq hy2
                      go_wp2_with fail
                      go_roundw
                      case rel =>
                        refine ⟨m + 1, by go_num, by omega, ?_, P.out.other (by omega) _ _, G.out.setCell (Nat.le_refl _) _⟩
                        rw [hsuc.out]
                        refine hst.out.congr (fun i hi => ?_)
                        by_cases h1 : i = 31
                        · subst h1; rw [if_pos rfl, bit_crc_high r2 HR2.out, HQ.out, Y0.out, Y2.out]
                        · rw [if_neg h1, if_pos (by omega), bit_crc r2 i (by omega), Y0.out]
                      case measure => simp [intOf]; omega
                · have hm2 : m = 8 := by omega
                  subst hm2
                  have R := Lib.hid (show Own32 wr w.heap.size w.heap.size (bit (crcGo 4294967295 (l.take (k + 1)))) from by rw [hsn.out, hby.out]; exact R.out)
                  go_wp2_with fail
                  go_roundw
                  case rel => exact ⟨k + 1, by go_num, by omega, R.out, P.out, G.out⟩
                  case measure => simp [intOf]; omega
        · have hke := Lib.hid (show l.take k = l from List.take_of_length_le (by omega))
          have R := Lib.hid (show Own32 wb w.heap.size w.heap.size (bit (crcGo 4294967295 l)) from by have := R.out; rw [hke.out] at this; exact this)
          have hcn := Lib.hid (show crcN l = crcGo 4294967295 l ^^^ 4294967295 from rfl)
          have hrl := crcGo_lt l (r := 4294967295) (by omega)
          generalize crcGo 4294967295 l = r at *
          have HRL := Lib.hid hrl
          clear hrl P
          go_wp2_with fail
          go_loopw [12, 13, 14] (fun n d i ws => ∃ m N : Nat, i = .int .i64 m ∧ m ≤ 32 ∧ n = .int .i64 N ∧ N = (r ^^^ 4294967295) % 2 ^ m ∧ d = .int .i64 ((2 ^ m : Nat) : Int) ∧ N < 4294967296 ∧ Own32 ws w.heap.size w.heap.size (bit r) ∧ Below w.heap.size w ws) (fun _ _ i _ => 32 - (intOf i).toNat)
          case atStart => exact ⟨0, 0, rfl, by omega, rfl, by simp [Nat.mod_one], rfl, by omega, R.out, G.out⟩
          case round =>
            obtain ⟨m, N, rfl, hm, rfl, hN, rfl, hNb, ho, hb⟩ := hrel
            have R := Lib.hid ho
            have G := Lib.hid hb
            have HN := Lib.hid hN
            clear ho hb hN
            by_cases hm32 : m < 32
            · have cm := R.out.cell m hm32
              have hb1 := bit_le r m
              have hnb := Lib.hid (not_bits r m hm32)
              obtain ⟨y, hy⟩ : ∃ y, y = bit r m := ⟨_, rfl⟩
              rw [← hy] at cm hb1
              have Y := Lib.hid hy
              obtain ⟨d, hd⟩ : ∃ d, d = 2 ^ m := ⟨_, rfl⟩
              have hdb : d ≤ 2147483648 := by
                rw [hd]; have := Nat.pow_le_pow_right (show 0 < 2 from by omega) (show m ≤ 31 from by omega); simpa using this
              rw [← hd]
              have HD := Lib.hid hd
              obtain ⟨q, hq⟩ : ∃ q, q = d * (1 - y) := ⟨_, rfl⟩
              have hqd : q ≤ d := by rw [hq]; exact Nat.le_trans (Nat.mul_le_mul_left d (show 1 - y ≤ 1 from by omega)) (by omega)
              have hmul : wrap64 ((d : Int) * (1 - (y : Int))) = (q : Int) := by
                rw [hq, show (1 : Int) - (y : Int) = ((1 - y : Nat) : Int) from by omega, ← Int.natCast_mul]
                unfold wrap64; rw [← hq]; omega
              have HQ := Lib.hid hq
              clear hd hq hy
              have hdd := Lib.hid (show 2 * d = 2 ^ (m + 1) from by rw [HD.out, Nat.pow_succ]; omega)
              go_wp2_with fail
              go_roundw
              case rel =>
                refine ⟨m + 1, N + q, by go_num, by omega, by go_num, ?_, ?_, ?_, R.out, G.out⟩
                · rw [hnb.out, HN.out, HQ.out, HD.out, Y.out]
                · rw [← hdd.out]; simp
                · have h1 : N + q = (r ^^^ 4294967295) % 2 ^ (m + 1) := by rw [hnb.out, HN.out, HQ.out, HD.out, Y.out]
                  rw [h1]
                  have h2 := Nat.mod_lt (r ^^^ 4294967295) (Nat.pow_pos (n := m + 1) (show 0 < 2 from by omega))
                  have h3 := Nat.pow_le_pow_right (show 0 < 2 from by omega) (show m + 1 ≤ 32 from by omega)
                  exact Nat.lt_of_lt_of_le h2 (by simpa using h3)
              case measure => simp [intOf]; omega
            · have hm2 : m = 32 := by omega
              subst hm2
              have hfin := Lib.hid (show N = crcN l from by
                rw [HN.out, hcn.out]; exact Nat.mod_eq_of_lt (xor_lt (k := 32) HRL.out (by decide)))
              go_wp2_with fail
              go_ret
              exact ⟨ret_int (by rw [hfin.out]), G.out⟩
end Go.Proofs.Ytefjdmlmmoeoaaa
/- Layer 3: four bytes of a number, and back; a frame, as the document's answer has it. -/
namespace Go.Proofs.Ytefjdmlmmoeoaaa
open Go.RowKit
set_option linter.unusedVariables false

/-- 4 bytes of a number, the lowest first. -/
def enc4 (n : Nat) : List UInt8 := [UInt8.ofNat (n % 256), UInt8.ofNat (n / 256 % 256), UInt8.ofNat (n / 65536 % 256), UInt8.ofNat (n / 16777216 % 256)]
def dec4 : List UInt8 → Nat
  | a :: b :: c :: d :: _ => a.toNat + 256 * b.toNat + 65536 * c.toNat + 16777216 * d.toNat
  | _ => 0
theorem enc4_length (n : Nat) : (enc4 n).length = 4 := rfl
theorem dec4_enc4 (n : Nat) (r : List UInt8) (h : n < 4294967296) : dec4 (enc4 n ++ r) = n := by
  simp only [enc4, List.cons_append, dec4, UInt8.toNat_ofNat']
  omega
theorem dec4_lt (l : List UInt8) : dec4 l < 4294967296 := by
  match l with
  | a :: b :: c :: d :: _ =>
    have := a.toNat_lt; have := b.toNat_lt; have := c.toNat_lt; have := d.toNat_lt
    simp only [dec4]; omega
  | [] | [_] | [_, _] | [_, _, _] => simp [dec4]
theorem four {l : List UInt8} (h : 4 ≤ l.length) : ∃ a b c d r, l = a :: b :: c :: d :: r := by
  match l, h with
  | a :: b :: c :: d :: r, _ => exact ⟨a, b, c, d, r, rfl⟩

theorem bv4 (n : Nat) : (#[Value.int .u8 ((n : Int) % 256), .int .u8 ((n : Int) / 256 % 256), .int .u8 ((n : Int) / 65536 % 256), .int .u8 ((n : Int) / 16777216 % 256)] : Array Value) = (bv (enc4 n)).toArray := by
  simp [bv, enc4]

set_option maxHeartbeats 400000 in
theorem ref_four (n : Nat) (w : World) (hn : n < 4611686018427387904) :
    Calls Try.prog 61 #[.int .i64 n] w fun e w' => ∃ v', e = .returned v' ∧ OwnB w' w.heap.size v' (enc4 n) ∧ Below w.heap.size w w' := by
  have hI : (n : Int) < 4611686018427387904 := by omega
  clear hn
  go_enter Try.func61, Try.ntmps61
  go_wp2
  go_ret
  exact ⟨_, rfl, own_new w _ _ 4 (bv4 n) rfl (by simp [enc4]), alloc_below w _⟩

end Go.Proofs.Ytefjdmlmmoeoaaa
/- Layer 3: frames, as the document's answer has them. -/
namespace Go.Proofs.Ytefjdmlmmoeoaaa
open Go.RowKit
set_option linter.unusedVariables false

/-- A frame's bytes. -/
def frm (l : List UInt8) : List UInt8 := enc4 l.length ++ enc4 (crcN l) ++ l
theorem frm_length (l : List UInt8) : (frm l).length = l.length + 8 := by simp [frm, enc4]
/-- The frame at the beginning: its bytes, how long it is, the error. -/
def fst1 (l : List UInt8) : List UInt8 × Nat × Int :=
  if l.length < 8 ∨ l.length < 8 + dec4 l then ([], 0, 3) else
    if crcN ((l.drop 8).take (dec4 l)) ≠ dec4 (l.drop 4) then ([], 8 + dec4 l, 4) else ((l.drop 8).take (dec4 l), 8 + dec4 l, 0)

theorem dec4_take (l : List UInt8) (h : 4 ≤ l.length) : dec4 (l.take 4) = dec4 l := by
  obtain ⟨a, b, c, d, r, rfl⟩ := four h
  rfl

set_option maxHeartbeats 400000 in
theorem ref_frame (v : Value) (l : List UInt8) (w : World) (h : RdB w w.heap.size v l) (hl : l.length ≤ 1000000000) :
    Calls Try.prog 36 #[v] w fun e w' => ∃ v', e = .returned v' ∧ OwnB w' w.heap.size v' (frm l) ∧ Below w.heap.size w w' := by
  have H := Lib.hid h
  have HW := Lib.hid h
  have hcr := crcN_lt l
  have HC := Lib.hid hcr
  obtain ⟨A, c, rfl, -⟩ := h
  clear hcr
  go_enter Try.func36, Try.ntmps36
  go_wp2_with fail
  refine (ref_four l.length _ (by omega)).mono ?_
  rintro e w1 ⟨v1, rfl, ho1, hb1⟩
  have O1 := Lib.hid ho1
  have H := Lib.hid (H.out.on hb1)
  have G := Lib.hid hb1
  clear ho1 hb1
  go_wp2_with fail
  refine (ref_sum _ l _ H.out hl).mono ?_
  rintro e w2 ⟨rfl, hb2⟩
  have O1 := Lib.hid (O1.out.on hb2)
  have H := Lib.hid (H.out.on hb2)
  have G := Lib.hid (G.out.trans (hb2.mono G.out.size))
  clear hb2
  generalize hn : crcN l = n at *
  have HN := Lib.hid hn
  clear hn
  go_wp2_with fail
  refine (ref_four n _ (by have := HC.out; omega)).mono ?_
  rintro e w3 ⟨v3, rfl, ho3, hb3⟩
  have O1 := Lib.hid (O1.out.on hb3)
  have H := Lib.hid (H.out.on hb3)
  have G := Lib.hid (G.out.trans (hb3.mono G.out.size))
  have R3 := Lib.hid ho3.rd
  clear ho3 hb3
  go_wp2_with (first
    | (at_builtin; refine wpl_app_bytes_b rfl (.tmp 7) (.tmp 10) rfl w.heap.size _ _ _ (enc4 l.length) (enc4 n) rfl rfl O1.out R3.out ?_ ?_ ?_; rotate_left 2; intro v4 w4 ho4 hb4)
    | (at_builtin; refine wpl_app_bytes_b rfl (.tmp 12) (.tmp 13) rfl w.heap.size _ _ _ (enc4 l.length ++ enc4 n) l rfl rfl ho4 (HW.out.below (G.out.trans hb4)) ?_ ?_ ?_; rotate_left 2; intro v5 w5 ho5 hb5))
  · go_ret
    exact ⟨v5, rfl, by unfold frm; rw [HN.out]; exact ho5, (G.out.trans hb4).trans hb5⟩
  · have := G.out.size; have := hb4.size; omega
  · simp [enc4]; omega
  · exact G.out.size
  · simp [enc4]

end Go.Proofs.Ytefjdmlmmoeoaaa
/- Layer 3: frames one behind the other, one alone, and the comparing of lists, as the document's answer has them. -/
namespace Go.Proofs.Ytefjdmlmmoeoaaa
open Go.RowKit
set_option linter.unusedVariables false

theorem fst1_ok (l : List UInt8) (h : (fst1 l).2.2 = 0) : 8 ≤ (fst1 l).2.1 ∧ (fst1 l).2.1 ≤ l.length ∧ (fst1 l).1 = (l.drop 8).take ((fst1 l).2.1 - 8) := by
  unfold fst1 at *
  split at h
  · simp at h
  · rename_i hn
    split at h
    · simp at h
    · rename_i hc
      rw [if_neg hn, if_neg hc]
      refine ⟨by simp, by simp; omega, by simp⟩
/-- The frames at the beginning, and how long they are. -/
def frs (l : List UInt8) : List (List UInt8) × Nat :=
  if h : (fst1 l).2.2 = 0 then ((fst1 l).1 :: (frs (l.drop (fst1 l).2.1)).1, (fst1 l).2.1 + (frs (l.drop (fst1 l).2.1)).2) else ([], 0)
termination_by l.length
decreasing_by
  all_goals
    have := fst1_ok l h
    rw [List.length_drop]; omega
theorem frs_ok (l : List UInt8) (h : (fst1 l).2.2 = 0) : frs l = ((fst1 l).1 :: (frs (l.drop (fst1 l).2.1)).1, (fst1 l).2.1 + (frs (l.drop (fst1 l).2.1)).2) := by rw [frs, dif_pos h]
theorem frs_end (l : List UInt8) (h : (fst1 l).2.2 ≠ 0) : frs l = ([], 0) := by rw [frs, dif_neg h]

end Go.Proofs.Ytefjdmlmmoeoaaa
