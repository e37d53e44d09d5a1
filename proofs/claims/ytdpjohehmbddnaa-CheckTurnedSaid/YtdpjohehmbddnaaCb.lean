/- Layer 3: the document's check sum. -/
import Derived.Test.YtdpjohehmbddnaaCa
import Derived.StillTailTactics
namespace Go.Proofs.Ytdpjohehmbddnaa
open Go.RowKit
set_option linter.unusedVariables false

theorem crcBits_succ (k : Nat) : ∀ r, crcBits (k + 1) r = crcBit (crcBits k r) := by
  induction k with
  | zero => intro r; rfl
  | succ k ih => intro r; rw [crcBits, ih, ← crcBits]
theorem crcGo_snoc (r : Nat) (l : List UInt8) (k : Nat) (h : k < l.length) : crcGo r (l.take (k + 1)) = crcByte (crcGo r (l.take k)) l[k] := by
  rw [List.take_succ_eq_append_getElem h, crcGo_append]; rfl
theorem bit_ones (i : Nat) (h : i < 32) : bit 4294967295 i = 1 := by
  unfold bit
  rw [show (4294967295 : Nat) = 2 ^ 32 - 1 from rfl, Nat.testBit_two_pow_sub_one]
  simp [h]
theorem not_bits (r k : Nat) (h : k < 32) : (r ^^^ 4294967295) % 2 ^ (k + 1) = (r ^^^ 4294967295) % 2 ^ k + 2 ^ k * (1 - bit r k) := by
  have h1 : bit (r ^^^ 4294967295) k = 1 - bit r k := by
    rw [bit_xor, bit_ones k h]
    have := bit_le r k
    omega
  rw [← h1, bit_eq, Nat.mod_pow_succ]

theorem mod_cast2 (a b : Nat) : ((a : Int) + (b : Int)) % 2 = (((a + b) % 2 : Nat) : Int) := by omega
theorem mod_cast3 {a b : Nat} (ha : a ≤ 1) (hb : b ≤ 1) : (wrap64 ((a : Int) + (b : Int))).tmod 2 = (((a + b) % 2 : Nat) : Int) := by
  rw [show wrap64 ((a : Int) + (b : Int)) = (a : Int) + (b : Int) from by unfold wrap64; omega, Int.tmod_eq_emod_of_nonneg (by omega)]
  omega
theorem mul_bit {a b : Nat} (ha : a ≤ 1) (hb : b ≤ 1) : a * b ≤ 1 := by
  have := Nat.mul_le_mul ha hb; simpa using this
theorem mul_wrap {a b : Nat} (ha : a ≤ 1) (hb : b ≤ 1) : wrap64 ((a : Int) * (b : Int)) = ((a * b : Nat) : Int) := by
  have := mul_bit ha hb
  rw [← Int.natCast_mul]
  unfold wrap64; omega

set_option maxHeartbeats 4000000 in
set_option maxRecDepth 100000 in
theorem ref_sum (v : Value) (l : List UInt8) (w : World) (h : RdB w w.heap.size v l) (hl : l.length ≤ 1000000000) :
    Calls Try.prog 12 #[v] w fun e w' => e = .returned (.int .i64 (crcN l)) ∧ Below w.heap.size w w' := by
  have hmk := mk32
  have hnew := Lib.hid (own32_new w)
  have H := Lib.hid h
  obtain ⟨A, c, rfl, hlc, hc, -⟩ := h
  go_enter Try.func12, Try.ntmps12
  go_wp2_with fail
  go_loopw [4] (fun i wr => ∃ k : Nat, i = .int .i64 k ∧ k ≤ 32 ∧ Own32 wr w.heap.size w.heap.size (fun i => if i < k then 1 else 0) ∧ Below w.heap.size w wr) (fun i _ => 32 - (intOf i).toNat)
  case atStart => exact ⟨0, rfl, by omega, hnew.out.congr (fun i _ => by simp), alloc_below w _⟩
  case round =>
    obtain ⟨k, rfl, hk, ho, hb⟩ := hrel
    have HO := Lib.hid ho
    have HB := Lib.hid hb
    clear ho hb hmk
    by_cases hlt : k < 32
    · have ck := HO.out.cell k hlt
      have fk := HO.out.frozen k
      generalize (if k < k then 1 else 0) = y at ck
      have hst := Lib.hid (HO.out.set k 1 hlt 1 rfl)
      go_wp2
      go_roundw
      case rel => exact ⟨k + 1, by go_num, by omega, hst.out.congr (fun i _ => by
        by_cases h1 : i = k
        · subst h1; simp
        · by_cases h2 : i < k
          · simp [h1, h2, Nat.lt_succ_of_lt h2]
          · simp [h1, h2, show ¬ i < k + 1 from by omega]), HB.out.setCell (Nat.le_refl _) _⟩
      case measure => simp [intOf]; omega
    · obtain ⟨wa, rfl⟩ : ∃ wa : World, wa = wr := ⟨_, rfl⟩
      have hk2 : k = 32 := by omega
      subst hk2
      have R0 := Lib.hid (show Own32 wa w.heap.size w.heap.size (bit 4294967295) from HO.out.congr (fun i hi => by simp [hi, bit_ones i hi]))
      clear HO hnew
      go_wp2_with fail
      refine (ref_bits 3988292384 wa (by omega)).mono ?_
      rintro e w1 ⟨gp, rfl, hp, hb1⟩
      have P0 := Lib.hid hp
      have hgp := hp.lt
      have hw1 := HB.out.size
      have hwr := R0.out.lt
      have R0 := Lib.hid (R0.out.on hb1)
      have HB := Lib.hid (HB.out.trans (hb1.mono HB.out.size))
      clear hp hb1
      go_wp2_with fail
      go_loopw [6] (fun i wt => ∃ k : Nat, i = .int .i64 k ∧ k ≤ l.length ∧ Own32 wt w.heap.size w.heap.size (bit (crcGo 4294967295 (l.take k))) ∧ Own32 wt wa.heap.size gp (bit 3988292384) ∧ Below w.heap.size w wt) (fun i _ => l.length - (intOf i).toNat)
      case atStart => exact ⟨0, rfl, by omega, R0.out, P0.out, HB.out⟩
      case round =>
        obtain ⟨k, rfl, hk, ho, hp, hb⟩ := hrel
        obtain ⟨wb, rfl⟩ : ∃ wb : World, wb = wr := ⟨_, rfl⟩
        have R := Lib.hid ho
        have P := Lib.hid hp
        have G := Lib.hid hb
        clear ho hp hb R0 P0 HB
        by_cases hkl : k < l.length
        · obtain ⟨A', c', e1, -, -, hcell⟩ := H.out.below G.out
          obtain ⟨b, o, rfl, hb, hcell2⟩ := hcell (by omega)
          cases e1
          have c1 := hcell2 k l[k] (List.getElem?_eq_getElem hkl)
          have hsn := Lib.hid (crcGo_snoc 4294967295 l k hkl)
          have hrl := crcGo_lt (l.take k) (r := 4294967295) (by omega)
          generalize crcGo 4294967295 (l.take k) = r at *
          generalize l[k] = x at *
          have hx := x.toNat_lt
          have HRL := Lib.hid hrl
          clear hcell hcell2 hrl
          go_wp2_with fail
          refine (ref_bits x.toNat _ (by omega)).mono ?_
          rintro e w2 ⟨gc, rfl, hcc, hb2⟩
          have hgc := hcc.lt
          have hwt := R.out.lt
          have hwp := P.out.lt
          have C := Lib.hid hcc
          have R := Lib.hid (R.out.on hb2)
          have P := Lib.hid (P.out.on hb2)
          have G := Lib.hid (G.out.trans (hb2.mono G.out.size))
          clear hcc hb2 c1
          go_wp2_with fail
          go_loopw [8] (fun i ws => ∃ j : Nat, i = .int .i64 j ∧ j ≤ 32 ∧ Own32 ws w.heap.size w.heap.size (fun i => if i < j then (bit r i + bit x.toNat i) % 2 else bit r i) ∧ Own32 ws wa.heap.size gp (bit 3988292384) ∧ Own32 ws wb.heap.size gc (bit x.toNat) ∧ Below w.heap.size w ws) (fun i _ => 32 - (intOf i).toNat)
          case atStart => exact ⟨0, rfl, by omega, R.out.congr (fun i _ => by simp), P.out, C.out, G.out⟩
          case round =>
            obtain ⟨j, rfl, hj, ho, hp, hcc, hb⟩ := hrel
            have R := Lib.hid ho
            have P := Lib.hid hp
            have C := Lib.hid hcc
            have G := Lib.hid hb
            clear ho hp hcc hb
            by_cases hj32 : j < 32
            · have ck := R.out.cell j hj32
              have fk := R.out.frozen j
              have cc := C.out.cell j hj32
              rw [if_neg (show ¬ j < j from by omega)] at ck
              have hb1 := bit_le r j
              have hb2 := bit_le x.toNat j
              generalize hy1 : bit r j = y1 at *
              generalize hy2 : bit x.toNat j = y2 at *
              have Y1 := Lib.hid hy1
              have Y2 := Lib.hid hy2
              clear hy1 hy2
              have hst := Lib.hid (R.out.set j ((y1 + y2) % 2) hj32 (((y1 : Int) + (y2 : Int)) % 2) (by omega))
              go_wp2_with fail
              go_still_tail 13, (by kernel_rfl)
              go_wp2_with fail
              go_roundw
              case rel => exact ⟨j + 1, by go_num, by omega, (hst.out.congr (fun i _ => by
                by_cases h1 : i = j
                · subst h1; simp [Y1.out, Y2.out]
                · by_cases h2 : i < j
                  · simp [h1, h2, Nat.lt_succ_of_lt h2]
                  · simp [h1, h2, show ¬ i < j + 1 from by omega])).drew, (P.out.other (by omega) _ _).drew, (C.out.other (by omega) _ _).drew, (G.out.setCell (Nat.le_refl _) _).drew⟩
              case measure => simp [intOf]; omega
            · have hj2 : j = 32 := by omega
              subst hj2
              have R := Lib.hid (show Own32 wr w.heap.size w.heap.size (bit (r ^^^ x.toNat)) from R.out.congr (fun i hi => by rw [if_pos hi, bit_xor]))
              have hrx := byte_lt r x HRL.out
              have hby := Lib.hid (show crcByte r x = crcBits 8 (r ^^^ x.toNat) from rfl)
              generalize r ^^^ x.toNat = r1 at *
              have HRX := Lib.hid hrx
              clear hrx C
              go_wp2_with fail
              go_loopw [9] (fun i ws => ∃ m : Nat, i = .int .i64 m ∧ m ≤ 8 ∧ Own32 ws w.heap.size w.heap.size (bit (crcBits m r1)) ∧ Own32 ws wa.heap.size gp (bit 3988292384) ∧ Below w.heap.size w ws) (fun i _ => 8 - (intOf i).toNat)
              case atStart => exact ⟨0, rfl, by omega, R.out, P.out, G.out⟩
              case round =>
                obtain ⟨m, rfl, hm, ho, hp, hb⟩ := hrel
                have R := Lib.hid ho
                have P := Lib.hid hp
                have G := Lib.hid hb
                clear ho hp hb
                by_cases hm8 : m < 8
                · have hsuc := Lib.hid (crcBits_succ m r1)
                  have hr2 := crcBits_lt m HRX.out
                  generalize crcBits m r1 = r2 at *
                  have HR2 := Lib.hid hr2
                  clear hr2
                  have c0 := R.out.cell 0 (by omega)
                  have hb0 := bit_le r2 0
                  obtain ⟨y0, hy0⟩ : ∃ y, y = bit r2 0 := ⟨_, rfl⟩
                  rw [← hy0] at c0 hb0
                  have Y0 := Lib.hid hy0
                  clear hy0
                  go_wp2_with fail
                  go_loopw [11] (fun i ws => ∃ j : Nat, i = .int .i64 j ∧ j ≤ 31 ∧ Own32 ws w.heap.size w.heap.size (fun i => if i < j then (bit r2 (i + 1) + y0 * bit 3988292384 i) % 2 else bit r2 i) ∧ Own32 ws wa.heap.size gp (bit 3988292384) ∧ Below w.heap.size w ws) (fun i _ => 31 - (intOf i).toNat)
                  case atStart => exact ⟨0, rfl, by omega, R.out.congr (fun i _ => by simp), P.out, G.out⟩
                  case round =>
                    obtain ⟨j, rfl, hj, ho, hp, hb⟩ := hrel
                    have R := Lib.hid ho
                    have P := Lib.hid hp
                    have G := Lib.hid hb
                    clear ho hp hb
                    by_cases hj31 : j < 31
                    · have ck0 := R.out.cell j (by omega)
                      have fk := R.out.frozen j
                      have ck := R.out.cell (j + 1) (by omega)
                      have cp := P.out.cell j (by omega)
                      rw [if_neg (show ¬ j + 1 < j from by omega)] at ck
                      rw [if_neg (show ¬ j < j from by omega)] at ck0
                      have hb1 := bit_le r2 (j + 1)
                      have hb2 := bit_le 3988292384 j
                      generalize bit r2 j = y9 at ck0
                      obtain ⟨y1, hy1⟩ : ∃ y, y = bit r2 (j + 1) := ⟨_, rfl⟩
                      obtain ⟨y2, hy2⟩ : ∃ y, y = bit 3988292384 j := ⟨_, rfl⟩
                      rw [← hy1] at ck hb1
                      rw [← hy2] at cp hb2
                      have Y1 := Lib.hid hy1
                      have Y2 := Lib.hid hy2
                      clear hy1 hy2
                      obtain ⟨q, hq⟩ : ∃ q, q = y0 * y2 := ⟨_, rfl⟩
                      have hq1 : q ≤ 1 := by rw [hq]; exact mul_bit hb0 hb2
                      have hmul : wrap64 ((y0 : Int) * (y2 : Int)) = (q : Int) := by rw [hq]; exact mul_wrap hb0 hb2
                      have hst := Lib.hid (R.out.set j ((y1 + q) % 2) (Nat.lt_succ_of_lt hj31) ((wrap64 ((y1 : Int) + (q : Int))).tmod 2) (mod_cast3 hb1 hq1))
                      have hi1 : (j : Int) + 1 < 32 := by omega
                      have hi0 : (0 : Int) ≤ (j : Int) + 1 := by omega
                      have hi2 : (j : Int) < 32 := by omega
                      have HQ := Lib.hid hq
                      clear hq
                      go_wp2_with fail
                      go_region
                      go_wp2_with fail
                      go_roundw
                      case rel => exact ⟨j + 1, by go_num, by omega, (hst.out.congr (fun i _ => by
                        by_cases h1 : i = j
                        · subst h1; simp [Y1.out, Y2.out, HQ.out]
                        · by_cases h2 : i < j
                          · simp [h1, h2, Nat.lt_succ_of_lt h2]
                          · simp [h1, h2, show ¬ i < j + 1 from by omega])).drew, (P.out.other (by omega) _ _).drew, (G.out.setCell (Nat.le_refl _) _).drew⟩
                      case measure => simp [intOf]; omega
                    · have hj2 : j = 31 := by omega
                      subst hj2
                      have c31 := R.out.cell 31 (by omega)
                      have f31 := R.out.frozen 31
                      have cp := P.out.cell 31 (by omega)
                      rw [if_neg (show ¬ 31 < 31 from by omega)] at c31
                      generalize bit r2 31 = y9 at c31
                      have hb2 := bit_le 3988292384 31
                      obtain ⟨y2, hy2⟩ : ∃ y, y = bit 3988292384 31 := ⟨_, rfl⟩
                      rw [← hy2] at cp hb2
                      have Y2 := Lib.hid hy2
                      obtain ⟨q, hq⟩ : ∃ q, q = y0 * y2 := ⟨_, rfl⟩
                      have hq1 : q ≤ 1 := by rw [hq]; exact mul_bit hb0 hb2
                      have hmul : wrap64 ((y0 : Int) * (y2 : Int)) = (q : Int) := by rw [hq]; exact mul_wrap hb0 hb2
                      have hst := Lib.hid (R.out.set 31 q (by omega) (q : Int) rfl)
                      have HQ := Lib.hid hq
                      clear hq hy2
                      go_wp2_with fail
                      go_roundw
                      case rel =>
                        refine ⟨m + 1, by go_num, by omega, ?_, P.out.other (by omega) _ _, G.out.setCell (Nat.le_refl _) _⟩
                        rw [hsuc.out]
                        refine hst.out.congr (fun i hi => ?_)
                        by_cases h1 : i = 31
                        · subst h1; rw [if_pos rfl, bit_crc_high r2 HR2.out, HQ.out, Y0.out, Y2.out]
                        · rw [if_neg h1, if_pos (by omega), bit_crc r2 i (by omega), Y0.out]
                      case measure => simp [intOf]; omega
                · have hm2 : m = 8 := by omega
                  subst hm2
                  have R := Lib.hid (show Own32 wr w.heap.size w.heap.size (bit (crcGo 4294967295 (l.take (k + 1)))) from by rw [hsn.out, hby.out]; exact R.out)
                  go_wp2_with fail
                  go_roundw
                  case rel => exact ⟨k + 1, by go_num, by omega, R.out, P.out, G.out⟩
                  case measure => simp [intOf]; omega
        · have hke := Lib.hid (show l.take k = l from List.take_of_length_le (by omega))
          have R := Lib.hid (show Own32 wb w.heap.size w.heap.size (bit (crcGo 4294967295 l)) from by have := R.out; rw [hke.out] at this; exact this)
          have hcn := Lib.hid (show crcN l = crcGo 4294967295 l ^^^ 4294967295 from rfl)
          have hrl := crcGo_lt l (r := 4294967295) (by omega)
          generalize crcGo 4294967295 l = r at *
          have HRL := Lib.hid hrl
          clear hrl P
          go_wp2_with fail
          go_loopw [12, 13, 14] (fun n d i ws => ∃ m N : Nat, i = .int .i64 m ∧ m ≤ 32 ∧ n = .int .i64 N ∧ N = (r ^^^ 4294967295) % 2 ^ m ∧ d = .int .i64 ((2 ^ m : Nat) : Int) ∧ N < 4294967296 ∧ Own32 ws w.heap.size w.heap.size (bit r) ∧ Below w.heap.size w ws) (fun _ _ i _ => 32 - (intOf i).toNat)
          case atStart => exact ⟨0, 0, rfl, by omega, rfl, by simp [Nat.mod_one], rfl, by omega, R.out, G.out⟩
          case round =>
            obtain ⟨m, N, rfl, hm, rfl, hN, rfl, hNb, ho, hb⟩ := hrel
            have R := Lib.hid ho
            have G := Lib.hid hb
            have HN := Lib.hid hN
            clear ho hb hN
            by_cases hm32 : m < 32
            · have cm := R.out.cell m hm32
              have hb1 := bit_le r m
              have hnb := Lib.hid (not_bits r m hm32)
              obtain ⟨y, hy⟩ : ∃ y, y = bit r m := ⟨_, rfl⟩
              rw [← hy] at cm hb1
              have Y := Lib.hid hy
              obtain ⟨d, hd⟩ : ∃ d, d = 2 ^ m := ⟨_, rfl⟩
              have hdb : d ≤ 2147483648 := by
                rw [hd]; have := Nat.pow_le_pow_right (show 0 < 2 from by omega) (show m ≤ 31 from by omega); simpa using this
              rw [← hd]
              have HD := Lib.hid hd
              obtain ⟨q, hq⟩ : ∃ q, q = d * (1 - y) := ⟨_, rfl⟩
              have hqd : q ≤ d := by rw [hq]; exact Nat.le_trans (Nat.mul_le_mul_left d (show 1 - y ≤ 1 from by omega)) (by omega)
              have hmul : wrap64 ((d : Int) * (1 - (y : Int))) = (q : Int) := by
                rw [hq, show (1 : Int) - (y : Int) = ((1 - y : Nat) : Int) from by omega, ← Int.natCast_mul]
                unfold wrap64; rw [← hq]; omega
              have HQ := Lib.hid hq
              clear hd hq hy
              have hdd := Lib.hid (show 2 * d = 2 ^ (m + 1) from by rw [HD.out, Nat.pow_succ]; omega)
              go_wp2_with fail
              go_roundw
              case rel =>
                refine ⟨m + 1, N + q, by go_num, by omega, by go_num, ?_, ?_, ?_, R.out, G.out⟩
                · rw [hnb.out, HN.out, HQ.out, HD.out, Y.out]
                · rw [← hdd.out]; simp
                · have h1 : N + q = (r ^^^ 4294967295) % 2 ^ (m + 1) := by rw [hnb.out, HN.out, HQ.out, HD.out, Y.out]
                  rw [h1]
                  have h2 := Nat.mod_lt (r ^^^ 4294967295) (Nat.pow_pos (n := m + 1) (show 0 < 2 from by omega))
                  have h3 := Nat.pow_le_pow_right (show 0 < 2 from by omega) (show m + 1 ≤ 32 from by omega)
                  exact Nat.lt_of_lt_of_le h2 (by simpa using h3)
              case measure => simp [intOf]; omega
            · have hm2 : m = 32 := by omega
              subst hm2
              have hfin := Lib.hid (show N = crcN l from by
                rw [HN.out, hcn.out]; exact Nat.mod_eq_of_lt (xor_lt (k := 32) HRL.out (by decide)))
              go_wp2_with fail
              go_ret
              exact ⟨ret_int (by rw [hfin.out]), G.out⟩
end Go.Proofs.Ytdpjohehmbddnaa
