/- Layer 3: one byte into the register; the check sum of the program. -/
import Derived.Test.YtdpjohehmbddnaaCm
import Derived.Test.YtdpjohehmbddnaaBstr
namespace Go.Proofs.Ytdpjohehmbddnaa
open Go.RowKit
set_option linter.unusedVariables false

theorem bits_succ' (k : Nat) : ∀ r, crcBits (k + 1) r = crcBit (crcBits k r) := by
  induction k with
  | zero => intro r; rfl
  | succ k ih => intro r; rw [crcBits, ih, ← crcBits]
theorem go_snoc (r : Nat) (l : List UInt8) (k : Nat) (h : k < l.length) : crcGo r (l.take (k + 1)) = crcByte (crcGo r (l.take k)) l[k] := by
  rw [List.take_succ_eq_append_getElem h, crcGo_append]; rfl

theorem bit_step (y : Nat) (h : y < 4294967296) : bits BinOp.xor IntKind.u32 ((y : Int) / 2) (bits BinOp.and IntKind.u32 (y : Int) 1 * 3988292384 % 4294967296) = ((crcBit y : Nat) : Int) := by
  have h1 := u32_and_nat y 1 h (by omega)
  rw [show ((1 : Nat) : Int) = 1 from rfl, Nat.and_one_is_mod] at h1
  rw [h1]
  have h2 : ((y : Int) / 2) = ((y / 2 : Nat) : Int) := by omega
  unfold crcBit
  by_cases ho : y % 2 = 1
  · rw [if_pos ho, ho, h2]
    exact u32_xor_nat (y / 2) 3988292384 (by omega) (by omega)
  · have h0 : y % 2 = 0 := by omega
    rw [if_neg ho, h0, h2]
    have := u32_xor_nat (y / 2) 0 (by omega) (by omega)
    simpa using this

set_option maxHeartbeats 400000 in
theorem take_byte (r : Nat) (c : UInt8) (w : World) (hr : r < 4294967296) :
    Calls Try.prog 21 #[.int .u32 r, .int .u8 c.toNat] w fun e w' => e = .returned (.int .u32 (crcByte r c)) ∧ w = w' := by
  have hc := c.toNat_lt
  have h0 := Lib.hid (u32_xor_nat r c.toNat hr (by omega))
  go_enter Try.func21, Try.ntmps21
  go_wp2
  go_loopw [0, 10] (fun x i wr => ∃ k : Nat, i = .int .i64 k ∧ k ≤ 8 ∧ x = .int .u32 (crcBits k (r ^^^ c.toNat) : Nat) ∧ wr = w) (fun _ i _ => 8 - (intOf i).toNat)
  case atStart => exact ⟨0, rfl, by omega, by rw [h0.out]; rfl, rfl⟩
  case round =>
    obtain ⟨k, rfl, hk, rfl, rfl⟩ := hrel
    have h1 := crcBits_lt k (byte_lt r c hr)
    have hs := Lib.hid (bits_succ' k (r ^^^ c.toNat))
    have hb := Lib.hid (bit_step _ h1)
    have hf := Lib.hid (show crcByte r c = crcBits 8 (r ^^^ c.toNat) from rfl)
    generalize hz : crcBits k (r ^^^ c.toNat) = y at *
    have HZ := Lib.hid hz
    clear hz
    by_cases hlt : k < 8
    · go_wp2
      go_roundw
      case rel => exact ⟨k + 1, by go_num, by omega, by rw [hb.out, hs.out], trivial⟩
      case measure => simp [intOf]; omega
    · have hk8 : k = 8 := by omega
      subst hk8
      go_wp2
      go_ret
      exact ⟨ret_int (by rw [hf.out, HZ.out]), rfl⟩

theorem fin_step (y : Nat) (h : y < 4294967296) : bits BinOp.xor IntKind.u32 (y : Int) 4294967295 = ((y ^^^ 4294967295 : Nat) : Int) := u32_xor_nat y 4294967295 h (by omega)

set_option maxHeartbeats 400000 in
theorem chk_sum (B : Nat) (v : Value) (l : List UInt8) (w : World) (h : RdB w B v l) :
    Calls Try.prog 11 #[v] w fun e w' => e = .returned (.int .i64 (crcN l)) ∧ w = w' := by
  have H := Lib.hid h
  obtain ⟨A, c, rfl, hlc, hc, -⟩ := h
  go_enter Try.func11, Try.ntmps11
  go_wp2
  go_loopw [3, 8] (fun x i wr => ∃ k : Nat, i = .int .i64 k ∧ k ≤ l.length ∧ x = .int .u32 (crcGo 4294967295 (l.take k) : Nat) ∧ wr = w) (fun _ i _ => l.length - (intOf i).toNat)
  case atStart => exact ⟨0, rfl, by omega, rfl, rfl⟩
  case round =>
    obtain ⟨k, rfl, hk, rfl, rfl⟩ := hrel
    by_cases hlt : k < l.length
    · obtain ⟨A', c', e1, -, -, hcell⟩ := H.out
      obtain ⟨b, o, rfl, hb, hcell2⟩ := hcell (by omega)
      cases e1
      have c1 := hcell2 k l[k] (List.getElem?_eq_getElem hlt)
      have hsn := Lib.hid (go_snoc 4294967295 l k hlt)
      have hrl := crcGo_lt (l.take k) (r := 4294967295) (by omega)
      generalize crcGo 4294967295 (l.take k) = r at *
      generalize l[k] = x at *
      clear hcell hcell2
      go_wp2_with (go_at_call 21; refine (take_byte r x _ hrl).mono ?_; rintro e w2 ⟨rfl, rfl⟩)
      go_roundw
      case rel => exact ⟨k + 1, by go_num, by omega, by rw [hsn.out], trivial⟩
      case measure => simp [intOf]; omega
    · have hke := Lib.hid (show l.take k = l from List.take_of_length_le (by omega))
      have hcn := Lib.hid (show crcN l = crcGo 4294967295 l ^^^ 4294967295 from rfl)
      have hrl := crcGo_lt (l.take k) (r := 4294967295) (by omega)
      have hfs := Lib.hid (fin_step _ hrl)
      rw [hke.out] at hfs hrl ⊢
      generalize crcGo 4294967295 l = r at *
      have HX := Lib.hid (show r ^^^ 4294967295 < 4294967296 from xor_lt (k := 32) (a := r) (b := 4294967295) hrl (by decide))
      go_wp2
      go_ret
      exact ⟨ret_int (by rw [hfs.out, hcn.out]; have := HX.out; unfold wrap64; omega), rfl⟩
end Go.Proofs.Ytdpjohehmbddnaa
