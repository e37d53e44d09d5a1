/- Layer 3: one byte into the register; the check sum of the program. -/
import Derived.Test.YtefjdmlmmoeoaaaCA
import Derived.Test.YtefjdmlmmoeoaaaBstr
import Derived.Test.YtefjdmlmmoeoaaaVV
import Derived.Test.YtefjdmlmmoeoaaaBnew
import Derived.Lib.SlBytesConst
import Derived.RangeFuncBound
import Derived.RangeFuncLeaves
import Derived.Shelf.Abstract
import Derived.Shelf.RegionOpen
import Derived.OwnWalkIn
import Derived.TacticsInMore
import Derived.LoopNIn
import Derived.LoopIn
import Derived.RangeFuncBox
import Derived.Sort.QuietIn
namespace Go.Proofs.Ytefjdmlmmoeoaaa
open Go.RowKit
set_option linter.unusedVariables false

theorem bits_succ' (k : Nat) : ∀ r, crcBits (k + 1) r = crcBit (crcBits k r) := by
  induction k with
  | zero => intro r; rfl
  | succ k ih => intro r; rw [crcBits, ih, ← crcBits]
theorem go_snoc (r : Nat) (l : List UInt8) (k : Nat) (h : k < l.length) : crcGo r (l.take (k + 1)) = crcByte (crcGo r (l.take k)) l[k] := by
  rw [List.take_succ_eq_append_getElem h, crcGo_append]; rfl

theorem bit_step (y : Nat) (h : y < 4294967296) : bits BinOp.xor IntKind.u32 ((y : Int) / 2) (bits BinOp.and IntKind.u32 (y : Int) 1 * 3988292384 % 4294967296) = ((crcBit y : Nat) : Int) := by
  have h1 := u32_and_nat y 1 h (by omega)
  rw [show ((1 : Nat) : Int) = 1 from rfl, Nat.and_one_is_mod] at h1
  rw [h1]
  have h2 : ((y : Int) / 2) = ((y / 2 : Nat) : Int) := by omega
  unfold crcBit
  by_cases ho : y % 2 = 1
  · rw [if_pos ho, ho, h2]
    exact u32_xor_nat (y / 2) 3988292384 (by omega) (by omega)
  · have h0 : y % 2 = 0 := by omega
    rw [if_neg ho, h0, h2]
    have := u32_xor_nat (y / 2) 0 (by omega) (by omega)
    simpa using this

set_option maxHeartbeats 400000 in
theorem take_byte (r : Nat) (c : UInt8) (w : World) (hr : r < 4294967296) :
    Calls Try.prog 75 #[.int .u32 r, .int .u8 c.toNat] w fun e w' => e = .returned (.int .u32 (crcByte r c)) ∧ w = w' := by
  have hc := c.toNat_lt
  have h0 := Lib.hid (u32_xor_nat r c.toNat hr (by omega))
  go_enter Try.func75, Try.ntmps75
  go_wp2
  go_loopw [0, 10] (fun x i wr => ∃ k : Nat, i = .int .i64 k ∧ k ≤ 8 ∧ x = .int .u32 (crcBits k (r ^^^ c.toNat) : Nat) ∧ wr = w) (fun _ i _ => 8 - (intOf i).toNat)
  case atStart => exact ⟨0, rfl, by omega, by rw [h0.out]; rfl, rfl⟩
  case round =>
    obtain ⟨k, rfl, hk, rfl, rfl⟩ := hrel
    have h1 := crcBits_lt k (byte_lt r c hr)
    have hs := Lib.hid (bits_succ' k (r ^^^ c.toNat))
    have hb := Lib.hid (bit_step _ h1)
    have hf := Lib.hid (show crcByte r c = crcBits 8 (r ^^^ c.toNat) from rfl)
    generalize hz : crcBits k (r ^^^ c.toNat) = y at *
    have HZ := Lib.hid hz
    clear hz
    by_cases hlt : k < 8
    · go_wp2
      go_roundw
      case rel => exact ⟨k + 1, by go_num, by omega, by rw [hb.out, hs.out], trivial⟩
      case measure => simp [intOf]; omega
    · have hk8 : k = 8 := by omega
      subst hk8
      go_wp2
      go_ret
      exact ⟨ret_int (by rw [hf.out, HZ.out]), rfl⟩

theorem fin_step (y : Nat) (h : y < 4294967296) : bits BinOp.xor IntKind.u32 (y : Int) 4294967295 = ((y ^^^ 4294967295 : Nat) : Int) := u32_xor_nat y 4294967295 h (by omega)

set_option maxHeartbeats 400000 in
theorem chk_sum (B : Nat) (v : Value) (l : List UInt8) (w : World) (h : RdB w B v l) :
    Calls Try.prog 53 #[v] w fun e w' => e = .returned (.int .i64 (crcN l)) ∧ w = w' := by
  have H := Lib.hid h
  obtain ⟨A, c, rfl, hlc, hc, -⟩ := h
  go_enter Try.func53, Try.ntmps53
  go_wp2
  go_loopw [3, 8] (fun x i wr => ∃ k : Nat, i = .int .i64 k ∧ k ≤ l.length ∧ x = .int .u32 (crcGo 4294967295 (l.take k) : Nat) ∧ wr = w) (fun _ i _ => l.length - (intOf i).toNat)
  case atStart => exact ⟨0, rfl, by omega, rfl, rfl⟩
  case round =>
    obtain ⟨k, rfl, hk, rfl, rfl⟩ := hrel
    by_cases hlt : k < l.length
    · obtain ⟨A', c', e1, -, -, hcell⟩ := H.out
      obtain ⟨b, o, rfl, hb, hcell2⟩ := hcell (by omega)
      cases e1
      have c1 := hcell2 k l[k] (List.getElem?_eq_getElem hlt)
      have hsn := Lib.hid (go_snoc 4294967295 l k hlt)
      have hrl := crcGo_lt (l.take k) (r := 4294967295) (by omega)
      generalize crcGo 4294967295 (l.take k) = r at *
      generalize l[k] = x at *
      clear hcell hcell2
      go_wp2_with (go_at_call 75; refine (take_byte r x _ hrl).mono ?_; rintro e w2 ⟨rfl, rfl⟩)
      go_roundw
      case rel => exact ⟨k + 1, by go_num, by omega, by rw [hsn.out], trivial⟩
      case measure => simp [intOf]; omega
    · have hke := Lib.hid (show l.take k = l from List.take_of_length_le (by omega))
      have hcn := Lib.hid (show crcN l = crcGo 4294967295 l ^^^ 4294967295 from rfl)
      have hrl := crcGo_lt (l.take k) (r := 4294967295) (by omega)
      have hfs := Lib.hid (fin_step _ hrl)
      rw [hke.out] at hfs hrl ⊢
      generalize crcGo 4294967295 l = r at *
      have HX := Lib.hid (show r ^^^ 4294967295 < 4294967296 from xor_lt (k := 32) (a := r) (b := 4294967295) hrl (by decide))
      go_wp2
      go_ret
      exact ⟨ret_int (by rw [hfs.out, hcn.out]; have := HX.out; unfold wrap64; omega), rfl⟩
end Go.Proofs.Ytefjdmlmmoeoaaa
/- Layer 3: a word, put and read; a frame's body; few; a copy. -/
namespace Go.Proofs.Ytefjdmlmmoeoaaa
open Go.RowKit
set_option linter.unusedVariables false

theorem RdB.drewN {w : World} {B : Nat} {v : Value} {l : List UInt8} (h : RdB w B v l) (n : Nat) : RdB (w.drewN n) B v l := h
theorem wraps_i64 (n : Int) (h₀ : 0 ≤ n) (h₁ : n < 2 ^ 62) : IntKind.i64.wrap n = n := by rw [IntKind.wrap_i64]; omega
theorem or_join (i : Nat) (x y : Int) (hx₀ : 0 ≤ x) (hx : x % 2 ^ i = 0) (hx₁ : x < 2 ^ 62) (hy₀ : 0 ≤ y) (hy : y < 2 ^ i) (hy₁ : y < 2 ^ 62) : bits .or .i64 y x = y + x := by
  have h1 := bits_join .i64 62 (by decide) wraps_i64 i x y hx₀ hx hx₁ hy₀ hy hy₁
  obtain ⟨a, rfl⟩ := Int.eq_ofNat_of_zero_le hx₀
  obtain ⟨b, rfl⟩ := Int.eq_ofNat_of_zero_le hy₀
  have ha : a < 2 ^ 62 := by exact_mod_cast hx₁
  have hb : b < 2 ^ 62 := by exact_mod_cast hy₁
  rw [(bits_nat .i64 62 (by decide) wraps_i64 _ _ hb ha).2, Nat.or_comm, ← (bits_nat .i64 62 (by decide) wraps_i64 _ _ ha hb).2, h1, Int.add_comm]

set_option maxHeartbeats 1000000 in
theorem chk_word (B : Nat) (v : Value) (l : List UInt8) (w : World) (h : RdB w B v l) (h4 : 4 ≤ l.length) :
    Calls Try.prog 104 #[v] w fun e w' => e = .returned (.int .i64 (dec4 l)) ∧ ∃ q, w' = w.drewN q := by
  obtain ⟨a, b, c, d, r, rfl⟩ := four h4
  obtain ⟨A, k, rfl, hlk, hk, hcell⟩ := h
  obtain ⟨bb, o, rfl, hb, hcell⟩ := hcell (by simp)
  have c0 := hcell 0 a rfl
  have c1 := hcell 1 b rfl
  have c2 := hcell 2 c rfl
  have c3 := hcell 3 d rfl
  rw [Nat.add_zero] at c0
  have l0 := a.toNat_lt
  have l1 := b.toNat_lt
  have l2 := c.toNat_lt
  have l3 := d.toNat_lt
  have hlen : (4 : Int) ≤ ((a :: b :: c :: d :: r).length : Int) := by omega
  generalize (a :: b :: c :: d :: r).length = L at *
  clear hcell
  have i0 : (0 : Int) < (L : Int) := by omega
  have i1 : (1 : Int) < (L : Int) := by omega
  have i2 : (2 : Int) < (L : Int) := by omega
  have i3 : (3 : Int) < (L : Int) := by omega
  go_enter Try.func104, Try.ntmps104
  go_wp2_with fail
  go_quiet (fail)
  go_wp2_with fail
  go_ret
  refine ⟨ret_int ?_, _, rfl⟩
  have e1 := or_join 8 ((b.toNat : Int) * 256) a.toNat (by omega) (by omega) (by omega) (by omega) (by omega) (by omega)
  have e2 := or_join 16 ((c.toNat : Int) * 65536) (a.toNat + (b.toNat : Int) * 256) (by omega) (by omega) (by omega) (by omega) (by omega) (by omega)
  have e3 := or_join 24 ((d.toNat : Int) * 16777216) (a.toNat + (b.toNat : Int) * 256 + (c.toNat : Int) * 65536) (by omega) (by omega) (by omega) (by omega) (by omega) (by omega)
  rw [e1, e2, e3]
  simp only [dec4]; omega

set_option maxHeartbeats 400000 in
theorem put_word (base : Nat) (v : Value) (l : List UInt8) (n : Nat) (w : World) (h : OwnB w base v l) (hb : base ≤ w.heap.size) (hl : l.length ≤ 549755813888) (hn : n < 4611686018427387904) :
    Calls Try.prog 52 #[v, .int .i64 n] w fun e w' => ∃ v', e = .returned v' ∧ OwnB w' base v' (l ++ enc4 n) ∧ Below base w w' := by
  have hI : (n : Int) < 4611686018427387904 := by omega
  have HO := Lib.hid h
  clear hn h
  go_enter Try.func52, Try.ntmps52
  go_wp2_with (at_builtin; refine wpl_app rfl (.tmp 5) (.tmp 17) rfl base _ l (enc4 n) _ _ _ ?_ rfl rfl rfl HO.out ?_ ?_ ?_; rotate_left 3; intro v1 w1 ho1 hg1 hs1)
  · go_ret
    exact ⟨v1, rfl, ho1, hg1.below hb (OwnB.base HO.out)⟩
  · exact bv4 n
  · exact hb
  · simp [enc4]; omega

set_option maxHeartbeats 400000 in
theorem chk_body (B : Nat) (v : Value) (l : List UInt8) (w : World) (h : RdB w B v l) (h8 : 8 ≤ l.length) :
    Calls Try.prog 77 #[v] w fun e w' => ∃ A c, e = .returned (.slice A (l.length - 8) c) ∧ RdB w B (.slice A (l.length - 8) c) (l.drop 8) ∧ w = w' := by
  obtain ⟨A, c, h2, h3⟩ := sl_tail h 8 8 rfl h8
  have H3 := Lib.hid h3
  obtain ⟨A0, c0, rfl, -⟩ := h
  clear h3
  go_enter Try.func77, Try.ntmps77
  go_wp2
  go_ret
  exact ⟨_, _, rfl, H3.out, rfl⟩

end Go.Proofs.Ytefjdmlmmoeoaaa
/- Layer 3: the program's first frame, whether it has its sum, frames put, the example. -/
namespace Go.Proofs.Ytefjdmlmmoeoaaa
open Go.RowKit
set_option linter.unusedVariables false

/-- Whether a whole frame stands at the beginning. -/
def whole (l : List UInt8) : Bool := decide (8 ≤ l.length ∧ 8 + dec4 l ≤ l.length)

set_option maxHeartbeats 1000000 in
theorem chk_first_d (B : Nat) (v : Value) (l : List UInt8) (w : World) (h : RdB w B v l) (hl : l.length ≤ 1000000000) :
    Calls Try.prog 93 #[v] w fun e w' => ∃ v', e = .returned (.tuple #[v', .bool (whole l)]) ∧ RdB w B v' (if whole l then l.take (8 + dec4 l) else []) ∧ ∃ q, w' = w.drewN q := by
  have HW := Lib.hid h
  by_cases h8 : l.length < 8
  · have hw : whole l = false := by simp [whole]; omega
    rw [hw]
    obtain ⟨A, c, rfl, -⟩ := h
    go_enter Try.func93, Try.ntmps93
    go_wp2
    go_ret2
    exact ⟨_, rfl, RdB.nil _ _, 0, rfl⟩
  · have hd := dec4_lt l
    by_cases hn : l.length < 8 + dec4 l
    · have hw : whole l = false := by simp [whole]; omega
      rw [hw]
      have hword := Lib.hid (chk_word _ v l w h (by omega))
      obtain ⟨A, c, rfl, -⟩ := h
      generalize dec4 l = n at *
      go_enter Try.func93, Try.ntmps93
      go_wp2_with fail
      refine hword.out.mono ?_
      rintro e w1 ⟨rfl, q1, rfl⟩
      go_wp2_with fail
      go_ret2
      exact ⟨_, rfl, RdB.nil _ _, q1, rfl⟩
    · have hw : whole l = true := by simp [whole]; omega
      rw [hw]
      have hword := Lib.hid (chk_word _ v l w h (by omega))
      obtain ⟨A2, c2, hs2, hr2⟩ := sl_head h (8 + dec4 l) ((8 : Int) + dec4 l) (by omega) (by omega)
      have R2 := Lib.hid hr2
      obtain ⟨A, c, rfl, -⟩ := h
      clear hr2
      generalize dec4 l = n at *
      go_enter Try.func93, Try.ntmps93
      go_wp2_with fail
      refine hword.out.mono ?_
      rintro e w1 ⟨rfl, q1, rfl⟩
      go_wp2_with fail
      go_ret2
      exact ⟨_, rfl, R2.out, q1, rfl⟩

/-- Whether a frame has its sum. -/
def summed (l : List UInt8) : Bool := decide (dec4 (l.drop 4) = crcN (l.drop 8))

set_option maxHeartbeats 1000000 in
theorem chk_summed_d (B : Nat) (v : Value) (l : List UInt8) (w : World) (h : RdB w B v l) (h8 : 8 ≤ l.length) :
    Calls Try.prog 94 #[v] w fun e w' => e = .returned (.bool (summed l)) ∧ ∃ q, w' = w.drewN q := by
  have HW := Lib.hid h
  obtain ⟨A2, c2, hs2, hr2⟩ := sl_tail h 4 4 rfl (by omega)
  have hword := Lib.hid (chk_word _ _ (l.drop 4) w hr2 (by rw [List.length_drop]; omega))
  have hd := dec4_lt (l.drop 4)
  have hc := crcN_lt (l.drop 8)
  have hsm : ((dec4 (l.drop 4) : Int) == (crcN (l.drop 8) : Int)) = summed l := by
    unfold summed
    by_cases h : dec4 (l.drop 4) = crcN (l.drop 8)
    · simp [h]
    · have : (dec4 (l.drop 4) : Int) ≠ (crcN (l.drop 8) : Int) := by omega
      simp [h, this]
  have SM := Lib.hid hsm
  obtain ⟨A, c, rfl, -⟩ := h
  clear hr2 hsm
  generalize dec4 (l.drop 4) = n at *
  go_enter Try.func94, Try.ntmps94
  go_wp2_with fail
  refine hword.out.mono ?_
  rintro e w1 ⟨rfl, q1, rfl⟩
  go_wp2_with fail
  refine (chk_body _ _ l _ (HW.out.drewN q1) h8).mono ?_
  rintro e w2 ⟨A3, c3, rfl, hr3, rfl⟩
  have R3 := Lib.hid hr3
  clear hr3
  go_wp2_with fail
  have hln : l.length - 8 = (l.drop 8).length := by rw [List.length_drop]
  refine (chk_sum _ _ (l.drop 8) _ R3.out).mono ?_
  rintro e w3 ⟨rfl, rfl⟩
  clear hln
  generalize crcN (l.drop 8) = m at *
  go_wp2_with fail
  go_ret
  exact ⟨ret_bool SM.out, q1, rfl⟩

end Go.Proofs.Ytefjdmlmmoeoaaa
/- Layer 3: the program's frames, put; one frame alone, read. -/
namespace Go.Proofs.Ytefjdmlmmoeoaaa
open Go.RowKit
set_option linter.unusedVariables false

def frms (ls : List (List UInt8)) : List UInt8 := ls.flatMap frm
theorem frms_snoc (ls : List (List UInt8)) (l : List UInt8) : frms (ls ++ [l]) = frms ls ++ frm l := by simp [frms]
theorem frms_length {ls : List (List UInt8)} {m : Nat} (h : ∀ l ∈ ls, l.length ≤ m) : (frms ls).length ≤ ls.length * (m + 8) := by
  induction ls with
  | nil => simp [frms]
  | cons l ls ih =>
    have h1 := ih (fun x hx => h x (by simp [hx]))
    have h2 := h l (by simp)
    have h3 : frms (l :: ls) = frm l ++ frms ls := rfl
    rw [h3, List.length_append, frm_length, List.length_cons, Nat.succ_mul]
    omega

set_option maxHeartbeats 1000000 in
theorem chk_frame (v : Value) (ls : List (List UInt8)) (w : World) (h : RdBB w w.heap.size v ls) (hl : ls.length ≤ 10000) (hm : ∀ l ∈ ls, l.length ≤ 1000000) :
    Calls Try.prog 30 #[v] w fun e w' => ∃ v', e = .returned v' ∧ OwnB w' w.heap.size v' (frms ls) ∧ Below w.heap.size w w' := by
  have H := Lib.hid h
  have HM := Lib.hid hm
  obtain ⟨A, c, rfl, hlc, hc, -⟩ := h.form
  clear h hm
  go_enter Try.func30, Try.ntmps30
  go_wp2
  go_loopw [3, 8] (fun x i wr => ∃ k : Nat, i = .int .i64 k ∧ k ≤ ls.length ∧ OwnB wr w.heap.size x (frms (ls.take k)) ∧ Below w.heap.size w wr) (fun _ i _ => ls.length - (intOf i).toNat)
  case atStart => exact ⟨0, rfl, by omega, by simpa [frms] using OwnB.nil w w.heap.size, Below.refl _ _⟩
  case round =>
    obtain ⟨k, rfl, hk, ho, hb⟩ := hrel
    have O := Lib.hid ho
    have G := Lib.hid hb
    clear ho hb
    by_cases hlt : k < ls.length
    · obtain ⟨A', c', e1, -, -, hA⟩ := (H.out.below G.out).form
      obtain ⟨ba, oa, ua, rfl, hba, ca1, ra⟩ := hA k hlt
      cases e1
      have hs1 : ls.take (k + 1) = ls.take k ++ [ls[k]] := List.take_succ_eq_append_getElem hlt
      have hlen := frms_length (ls := ls.take k) (m := 1000000) (fun x hx => HM.out x (List.mem_of_mem_take hx))
      rw [List.length_take, Nat.min_eq_left hk] at hlen
      have hlm := HM.out ls[k] (List.getElem_mem hlt)
      have S1 := Lib.hid (show frms (ls.take (k + 1)) = frms (ls.take k) ++ frm ls[k] from by rw [hs1, frms_snoc])
      clear hA hs1
      generalize frms (ls.take k) = L at *
      generalize ls[k] = p at *
      have hL : L.length ≤ 20000000000 := by omega
      clear hlen
      have R := Lib.hid ra
      obtain ⟨Au, cu, rfl, -⟩ := ra
      have hcr := crcN_lt p
      have hF := Lib.hid (show frm p = enc4 p.length ++ enc4 (crcN p) ++ p from rfl)
      go_wp2_with fail
      refine (put_word _ _ L p.length _ O.out G.out.size (by omega) (by omega)).mono ?_
      rintro e w1 ⟨v1, rfl, ho1, hb1⟩
      have O1 := Lib.hid ho1
      have R1 := Lib.hid (R.out.below hb1)
      have G1 := Lib.hid (G.out.trans hb1)
      clear ho1 hb1
      go_wp2_with fail
      refine (chk_sum _ _ p _ R1.out).mono ?_
      rintro e w2 ⟨rfl, rfl⟩
      generalize crcN p = n at *
      go_wp2_with fail
      refine (put_word _ _ (L ++ enc4 p.length) n _ O1.out G1.out.size (by simp [enc4]; omega) (by omega)).mono ?_
      rintro e w3 ⟨v3, rfl, ho3, hb3⟩
      have O3 := Lib.hid ho3
      have R3 := Lib.hid (R1.out.below hb3)
      have G3 := Lib.hid (G1.out.trans hb3)
      clear ho3 hb3
      go_wp2_with (at_builtin; refine wpl_app_bytes_b rfl (.tmp 20) (.tmp 21) rfl w.heap.size _ _ _ (L ++ enc4 p.length ++ enc4 n) p rfl rfl O3.out R3.out ?_ ?_ ?_; rotate_left 2; intro v4 w4 ho4 hb4)
      · go_roundw
        case rel => exact ⟨k + 1, by go_num, by omega, by rw [S1.out, hF.out]; simpa [List.append_assoc] using ho4, G3.out.trans hb4⟩
        case measure => simp [intOf]; omega
      · exact G3.out.size
      · simp [enc4]; omega
    · have hke := Lib.hid (show ls.take k = ls from List.take_of_length_le (by omega))
      have O1 := Lib.hid (show OwnB wr w.heap.size u3 (frms ls) from by have := O.out; rw [hke.out] at this; exact this)
      clear O hke
      go_wp2
      go_ret
      exact ⟨_, rfl, O1.out, G.out⟩
end Go.Proofs.Ytefjdmlmmoeoaaa
/- Layer 3: one frame alone, read by the program. -/
namespace Go.Proofs.Ytefjdmlmmoeoaaa
open Go.RowKit
set_option linter.unusedVariables false

theorem dec4_drop_take (l : List UInt8) (d : Nat) (h : 8 + d ≤ l.length) : dec4 ((l.take (8 + d)).drop 4) = dec4 (l.drop 4) := by
  have h1 : (l.drop 4).length = l.length - 4 := List.length_drop ..
  have e : (l.take (8 + d)).drop 4 = (l.drop 4).take (4 + d) := by rw [List.drop_take]; congr 1; omega
  rw [e, ← dec4_take (l.drop 4) (by omega), ← dec4_take ((l.drop 4).take (4 + d)) (by rw [List.length_take]; omega), List.take_take, Nat.min_eq_left (by omega)]
theorem drop8_take (l : List UInt8) (d : Nat) : (l.take (8 + d)).drop 8 = (l.drop 8).take d := by rw [List.drop_take]; congr 1; omega
theorem summed_take (l : List UInt8) (h : 8 + dec4 l ≤ l.length) : summed (l.take (8 + dec4 l)) = decide (dec4 (l.drop 4) = crcN ((l.drop 8).take (dec4 l))) := by
  unfold summed; rw [dec4_drop_take l _ h, drop8_take]
theorem fst1_out {l : List UInt8} (h : whole l = false) : fst1 l = ([], 0, 3) := by
  unfold fst1
  rw [if_pos]
  unfold whole at h
  simp at h; omega
theorem fst1_bad {l : List UInt8} (h : whole l = true) (hs : summed (l.take (8 + dec4 l)) = false) : fst1 l = ([], 8 + dec4 l, 4) := by
  unfold whole at h
  simp at h
  rw [summed_take l h.2] at hs
  unfold fst1
  rw [if_neg (by omega), if_pos (fun e => by simp at hs; exact hs e.symm)]
theorem fst1_good {l : List UInt8} (h : whole l = true) (hs : summed (l.take (8 + dec4 l)) = true) : fst1 l = ((l.drop 8).take (dec4 l), 8 + dec4 l, 0) := by
  unfold whole at h
  simp at h
  rw [summed_take l h.2] at hs
  unfold fst1
  rw [if_neg (by omega), if_neg (fun e => e (by simpa using (of_decide_eq_true hs).symm))]

end Go.Proofs.Ytefjdmlmmoeoaaa
/- Layer 3: the frames at the beginning, told one by one: the program's iterator. -/
namespace Go.Proofs.Ytefjdmlmmoeoaaa
open Go.RowKit Go.Shelf
set_option linter.unusedVariables false
attribute [local go_sem] Oper.semAt_some

/-- A frame as it is told: a slice that reads so, below n₀. -/
def Fr (w : World) (n₀ : Nat) : Type := { p : Value × List UInt8 // RdB w n₀ p.1 p.2 ∧ 8 ≤ p.2.length ∧ p.2.length ≤ 1000000 }
def Fr.sum {w : World} {n₀ : Nat} (xs : List (Fr w n₀)) : Nat := (xs.map fun x => x.1.2.length).sum
def Fr.bodies {w : World} {n₀ : Nat} (xs : List (Fr w n₀)) : List (List UInt8) := xs.map fun x => x.1.2.drop 8

theorem RdB.back {w w' : World} {B : Nat} {v : Value} {l : List UInt8} (h : RdB w' B v l) (hb : Below B w w') : RdB w B v l := by
  obtain ⟨A, c, rfl, h1, h2, h3⟩ := h
  refine ⟨A, c, rfl, h1, h2, fun hp => ?_⟩
  obtain ⟨b, o, rfl, hB, hc⟩ := h3 hp
  exact ⟨b, o, rfl, hB, fun k p hk => (hb.cell (p := ⟨b, _, none⟩) hB).symm.trans (hc k p hk)⟩
theorem Fr.sum_snoc {w : World} {n₀ : Nat} (xs : List (Fr w n₀)) (x : Fr w n₀) : Fr.sum (xs ++ [x]) = Fr.sum xs + x.1.2.length := by simp [Fr.sum]
theorem Fr.bodies_snoc {w : World} {n₀ : Nat} (xs : List (Fr w n₀)) (x : Fr w n₀) : Fr.bodies (xs ++ [x]) = Fr.bodies xs ++ [x.1.2.drop 8] := by simp [Fr.bodies]
def slen : Value → Nat
  | .slice _ n _ => n
  | _ => 0

set_option maxRecDepth 100000 in
set_option maxHeartbeats 1000000 in
theorem frames_stops (n n₀ Bn : Nat) (v : Value) (l : List UInt8) (w : World) (hn : n₀ ≤ w.heap.size) (hc : w.cell? ⟨Bn, 0, none⟩ = some v) (hBn : Bn < w.heap.size) (hr : RdB w n₀ v l) (hl : l.length ≤ 1000000) :
    SeqStopsK Fence.wide n Try.prog 92 #[.pointer (some ⟨Bn, 0, none⟩)] (fun x : Fr w n₀ => #[x.1.1]) (Below n₀)
      (fun xs => frs l = (Fr.bodies xs, Fr.sum xs)) (fun _ => True) l.length w := fun L J Jx W hW hJ hJx hY h0 => by
  have hcW : W.cell? ⟨Bn, 0, none⟩ = some v := (hW.cell (p := ⟨Bn, 0, none⟩) hBn).trans hc
  have hbW : Below n₀ w W := hW.mono hn
  have R := Lib.hid hr
  have HY := Lib.hid hY
  have HJ := Lib.hid hJ
  have HJx := Lib.hid hJx
  have H0 := Lib.hid h0
  have G := Lib.hid hbW
  clear hY hJ hJx h0 hW hbW
  obtain ⟨A, c, rfl, -⟩ := hr
  refine callsIn_of_wp Try.func92 rfl trivial ?_ rfl
  simp only [Try.ntmps92, List.size_toArray, List.length_cons, List.length_nil, Nat.reduceAdd, Nat.reduceSub, Array.replicate_succ, Array.replicate_zero, List.push_toArray, List.append_toArray, List.nil_append, List.cons_append]
  gi_wp2
  gi_loopw [3] (fun x wr => ∃ (pre : List (Fr w n₀)) (k : Nat), RdB w n₀ x (l.drop k) ∧ k ≤ l.length ∧ pre.length ≤ k ∧ Fr.sum pre = k ∧ frs l = (Fr.bodies pre ++ (frs (l.drop k)).1, k + (frs (l.drop k)).2) ∧ J pre wr ∧ Below n₀ w wr) (fun x _ => slen x)
  case atStart => exact ⟨[], 0, R.out, Nat.zero_le _, Nat.zero_le _, rfl, by simp [Fr.bodies], H0.out, G.out⟩
  case round =>
    obtain ⟨pre, k, hrk, hk, hpk, hsum, hfr, hj, hb⟩ := hrel
    have PK := Lib.hid hpk
    have SM := Lib.hid hsum
    have HJP := Lib.hid hj
    have GB := Lib.hid hb
    have hlk : (l.drop k).length = l.length - k := List.length_drop ..
    have hdr : ∀ n, l.drop (k + n) = (l.drop k).drop n := fun n => by rw [List.drop_drop]
    generalize l.drop k = m at *
    have FR := Lib.hid hfr
    have RK := Lib.hid hrk
    have DR := Lib.hid hdr
    have LK := Lib.hid hlk
    obtain ⟨Ak, ck, rfl, -⟩ := hrk
    clear hpk hsum hfr hj hb hdr hlk
    gi_wp2_with fail
    refine ⟨trivial, fun h => (by cases h), (callsIn_wide.2 (chk_first_d _ _ m _ (RK.out.below GB.out) (by have := LK.out; omega))).mono ?_⟩
    rintro e w1 ⟨v1, rfl, hr1, q1, rfl⟩
    by_cases hw : whole m = true
    · have hm8 : 8 ≤ m.length ∧ 8 + dec4 m ≤ m.length := by unfold whole at hw; simpa using hw
      rw [hw] at hr1 ⊢
      simp only [if_true] at hr1
      have hfl : (m.take (8 + dec4 m)).length = 8 + dec4 m := by rw [List.length_take]; omega
      have R1 := Lib.hid hr1
      obtain ⟨A1, c1, rfl, -⟩ := hr1
      rw [hfl]
      gi_wp2_with fail
      rw [← hfl]
      refine ⟨trivial, fun h => (by cases h), (callsIn_wide.2 (chk_summed_d _ _ _ _ (R1.out.drewN q1) (by omega))).mono ?_⟩
      rintro e w2 ⟨rfl, q2, rfl⟩
      by_cases hs : summed (m.take (8 + dec4 m)) = true
      · have hfst := fst1_good hw hs
        have hfs := frs_ok m (by rw [hfst])
        rw [hfst] at hfs
        have hd8 := drop8_take m (dec4 m)
        rw [hs]
        simp only at hfs
        rw [← hd8] at hfs
        clear hd8 hfst hs hw
        have hdm : m.drop (8 + dec4 m) = l.drop (k + (8 + dec4 m)) := (DR.out _).symm
        rw [hdm] at hfs
        generalize m.take (8 + dec4 m) = f at *
        generalize dec4 m = d at *
        have FS := Lib.hid hfs
        clear hfs hdm
        obtain ⟨x, hx1, hx2⟩ : ∃ x : Fr w n₀, x.1.1 = .slice A1 f.length c1 ∧ x.1.2 = f := ⟨⟨(_, f), R1.out.back GB.out, by show 8 ≤ f.length; omega, by have := LK.out; show f.length ≤ 1000000; omega⟩, rfl, rfl⟩
        obtain ⟨A3, c3, hsl, hrs⟩ := sl_tail (RK.out) (8 + d) ((8 : Int) + (d : Int)) (by omega) (by omega)
        rw [← DR.out] at hrs
        have XB := Lib.hid (show Fr.bodies (pre ++ [x]) = Fr.bodies pre ++ [f.drop 8] from by rw [Fr.bodies_snoc, hx2])
        have XS := Lib.hid (show Fr.sum (pre ++ [x]) = k + (8 + d) from by rw [Fr.sum_snoc, hx2, SM.out, hfl])
        obtain ⟨fn, tmps, assign, body, hy, hR⟩ := HY.out pre x (wr.drewN (q1 + q2)) (HJ.out _ _ _ none HJP.out ⟨rfl, rfl, rfl, Nat.le_refl _, fun _ _ _ => rfl⟩ (fun _ e => by cases e)) (by have := PK.out; have := LK.out; omega)
        rw [hx1, hfl] at hy
        have RS := Lib.hid hrs
        clear hrs
        rw [hfl]
        gi_wp2_with fail
        refine ⟨fun h => (by cases h), hR.mono ?_⟩
        clear hy hR
        rintro e W3 (⟨rfl, hJ3, hk3⟩ | ⟨rfl, hJx3⟩)
        · have J3 := Lib.hid hJ3
          have K3 := Lib.hid (((GB.out.drewN (q1 + q2)).trans hk3))
          clear hJ3 hk3
          gi_wp2_with fail
          go_roundw
          case rel => exact ⟨pre ++ [x], k + (8 + d), RS.out, by have := LK.out; omega, by have := PK.out; simp; omega, XS.out, by rw [FR.out, FS.out, XB.out]; simp [Nat.add_assoc], J3.out, K3.out⟩
          case measure => simp [slen]; omega
        · have J3 := Lib.hid hJx3
          clear hJx3
          gi_wp2_with fail
          refine bodyPost_ret (results_none rfl _ _ _) rfl ?_
          exact ⟨⟨_, rfl⟩, .inr ⟨pre ++ [x], trivial, J3.out⟩⟩
      · have hs : summed (m.take (8 + dec4 m)) = false := by simpa using hs
        have hfs := frs_end m (by rw [fst1_bad hw hs]; simp)
        have FF := Lib.hid (show frs l = (Fr.bodies pre, Fr.sum pre) from by rw [FR.out, hfs, SM.out]; simp)
        have hJd := Lib.hid (HJ.out _ _ _ none HJP.out (show wr.grownBy (wr.drewN (q1 + q2)) none from ⟨rfl, rfl, rfl, Nat.le_refl _, fun _ _ _ => rfl⟩) (fun _ e => by cases e))
        rw [hs, hfl]
        clear hfs hs hw hm8
        gi_wp2_with fail
        refine ⟨fun _ h => (by cases h), ?_⟩
        gi_wp2_with fail
        refine bodyPost_ret (results_none rfl _ _ _) rfl ?_
        exact ⟨⟨_, rfl⟩, .inl ⟨pre, FF.out, hJd.out⟩⟩
    · have hw : whole m = false := by simpa using hw
      have hfs := frs_end m (by rw [fst1_out hw]; simp)
      have FF := Lib.hid (show frs l = (Fr.bodies pre, Fr.sum pre) from by rw [FR.out, hfs, SM.out]; simp)
      have hJd := Lib.hid (HJ.out _ _ _ none HJP.out (show wr.grownBy (wr.drewN q1) none from ⟨rfl, rfl, rfl, Nat.le_refl _, fun _ _ _ => rfl⟩) (fun _ e => by cases e))
      rw [hw] at hr1 ⊢
      clear hfs hw hr1
      gi_wp2_with fail
      refine ⟨trivial, ?_⟩
      gi_wp2_with fail
      refine ⟨fun _ h => (by cases h), ?_⟩
      gi_wp2_with fail
      refine bodyPost_ret (results_none rfl _ _ _) rfl ?_
      exact ⟨⟨_, rfl⟩, .inl ⟨pre, FF.out, hJd.out⟩⟩
end Go.Proofs.Ytefjdmlmmoeoaaa
/- Layer 3: the frames at the beginning, as the program tells them. -/
namespace Go.Proofs.Ytefjdmlmmoeoaaa
open Go.RowKit Go.Shelf
set_option linter.unusedVariables false
attribute [local go_sem] Oper.semAt_some

theorem chk_iter (A : Option Addr) (n c : Nat) (w : World) :
    Calls Try.prog 76 #[.slice A n c] w fun e w' => e = .returned (.func (.func 92) #[] #[.pointer (some ⟨w.heap.size, 0, none⟩)]) ∧ w' = w.alloc (.cells #[.slice A n c] 24) := by
  go_enter Try.func76, Try.ntmps76
  go_wp2
  go_ret
  exact ⟨rfl, rfl⟩

theorem Fr.sum_le {w : World} {n₀ : Nat} (xs : List (Fr w n₀)) : Fr.sum xs ≤ xs.length * 1000000 := by
  induction xs with
  | nil => simp [Fr.sum]
  | cons x xs ih =>
    have h1 := x.2.2.2
    have h2 : Fr.sum (x :: xs) = x.1.2.length + Fr.sum xs := by simp [Fr.sum]
    rw [h2, List.length_cons, Nat.succ_mul]
    omega

/-- Between two rounds: the list that has come, in its box; how long the frames are, in its. -/
def FI (w : World) (n₀ : Nat) {W1 : World} (pre : List (Fr W1 n₀)) (W : World) : Prop :=
  ((∃ v, Boxed W n₀ 59 v ∧ OwnNB W n₀ v (Fr.bodies pre)) ∧ Boxed W (n₀ + 1) 3 (.int .i64 (Fr.sum pre))) ∧ Below n₀ w W

theorem FI.own {w : World} {n₀ B : Nat} {W1 : World} (hn : n₀ ≤ w.heap.size) (hB : n₀ ≤ B) : OwnFrom B (fun (pre : List (Fr W1 n₀)) W => FI w n₀ pre W) := by
  rintro s X Y row ⟨⟨⟨v, h1, h2⟩, h3⟩, h4⟩ hg hr
  have hr' : ∀ j, row = some j → ∃ o : Obj, X.heap[j]? = some o ∧ o.isCells = false := fun j e => (hr j e).2
  have hbox : ∀ {b : Nat} {t : TypeId} {u : Value}, Boxed X b t u → Boxed Y b t u := fun {b t u} h => h.kept hg (fun e => by
    obtain ⟨o, ho, hc⟩ := hr' b e.symm
    rw [show X.heap[b]? = _ from h] at ho; cases ho; cases hc)
  exact ⟨⟨⟨v, hbox h1, h2.turn hg hr'⟩, hbox h3⟩, h4.grown hg (Nat.le_trans hn h4.size) (fun k e => Nat.le_trans hB (hr k e).1)⟩

set_option maxRecDepth 100000 in
set_option maxHeartbeats 1000000 in
theorem chk_frames (v : Value) (l : List UInt8) (w : World) (h : RdB w w.heap.size v l) (hl : l.length ≤ 1000000) :
    Calls Try.prog 58 #[v] w fun e w' => ∃ v', e = .returned (.tuple #[v', .int .i64 (frs l).2]) ∧ OwnNB w' w.heap.size v' (frs l).1 ∧ Below w.heap.size w w' := by
  have R := Lib.hid h
  obtain ⟨A, c, rfl, -⟩ := h
  have b0 := Boxed.new w 59 (.slice none 0 0)
  have b1 := Boxed.new (w.alloc (.cells #[.slice none 0 0] 59)) 3 (.int .i64 0)
  have b2 := Boxed.new ((w.alloc (.cells #[.slice none 0 0] 59)).alloc (.cells #[.int .i64 0] 3)) 24 (.slice A l.length c)
  have hB : Below w.heap.size w (((w.alloc (.cells #[.slice none 0 0] 59)).alloc (.cells #[.int .i64 0] 3)).alloc (.cells #[.slice A l.length c] 24)) :=
    (((Below.refl _ w).alloc (Nat.le_refl _) _).alloc (by simp) _).alloc (by simp; omega) _
  rw [World.size_alloc, World.size_alloc] at b2
  rw [World.size_alloc] at b1
  have B0 := Lib.hid ((b0.alloc (.cells #[.int .i64 0] 3)).alloc (.cells #[.slice A l.length c] 24))
  have B1 := Lib.hid (b1.alloc (.cells #[.slice A l.length c] 24))
  have B2 := Lib.hid b2
  have G := Lib.hid hB
  clear b0 b1 b2 hB
  refine (callsIn_wide (n := 4)).1 ?_
  refine callsIn_of_wp_marks Try.func58 rfl trivial ?_ rfl
  simp only [Try.ntmps58, List.size_toArray, List.length_cons, List.length_nil, Nat.reduceAdd, Nat.reduceSub, Array.replicate_succ, Array.replicate_zero, List.push_toArray, List.append_toArray, List.nil_append, List.cons_append]
  gi_wp2_with fail
  refine ⟨trivial, (callsIn_wide.2 (chk_iter _ _ _ _)).mono ?_⟩
  rintro e w1 ⟨rfl, rfl⟩
  gi_wp2_with fail
  have hsz : (((w.alloc (.cells #[.slice none 0 0] 59)).alloc (.cells #[.int .i64 0] 3)).alloc (.cells #[.slice A l.length c] 24)).heap.size = w.heap.size + 3 := by simp
  generalize ((w.alloc (.cells #[.slice none 0 0] 59)).alloc (.cells #[.int .i64 0] 3)).alloc (.cells #[.slice A l.length c] 24) = W1 at *
  refine wpIn_rangeFunc_ownG rfl (by omega) (gf := 92) (lb := #[.pointer (some ⟨w.heap.size + 2, 0, none⟩)]) rfl trivial (enters_of Try.func92 (by kernel_rfl) rfl)
    (frames_stops 3 w.heap.size (w.heap.size + 2) _ l W1 (by omega) B2.out.cell (by omega) (R.out.below G.out) hl) belowK_t (belowK_b (by omega)) (Below.refl _ _) (fun _ => rfl)
    (fun pre W => FI w w.heap.size pre W) (fun _ _ _ => False) (FI.own (Nat.le_refl _) (by omega)) (fun _ _ _ _ _ hs _ _ => hs)
    ⟨⟨⟨_, B0.out, OwnNB.nil _ _⟩, B1.out⟩, G.out⟩
    (fun x => { tmps := #[.slice A l.length c, undef, .slice none 0 0, .int .i64 0, .pointer (some ⟨w.heap.size, 0, none⟩), .pointer (some ⟨w.heap.size + 1, 0, none⟩), x.1.1, .slice A l.length c, .func (.func 92) #[] #[.pointer (some ⟨w.heap.size + 2, 0, none⟩)], x.1.1, undef, undef, undef, undef, undef, undef, undef, undef, undef, undef, undef, undef], defers := [] }) ?assign ?body ?done ?stop
  case assign =>
    intro L x W K hK
    gi_wp2
    exact hK
  case body =>
    rintro L pre x W ⟨⟨⟨v, hv, hrow⟩, hn⟩, hB⟩ hlt
    have E := easy_round L (4 - 1 - 1) Try.prog
    have XR := Lib.hid ((x.2.1.back G.out).below hB)
    have X8 := x.2.2.1
    have X9 := x.2.2.2
    have PB := Lib.hid (Fr.bodies_snoc pre x)
    have PS := Lib.hid (Fr.sum_snoc pre x)
    have hpl : (Fr.bodies pre).length = pre.length := by simp [Fr.bodies]
    have HPL := Lib.hid hpl
    have hsl := Fr.sum_le pre
    have hsb : Fr.sum pre ≤ 1000000000000 := by omega
    clear hsl
    clear hpl
    obtain ⟨vx, hvx⟩ : ∃ vx, vx = x.1.1 := ⟨_, rfl⟩
    obtain ⟨f, hf⟩ : ∃ f, f = x.1.2 := ⟨_, rfl⟩
    rw [← hvx] at XR
    rw [← hf] at XR PB PS X8 X9
    simp only [← hvx]
    have XR0 := XR.out
    clear hvx hf
    obtain ⟨Ax, cx, rfl, -⟩ := XR0
    have V := Lib.hid hv
    have O := Lib.hid hrow
    have N := Lib.hid hn
    have GB := Lib.hid hB
    clear hv hrow hn hB
    gi_wp2_with fail
    refine regj_start [6] (fun W' => W'.cell? ⟨w.heap.size, 0, none⟩ = some v) (by kernel_rfl) ?_
    have HI : (fun W' : World => W'.cell? ⟨w.heap.size, 0, none⟩ = some v) W.drew := V.out.cell
    refine regj_take E 0 10 (v := ?_) (T' := ?_) HI (by kernel_rfl) (by kernel_rfl) (by kernel_rfl) (by kernel_rfl) (by kernel_rfl) (fun _ _ _ h => h) (fun o ho => ?_) ?_ ?_
    rotate_left 2
    · cases ho
      refine ⟨rfl, rfl, fun W' hW => ?_⟩
      have hW : W'.cell? ⟨w.heap.size, 0, none⟩ = some v := hW
      go_simp; (try with_reducible rfl)
    · simp only [List.setIfInBounds_toArray, List.set_cons_succ, List.set_cons_zero]; exact rfl
    refine regj_take E 1 11 (v := ?_) (T' := ?_) HI (by kernel_rfl) (by kernel_rfl) (by kernel_rfl) (by kernel_rfl) (by kernel_rfl) (fun _ _ _ h => h) (fun o ho => ?_) ?_ ?_
    rotate_left 2
    · cases ho
      refine ⟨rfl, rfl, fun W' hW => ?_⟩
      have hW : W'.cell? ⟨w.heap.size, 0, none⟩ = some v := hW
      go_simp; (try with_reducible rfl)
    · simp only [List.setIfInBounds_toArray, List.set_cons_succ, List.set_cons_zero]; exact rfl
    refine regj_call E (I' := fun W' => W'.cell? ⟨w.heap.size, 0, none⟩ = some v) (fun _ h => h) 2 12 (by kernel_rfl) (by kernel_rfl) 77 #[.slice Ax f.length cx] (fun o ho => by cases ho; exact ⟨rfl, rfl, fun W => by go_simp⟩) ?_
    refine (chk_body w.heap.size _ f _ (show RdB W.drew _ _ _ from XR.out) X8).mono ?_
    rintro e w1 ⟨A1, c1, rfl, hr1, rfl⟩
    have R1 := Lib.hid hr1
    clear hr1
    refine ⟨_, _, rfl, HI, (by simp only [List.setIfInBounds_toArray, List.set_cons_succ, List.set_cons_zero]; exact rfl), ?_⟩
    have hlb : (f.drop 8).length = f.length - 8 := List.length_drop ..
    refine regj_call E (I' := fun W' => W'.cell? ⟨w.heap.size, 0, none⟩ = some v) (fun _ h => h) 3 13 (by kernel_rfl) (by kernel_rfl) 54 #[.slice A1 (f.length - 8) c1] (fun o ho => by cases ho; exact ⟨rfl, rfl, fun W => by go_simp⟩) ?_
    refine (clone_any _ (f.drop 8) W.drew (R1.out.more (show _ ≤ W.heap.size from GB.out.size)) (by omega)).mono ?_
    rintro e w3 ⟨v3, rfl, ho3, hb3⟩
    have V3 := Lib.hid (Boxed.below (show Boxed W.drew _ _ _ from V.out) hb3)
    have O3 := Lib.hid (OwnNB.on (show OwnNB W.drew _ _ _ from O.out) hb3)
    have N3 := Lib.hid (Boxed.below (show Boxed W.drew _ _ _ from N.out) hb3)
    have hne : ∀ k, v3.ownBlock = some k → some k ≠ v.ownBlock := fun k hk e => by
      have h1 := (World.ownsRow.lt ho3 k hk).1
      have h2 := (OwnNB.lt (show OwnNB W.drew _ _ _ from O.out) k e.symm).2
      omega
    have U3 : OwnB w3 w.heap.size v3 (f.drop 8) := ⟨ho3.1, ho3.2.imp id fun ⟨g, cap, cur, e, hg, h3⟩ => ⟨g, cap, cur, e, Nat.le_trans GB.out.size hg, h3⟩⟩
    have hsz3 : w.heap.size ≤ w3.heap.size := Nat.le_trans GB.out.size hb3.size
    refine ⟨_, _, rfl, V3.out.cell, (by simp only [List.setIfInBounds_toArray, List.set_cons_succ, List.set_cons_zero]; exact rfl), ?_⟩
    refine regj_make E (I' := fun W' => W'.cell? ⟨w.heap.size, 0, none⟩ = some v) (fun _ h => h) 4 (some 14) (v := .slice (some ⟨w3.heap.size, 0, none⟩) 1 1) (w' := w3.alloc (.cells #[v3] 24)) (T' := ?_) (by kernel_rfl) (by kernel_rfl) (fun o ho => ?_) (.inr (V3.out.alloc _).cell) ?_ ?_
    rotate_left
    · cases ho
      obtain ⟨A3, c3, rfl, -⟩ := ho3.rd
      refine ⟨rfl, rfl, ?_⟩
      go_simp
    · simp only [Act.put, List.setIfInBounds_toArray, List.set_cons_succ, List.set_cons_zero]; exact rfl
    have hbm : (Fr.bodies pre).length ≤ 1000000000 := by have := HPL.out; omega
    obtain ⟨v5, w5, hrun, ho5, hg5, hs5⟩ := app_nb_run (W := w3.alloc (.cells #[v3] 24)) (g := w3.heap.size) (c := 1) (ty := 59) (O3.out.on (alloc_below _ _)) (OwnB.on U3 (alloc_below _ _)) hne (heap_alloc_new w3 _) (by simp; omega) hbm
    have O4 := Lib.hid (O3.out.on (alloc_below w3 (.cells #[v3] 24)))
    have V4 := Lib.hid (V3.out.alloc (.cells #[v3] 24))
    have N4 := Lib.hid (N3.out.alloc (.cells #[v3] 24))
    have V5 := Lib.hid (V4.out.kept hg5.grown (Boxed.not_nb V4.out (by decide) O4.out))
    have N5 := Lib.hid (N4.out.kept hg5.grown (Boxed.not_nb N4.out (by decide) O4.out))
    have K5 := Lib.hid ((((KeepsOthers.drew W).trans (keeps_below hb3)).trans (KeepsOthers.alloc w3 (.cells #[v3] 24))).trans (keeps_grew O4.out hg5))
    have B5 := Lib.hid ((((show Below w.heap.size W W.drew from (Below.refl _ W).drewN 1).trans (hb3.mono GB.out.size)).trans ((alloc_below w3 (.cells #[v3] 24)).mono hsz3)).trans (hg5.below (by simp; omega) O4.out.base))
    have RUN := hrun
    obtain ⟨A5, c5, hv5, -⟩ := ho5.rd.form
    rw [List.length_append, List.length_singleton] at hv5
    have O5 := Lib.hid ho5
    clear ho5 hg5 hrun hb3
    refine regj_make E (I' := fun W' => W'.cell? ⟨w.heap.size, 0, none⟩ = some v) (fun _ h => h) 5 (some 15) (v := v5) (w' := w5) (T' := ?_) (by kernel_rfl) (by kernel_rfl) (fun o ho => ?_) (.inr V5.out.cell) ?_ ?_
    rotate_left
    · cases ho
      exact ⟨rfl, rfl, exec_app (.tmp 10) (.tmp 14) rfl rfl rfl RUN⟩
    · simp only [Act.put, List.setIfInBounds_toArray, List.set_cons_succ, List.set_cons_zero]; exact rfl
    subst hv5
    have hc5 := V5.out.cell
    have hf5 := V5.out.frozen
    refine regj_store E (I' := fun _ => False) (fun _ h => h.elim) 6 (w' := ?_) (by kernel_rfl) (by kernel_rfl) (fun o ho => ?_) (.inl rfl) ?_
    rotate_left 1
    · cases ho
      refine ⟨rfl, rfl, ?_⟩
      go_simp
      with_reducible rfl
    refine regj_done (by kernel_rfl) ?_
    have V6 := Lib.hid (V5.out.set (.slice A5 ((Fr.bodies pre).length + 1) c5))
    have O6 := Lib.hid (OwnNB.box (x := .slice A5 ((Fr.bodies pre).length + 1) c5) O5.out V5.out (by decide))
    have N6 := Lib.hid (N5.out.kept (grownBy_setCell' w5 w.heap.size (.slice A5 ((Fr.bodies pre).length + 1) c5)) (by simp))
    have K6 := Lib.hid (K5.out.trans (KeepsOthers.setCell w5 ⟨w.heap.size, 0, none⟩ (.slice A5 ((Fr.bodies pre).length + 1) c5)))
    have B6 := Lib.hid (B5.out.setCell (p := ⟨w.heap.size, 0, none⟩) (Nat.le_refl _) (.slice A5 ((Fr.bodies pre).length + 1) c5))
    clear hc5 hf5
    generalize w5.setCell ⟨w.heap.size, 0, none⟩ (.slice A5 ((Fr.bodies pre).length + 1) c5) = w6 at *
    have hc6 := N6.out.cell
    have hf6 := N6.out.frozen
    gi_wp2_with fail
    refine ⟨(K6.out.trans (KeepsOthers.setCell _ _ _)).from _, B6.out.setCell (p := ⟨w.heap.size + 1, 0, none⟩) (Nat.le_succ _) _, ⟨⟨_, V6.out.kept (grownBy_setCell' w6 _ _) (by simp), ?_⟩, ?_⟩, (GB.out.trans B6.out).setCell (p := ⟨w.heap.size + 1, 0, none⟩) (Nat.le_succ _) _⟩
    · rw [PB.out]
      exact OwnNB.box O6.out N6.out (by decide)
    · rw [PS.out, Int.natCast_add]
      exact N6.out.set _
  case done =>
    rintro D ys W hD hfr ⟨⟨⟨v, hv, hrow⟩, hn⟩, hB⟩ hK
    have hc := hv.cell
    have hc2 := hn.cell
    gi_wp2_with fail
    gi_quiet (fail)
    gi_wp2_with fail
    refine ⟨by simp, .inl ⟨_, _, rfl, run_takeDeferred (show (W.drewN _).heap[D]? = _ from hK), ?_⟩⟩
    have hbod : (frs l).1 = Fr.bodies ys := by rw [hfr]
    have hsum : (frs l).2 = Fr.sum ys := by rw [hfr]
    rw [hbod, hsum]
    exact ⟨_, results_tmp2 rfl _ _ _, v, rfl, OwnNB.turn (show OwnNB (W.drewN nq) _ _ _ from hrow) (grownBy_putObj' _ D _) (fun r e => by cases e; exact ⟨_, hK, rfl⟩), (hB.drewN nq).trans (belowK_b (w := w) (Nat.le_refl _) (W.drewN nq) D _ _ (by omega) hK rfl rfl)⟩
  case stop =>
    rintro D c pre W _ _ h _
    exact h.elim
end Go.Proofs.Ytefjdmlmmoeoaaa
/- Layer 3: plain facts on frames: that they are read as they were put; that one that ends too soon is none; that one of which a byte is another one has not its sum. -/
namespace Go.Proofs.Ytefjdmlmmoeoaaa
open Go.RowKit
set_option linter.unusedVariables false

/-- A frame with some sum in its head, and what stands behind. -/
theorem fst1_gen (p r : List UInt8) (s : Nat) (hp : p.length < 4294967296) (hs : s < 4294967296) :
    fst1 (enc4 p.length ++ enc4 s ++ p ++ r) = if crcN p ≠ s then ([], 8 + p.length, 4) else (p, 8 + p.length, 0) := by
  have e1 : enc4 p.length ++ enc4 s ++ p ++ r = enc4 p.length ++ (enc4 s ++ (p ++ r)) := by simp
  have hl : (enc4 p.length ++ (enc4 s ++ (p ++ r))).length = 8 + (p.length + r.length) := by
    simp only [List.length_append, enc4_length]; omega
  have hd : dec4 (enc4 p.length ++ (enc4 s ++ (p ++ r))) = p.length := dec4_enc4 _ _ hp
  have h4 : (enc4 p.length ++ (enc4 s ++ (p ++ r))).drop 4 = enc4 s ++ (p ++ r) := List.drop_left' (enc4_length _)
  have h8 : (enc4 p.length ++ (enc4 s ++ (p ++ r))).drop 8 = p ++ r := by
    rw [← List.append_assoc]; exact List.drop_left' (by simp [enc4_length])
  unfold fst1
  rw [e1, hl, hd, h4, h8, dec4_enc4 _ _ hs, if_neg (by omega), List.take_left' rfl]
theorem fst1_frm (p r : List UInt8) (hp : p.length < 4294967296) : fst1 (frm p ++ r) = (p, 8 + p.length, 0) := by
  unfold frm
  rw [fst1_gen p r _ hp (crcN_lt p), if_neg (by simp)]
theorem frms_cons (p : List UInt8) (ls : List (List UInt8)) : frms (p :: ls) = frm p ++ frms ls := rfl
/-- Frames are read as they were put, up to whatever stands behind that is none. -/
theorem frs_frms (ls : List (List UInt8)) (r : List UInt8) (hl : ∀ l ∈ ls, l.length < 4294967296) (hr : (fst1 r).2.2 ≠ 0) : frs (frms ls ++ r) = (ls, (frms ls).length) := by
  induction ls with
  | nil => exact frs_end r hr
  | cons p ls ih =>
    have h1 := fst1_frm p (frms ls ++ r) (hl p (by simp))
    have h2 : frms (p :: ls) ++ r = frm p ++ (frms ls ++ r) := by rw [frms_cons, List.append_assoc]
    rw [h2, frs_ok _ (by rw [h1]), h1]
    have h3 : (frm p ++ (frms ls ++ r)).drop (8 + p.length) = frms ls ++ r := List.drop_left' (by rw [frm_length]; omega)
    simp only [h3]
    rw [ih (fun l h => hl l (by simp [h])), frms_cons, List.length_append, frm_length]
    simp [Nat.add_comm]

end Go.Proofs.Ytefjdmlmmoeoaaa
/- Layer 3: plain facts on a frame of which a byte is turned. -/
namespace Go.Proofs.Ytefjdmlmmoeoaaa
open Go.RowKit
set_option linter.unusedVariables false

theorem OwnB.pos {w : World} {base : Nat} {v : Value} {l : List UInt8} (h : OwnB w base v l) (hp : 0 < l.length) : ∃ g c, v = .slice (some ⟨g, 0, none⟩) l.length c ∧ base ≤ g ∧ g < w.heap.size := by
  rcases h.2 with ⟨_, h0⟩ | ⟨g, cap, _, rfl, hb, hg, _⟩
  · omega
  · exact ⟨g, cap, rfl, hb, (Array.getElem?_eq_some_iff.1 hg).1⟩
theorem xor_u8 (c d : UInt8) : bits .xor .u8 (c.toNat : Int) (d.toNat : Int) = (((c ^^^ d).toNat : Nat) : Int) := by
  rw [u8_xor_nat _ _ c.toNat_lt d.toNat_lt, UInt8.toNat_xor]
end Go.Proofs.Ytefjdmlmmoeoaaa
