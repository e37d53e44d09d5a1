/- Layer 3: four bytes of a number, and back; a frame, as the document's answer has it. -/
import Derived.Test.YtdpjohehmbddnaaCa
namespace Go.Proofs.Ytdpjohehmbddnaa
open Go.RowKit
set_option linter.unusedVariables false

/-- 4 bytes of a number, the lowest first. -/
def enc4 (n : Nat) : List UInt8 := [UInt8.ofNat (n % 256), UInt8.ofNat (n / 256 % 256), UInt8.ofNat (n / 65536 % 256), UInt8.ofNat (n / 16777216 % 256)]
def dec4 : List UInt8 → Nat
  | a :: b :: c :: d :: _ => a.toNat + 256 * b.toNat + 65536 * c.toNat + 16777216 * d.toNat
  | _ => 0
theorem enc4_length (n : Nat) : (enc4 n).length = 4 := rfl
theorem dec4_enc4 (n : Nat) (r : List UInt8) (h : n < 4294967296) : dec4 (enc4 n ++ r) = n := by
  simp only [enc4, List.cons_append, dec4, UInt8.toNat_ofNat']
  omega
theorem dec4_lt (l : List UInt8) : dec4 l < 4294967296 := by
  match l with
  | a :: b :: c :: d :: _ =>
    have := a.toNat_lt; have := b.toNat_lt; have := c.toNat_lt; have := d.toNat_lt
    simp only [dec4]; omega
  | [] | [_] | [_, _] | [_, _, _] => simp [dec4]
theorem four {l : List UInt8} (h : 4 ≤ l.length) : ∃ a b c d r, l = a :: b :: c :: d :: r := by
  match l, h with
  | a :: b :: c :: d :: r, _ => exact ⟨a, b, c, d, r, rfl⟩

theorem bv4 (n : Nat) : (#[Value.int .u8 ((n : Int) % 256), .int .u8 ((n : Int) / 256 % 256), .int .u8 ((n : Int) / 65536 % 256), .int .u8 ((n : Int) / 16777216 % 256)] : Array Value) = (bv (enc4 n)).toArray := by
  simp [bv, enc4]

set_option maxHeartbeats 400000 in
theorem ref_four (n : Nat) (w : World) (hn : n < 4611686018427387904) :
    Calls Try.prog 24 #[.int .i64 n] w fun e w' => ∃ v', e = .returned v' ∧ OwnB w' w.heap.size v' (enc4 n) ∧ Below w.heap.size w w' := by
  have hI : (n : Int) < 4611686018427387904 := by omega
  clear hn
  go_enter Try.func24, Try.ntmps24
  go_wp2
  go_ret
  exact ⟨_, rfl, own_new w _ _ 4 (bv4 n) rfl (by simp [enc4]), alloc_below w _⟩

set_option maxHeartbeats 1000000 in
theorem ref_num (B : Nat) (v : Value) (l : List UInt8) (w : World) (h : RdB w B v l) (h4 : 4 ≤ l.length) :
    Calls Try.prog 32 #[v] w fun e w' => e = .returned (.int .i64 (dec4 l)) ∧ Below w.heap.size w w' := by
  obtain ⟨a, b, c, d, r, rfl⟩ := four h4
  obtain ⟨A, k, rfl, hlk, hk, hcell⟩ := h
  obtain ⟨bb, o, rfl, hb, hcell⟩ := hcell (by simp)
  have c0 := hcell 0 a rfl
  have c1 := hcell 1 b rfl
  have c2 := hcell 2 c rfl
  have c3 := hcell 3 d rfl
  rw [Nat.add_zero] at c0
  have l0 := a.toNat_lt
  have l1 := b.toNat_lt
  have l2 := c.toNat_lt
  have l3 := d.toNat_lt
  have hlen : (4 : Int) ≤ ((a :: b :: c :: d :: r).length : Int) := by omega
  generalize (a :: b :: c :: d :: r).length = L at *
  clear hcell
  have i0 : (0 : Int) < (L : Int) := by omega
  have i1 : (1 : Int) < (L : Int) := by omega
  have i2 : (2 : Int) < (L : Int) := by omega
  have i3 : (3 : Int) < (L : Int) := by omega
  go_enter Try.func32, Try.ntmps32
  go_wp2_with fail
  go_quiet (fail)
  go_wp2_with fail
  go_ret
  exact ⟨ret_int (by simp [dec4]), (Below.refl _ _).drewN _⟩
end Go.Proofs.Ytdpjohehmbddnaa
