/- Layer 1: a number's bytes, read. -/
import Derived.Test.YtnapadpkfjpklaaOr
import Derived.Test.YtnapadpkfjpklaaOi
import Derived.Test.YtnapadpkfjpklaaOn
namespace Go.Proofs.Ytnapadpkfjpklaa
open Go.RowKit
set_option linter.unusedVariables false

/-- The number of bytes, the highest first. -/
def natOf (l : List UInt8) : Nat := l.foldl (fun n c => 256 * n + c.toNat) 0
theorem natOf_snoc (l : List UInt8) (c : UInt8) : natOf (l ++ [c]) = 256 * natOf l + c.toNat := by simp [natOf]
theorem natOf_lt (l : List UInt8) : natOf l < 256 ^ l.length := by
  have key : ∀ (k : Nat) (l : List UInt8), l.length = k → natOf l < 256 ^ k := by
    intro k
    induction k with
    | zero => intro l h; have : l = [] := List.eq_nil_of_length_eq_zero h; subst this; simp [natOf]
    | succ k ih =>
      intro l h
      have hne : l ≠ [] := by rintro rfl; simp at h
      rw [← List.dropLast_concat_getLast hne, natOf_snoc]
      have h1 := ih l.dropLast (by simp [h])
      have h2 := (l.getLast hne).toNat_lt
      rw [Nat.pow_succ]
      omega
  exact key _ l rfl

theorem u8_size (w : World) : (Go.sizeOf 5).run Try.prog w = .ok 1 w := by kernel_rfl

/-- 'v[k:]': what it is, in whatever world, and that it reads so. -/
theorem sl_tail {w : World} {B : Nat} {v : Value} {l : List UInt8} (h : RdB w B v l) (k : Nat) (z : Int) (hz : z = (k : Int)) (hk : k ≤ l.length) :
    ∃ A c, (∀ W, (Instr.slice 24 v (some (.int .i64 z)) none none).run Try.prog W = .ok (.slice A (l.length - k) c) W) ∧ RdB w B (.slice A (l.length - k) c) (l.drop k) := by
  subst hz
  obtain ⟨A, c, rfl, h1, h2, h3⟩ := h
  have ht : Try.prog.underlying 24 = some (.slice (Try.prog.elem 24)) := by simp [Program.elem, Try.underlying24]
  have he : Try.prog.elem 24 = 5 := by simp [Program.elem, Try.underlying24]
  refine ⟨if c = k then A else A.map (·.add k), c - k, fun W => ?_, ⟨_, c - k, by rw [List.length_drop], by rw [List.length_drop]; omega, by omega, fun hp => ?_⟩⟩
  · rw [run_slice_l W _ _ _ _ ht _ _ (by omega) (by omega), he, u8_size]
    simp [Result.andThen, sliced]
  · rw [List.length_drop] at hp
    obtain ⟨b, o, rfl, hb, hc⟩ := h3 (by omega)
    refine ⟨b, o + k, ?_, hb, fun j u hu => ?_⟩
    · rw [if_neg (by omega)]; simp [addr_plain]
    · rw [Nat.add_assoc]
      exact hc (k + j) u (by rw [List.getElem?_drop] at hu; exact hu)

theorem or_add (u c : Nat) (hu : u < 72057594037927936) (hc : c < 256) : bits .or .u64 (IntKind.u64.wrap ((u : Int) * 256)) (IntKind.u64.wrap (c : Int)) = ((256 * u + c : Nat) : Int) := by
  rw [IntKind.wrap_u64, IntKind.wrap_u64, show ((u : Int) * 256) % 18446744073709551616 = ((256 * u : Nat) : Int) from by omega, show (c : Int) % 18446744073709551616 = ((c : Nat) : Int) from by omega,
    u64_or_nat _ _ (by omega) (by omega)]
  have := Nat.two_pow_add_eq_or_of_lt (i := 8) (b := c) hc u
  rw [show (2 : Nat) ^ 8 = 256 from rfl] at this
  rw [this]

theorem dec_wrap (u : Nat) (hu : u < 18446744073709551616) : wrap64 (bits .xor .u64 (u : Int) 9223372036854775808) = (u : Int) - 9223372036854775808 := by
  have h := xor_up ((u : Int) - 9223372036854775808) (by omega) (by omega)
  rw [show (9223372036854775808 : Int) = ((9223372036854775808 : Nat) : Int) from rfl, u64_xor_nat _ _ hu (by omega), show (9223372036854775808 : Nat) = 2 ^ 63 from rfl]
  by_cases h63 : u < 2 ^ 63
  · rw [xor_hi _ h63]; unfold wrap64; omega
  · obtain ⟨a, rfl⟩ : ∃ a, u = a + 2 ^ 63 := ⟨u - 2 ^ 63, by omega⟩
    rw [xor_lo _ (by omega)]; unfold wrap64; omega

set_option maxHeartbeats 400000 in
theorem read_number_short (B : Nat) (v : Value) (l : List UInt8) (w : World) (h : RdB w B v l) (h8 : l.length < 8) :
    Calls Try.prog 36 #[v] w fun e w' => e = .returned (.tuple #[.int .i64 0, .slice none 0 0, .int .i64 3]) ∧ w = w' := by
  obtain ⟨A, c, rfl, hlc, hc, -⟩ := h
  go_enter Try.func36, Try.ntmps36
  go_wp2
  go_ret3
  exact ⟨rfl, rfl⟩

set_option maxHeartbeats 400000 in
theorem read_number (B : Nat) (v : Value) (l : List UInt8) (w : World) (h : RdB w B v l) (h8 : 8 ≤ l.length) :
    Calls Try.prog 36 #[v] w fun e w' => ∃ v', e = .returned (.tuple #[.int .i64 (decNum (l.take 8)), v', .int .i64 0]) ∧ RdB w' B v' (l.drop 8) ∧ Below w.heap.size w w' := by
  have H := Lib.hid h
  obtain ⟨A, c, rfl, hlc, hc, hcell⟩ := h
  obtain ⟨b, o, rfl, hb, hcell⟩ := hcell (by omega)
  have HC := Lib.hid hcell
  clear hcell
  go_enter Try.func36, Try.ntmps36
  go_wp2
  go_loop [5, 14] (fun u i => ∃ k : Nat, k ≤ 8 ∧ i = .int .i64 k ∧ u = .int .u64 (natOf (l.take k))) (fun _ i => 8 - (intOf i).toNat)
  case atStart => exact ⟨0, Nat.zero_le _, rfl, rfl⟩
  case round =>
    obtain ⟨k, hk, rfl, rfl⟩ := hrel
    by_cases hlt : k < 8
    · have hkl : k < l.length := by omega
      have c1 := HC.out k l[k] (List.getElem?_eq_getElem hkl)
      have hsn := Lib.hid (show l.take (k + 1) = l.take k ++ [l[k]] from List.take_succ_eq_append_getElem hkl)
      have hn := Lib.hid (natOf_lt (l.take k))
      go_wp2
      go_round
      case rel =>
        refine ⟨k + 1, by omega, by go_num, ?_⟩
        have h1 := hn.out
        rw [List.length_take, Nat.min_eq_left (by omega)] at h1
        have h2 : 256 ^ k ≤ 256 ^ 7 := Nat.pow_le_pow_right (by omega) (by omega)
        rw [or_add _ _ (by omega) (l[k].toNat_lt), hsn.out, natOf_snoc]
      case measure => simp [intOf]; omega
    · have hk8 : k = 8 := by omega
      subst hk8
      have hn := natOf_lt (l.take 8)
      rw [List.length_take, Nat.min_eq_left (by omega)] at hn
      have hd : wrap64 (bits .xor .u64 (natOf (l.take 8) : Int) 9223372036854775808) = decNum (l.take 8) := by
        rw [dec_wrap _ (by omega)]; rfl
      have HD := Lib.hid hd
      obtain ⟨A2, c2, hsl, hr2⟩ := sl_tail H.out 8 8 rfl h8
      have HR := Lib.hid hr2
      clear hn hd hr2
      go_wp2
      go_quiet (fail)
      go_wp2
      go_ret3
      exact ⟨_, by rw [HD.out]; rfl, HR.out, (Below.refl _ _).drewN _⟩
end Go.Proofs.Ytnapadpkfjpklaa
