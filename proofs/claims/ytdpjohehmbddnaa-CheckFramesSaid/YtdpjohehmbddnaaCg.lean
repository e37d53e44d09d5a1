/- Layer 3: a word, put and read; a frame's body; few; a copy. -/
import Derived.Test.YtdpjohehmbddnaaCc
import Derived.Test.YtdpjohehmbddnaaCf
namespace Go.Proofs.Ytdpjohehmbddnaa
open Go.RowKit
set_option linter.unusedVariables false

theorem RdB.drewN {w : World} {B : Nat} {v : Value} {l : List UInt8} (h : RdB w B v l) (n : Nat) : RdB (w.drewN n) B v l := h
theorem wraps_i64 (n : Int) (h₀ : 0 ≤ n) (h₁ : n < 2 ^ 62) : IntKind.i64.wrap n = n := by rw [IntKind.wrap_i64]; omega
theorem or_join (i : Nat) (x y : Int) (hx₀ : 0 ≤ x) (hx : x % 2 ^ i = 0) (hx₁ : x < 2 ^ 62) (hy₀ : 0 ≤ y) (hy : y < 2 ^ i) (hy₁ : y < 2 ^ 62) : bits .or .i64 y x = y + x := by
  have h1 := bits_join .i64 62 (by decide) wraps_i64 i x y hx₀ hx hx₁ hy₀ hy hy₁
  obtain ⟨a, rfl⟩ := Int.eq_ofNat_of_zero_le hx₀
  obtain ⟨b, rfl⟩ := Int.eq_ofNat_of_zero_le hy₀
  have ha : a < 2 ^ 62 := by exact_mod_cast hx₁
  have hb : b < 2 ^ 62 := by exact_mod_cast hy₁
  rw [(bits_nat .i64 62 (by decide) wraps_i64 _ _ hb ha).2, Nat.or_comm, ← (bits_nat .i64 62 (by decide) wraps_i64 _ _ ha hb).2, h1, Int.add_comm]

set_option maxHeartbeats 1000000 in
theorem chk_word (B : Nat) (v : Value) (l : List UInt8) (w : World) (h : RdB w B v l) (h4 : 4 ≤ l.length) :
    Calls Try.prog 33 #[v] w fun e w' => e = .returned (.int .i64 (dec4 l)) ∧ ∃ q, w' = w.drewN q := by
  obtain ⟨a, b, c, d, r, rfl⟩ := four h4
  obtain ⟨A, k, rfl, hlk, hk, hcell⟩ := h
  obtain ⟨bb, o, rfl, hb, hcell⟩ := hcell (by simp)
  have c0 := hcell 0 a rfl
  have c1 := hcell 1 b rfl
  have c2 := hcell 2 c rfl
  have c3 := hcell 3 d rfl
  rw [Nat.add_zero] at c0
  have l0 := a.toNat_lt
  have l1 := b.toNat_lt
  have l2 := c.toNat_lt
  have l3 := d.toNat_lt
  have hlen : (4 : Int) ≤ ((a :: b :: c :: d :: r).length : Int) := by omega
  generalize (a :: b :: c :: d :: r).length = L at *
  clear hcell
  have i0 : (0 : Int) < (L : Int) := by omega
  have i1 : (1 : Int) < (L : Int) := by omega
  have i2 : (2 : Int) < (L : Int) := by omega
  have i3 : (3 : Int) < (L : Int) := by omega
  go_enter Try.func33, Try.ntmps33
  go_wp2_with fail
  go_quiet (fail)
  go_wp2_with fail
  go_ret
  refine ⟨ret_int ?_, _, rfl⟩
  have e1 := or_join 8 ((b.toNat : Int) * 256) a.toNat (by omega) (by omega) (by omega) (by omega) (by omega) (by omega)
  have e2 := or_join 16 ((c.toNat : Int) * 65536) (a.toNat + (b.toNat : Int) * 256) (by omega) (by omega) (by omega) (by omega) (by omega) (by omega)
  have e3 := or_join 24 ((d.toNat : Int) * 16777216) (a.toNat + (b.toNat : Int) * 256 + (c.toNat : Int) * 65536) (by omega) (by omega) (by omega) (by omega) (by omega) (by omega)
  rw [e1, e2, e3]
  simp only [dec4]; omega

set_option maxHeartbeats 400000 in
theorem put_word (base : Nat) (v : Value) (l : List UInt8) (n : Nat) (w : World) (h : OwnB w base v l) (hb : base ≤ w.heap.size) (hl : l.length ≤ 549755813888) (hn : n < 4611686018427387904) :
    Calls Try.prog 23 #[v, .int .i64 n] w fun e w' => ∃ v', e = .returned v' ∧ OwnB w' base v' (l ++ enc4 n) ∧ Below base w w' := by
  have hI : (n : Int) < 4611686018427387904 := by omega
  have HO := Lib.hid h
  clear hn h
  go_enter Try.func23, Try.ntmps23
  go_wp2_with (at_builtin; refine wpl_app rfl (.tmp 5) (.tmp 17) rfl base _ l (enc4 n) _ _ _ ?_ rfl rfl rfl HO.out ?_ ?_ ?_; rotate_left 3; intro v1 w1 ho1 hg1 hs1)
  · go_ret
    exact ⟨v1, rfl, ho1, hg1.below hb (OwnB.base HO.out)⟩
  · exact bv4 n
  · exact hb
  · simp [enc4]; omega

set_option maxHeartbeats 400000 in
theorem chk_body (B : Nat) (v : Value) (l : List UInt8) (w : World) (h : RdB w B v l) (h8 : 8 ≤ l.length) :
    Calls Try.prog 27 #[v] w fun e w' => ∃ A c, e = .returned (.slice A (l.length - 8) c) ∧ RdB w B (.slice A (l.length - 8) c) (l.drop 8) ∧ w = w' := by
  obtain ⟨A, c, h2, h3⟩ := sl_tail h 8 8 rfl h8
  have H3 := Lib.hid h3
  obtain ⟨A0, c0, rfl, -⟩ := h
  clear h3
  go_enter Try.func27, Try.ntmps27
  go_wp2
  go_ret
  exact ⟨_, _, rfl, H3.out, rfl⟩

set_option maxHeartbeats 400000 in
theorem clone_any (v : Value) (l : List UInt8) (w : World) (h : RdB w w.heap.size v l) (hl : l.length ≤ 549755813888) :
    Calls Try.prog 26 #[v] w fun e w' => ∃ v', e = .returned v' ∧ OwnB w' w.heap.size v' l ∧ Below w.heap.size w w' := by
  have H := Lib.hid h
  obtain ⟨A, c, rfl, hlc, hc, h3⟩ := h
  have hq := fun W => Lib.run_eql_slice_nil (P := Try.prog) W 22 5 A l.length c 0 0 Try.underlying22
  cases A with
  | none =>
    have h0 : l.length = 0 := by
      rcases Nat.eq_zero_or_pos l.length with h0 | h0
      · exact h0
      · obtain ⟨b, o, e, _⟩ := h3 h0; cases e
    have h1 := Lib.hid (List.eq_nil_of_length_eq_zero h0)
    clear h3 h0
    go_enter Try.func26, Try.ntmps26
    go_wp2
    go_ret
    refine ⟨_, rfl, ?_, by go_grown⟩
    rw [h1.out]; exact OwnB.nil _ _
  | some p =>
    clear h3
    have H2 := Lib.hid ((H.out.on (alloc_below w (.cells #[] 5))))
    go_enter Try.func26, Try.ntmps26
    go_wp2_with (at_builtin; refine wpl_app_bytes rfl (.tmp 5) (.tmp 6) rfl w.heap.size _ _ _ [] l rfl rfl (own_new w _ [] 0 rfl rfl (by simp)) H2.out ?_ ?_ ?_; rotate_left 2; intro v1 w1 ho1 hg1 hs1)
    · go_ret
      exact ⟨v1, rfl, ho1, (alloc_below w _).trans (hg1.below (by simp) (OwnB.base (own_new w _ [] 0 rfl rfl (by simp))))⟩
    all_goals first | omega | (simp; done) | (simp; omega)

set_option maxHeartbeats 400000 in
theorem few_any (B : Nat) (v : Value) (l : List UInt8) (m : Nat) (z : Int) (hz : z = (m : Int)) (w : World) (h : RdB w B v l) (hm : m ≤ 1000000) :
    Calls Try.prog 10 #[v, .int .i64 z] w fun e w' => ∃ v', e = .returned v' ∧ RdB w B v' (l.take m) ∧ w = w' := by
  subst hz
  have H := Lib.hid h
  by_cases h1 : m < l.length
  · obtain ⟨A, c, h2, h3⟩ := sl_head h m m rfl (by omega)
    have H3 := Lib.hid h3
    obtain ⟨A0, c0, rfl, -⟩ := h
    clear h3
    go_enter Try.func10, Try.ntmps10
    go_wp2
    go_ret
    exact ⟨_, rfl, H3.out, rfl⟩
  · have H3 := Lib.hid (show l.take m = l from List.take_of_length_le (by omega))
    obtain ⟨A0, c0, rfl, -⟩ := h
    go_enter Try.func10, Try.ntmps10
    go_wp2
    go_ret
    refine ⟨_, rfl, ?_, rfl⟩
    rw [H3.out]
    exact H.out
end Go.Proofs.Ytdpjohehmbddnaa
