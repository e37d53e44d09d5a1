/- Layer 2: a number's bytes, and a text's, as the document's answer makes them. -/
import Derived.Test.YtmchiebpijnpiaaVa
namespace Go.Proofs.Ytmchiebpijnpiaa
open Go.RowKit
set_option linter.unusedVariables false

set_option maxHeartbeats 400000 in
set_option maxRecDepth 100000 in
theorem ref_put_nat (n : Nat) : ∀ (w : World), n < 9223372036854775808 →
    Calls Try.prog 40 #[.int .i64 n] w fun e w' => ∃ v', e = .returned v' ∧ OwnB w' w.heap.size v' (encN n) ∧ Below w.heap.size w w' := by
  induction n using Nat.strongRecOn with
  | ind n ih =>
    intro w hn
    by_cases h128 : n < 128
    · have HE := Lib.hid (encN_lt h128)
      go_enter Try.func40, Try.ntmps40
      go_wp2
      go_ret
      rw [HE.out]
      exact ⟨_, rfl, own_new w _ _ 1 (one_bv _ _ (by omega) rfl) rfl (by simp), alloc_below w _⟩
    · have HE := Lib.hid (encN_ge h128)
      have IH := Lib.hid (fun w => ih (n / 128) (by omega) w (by omega))
      have hlen := encN_nine (n / 128) (by omega)
      have HL := Lib.hid hlen
      clear ih hlen
      go_enter Try.func40, Try.ntmps40
      go_wp2_with (first
        | (go_at_call 40; refine (IH.out _).mono ?_; rintro e w1 ⟨v1, rfl, ho1, hb1⟩)
        | (at_builtin; refine wpl_app_bytes_b rfl (.tmp 16) (.tmp 19) rfl w.heap.size _ _ _ [UInt8.ofNat (n % 128 + 128)] (encN (n / 128)) rfl rfl (OwnB.on (own_new w _ _ 1 (one_bv _ _ (by omega) (by omega)) rfl (by simp)) hb1) ho1.rd ?_ ?_ ?_; rotate_left 2; intro v2 w2 ho2 hb2))
      · go_ret
        rw [HE.out]
        exact ⟨v2, rfl, ho2, ((alloc_below w _).trans (hb1.mono (by simp))).trans hb2⟩
      · have := hb1.size; simp at this; omega
      · have := HL.out; simp; omega

set_option maxHeartbeats 400000 in
theorem ref_put (n : Int) (w : World) (hn : n ≤ 9223372036854775807) :
    Calls Try.prog 40 #[.int .i64 n] w fun e w' => ∃ v', e = .returned v' ∧ OwnB w' w.heap.size v' (encN n.toNat) ∧ Below w.heap.size w w' := by
  by_cases h0 : 0 ≤ n
  · obtain ⟨k, rfl⟩ := Int.eq_ofNat_of_zero_le h0
    exact ref_put_nat k w (by omega)
  · have he : n.toNat = 0 := by omega
    rw [he, encN_lt (by omega)]
    clear he
    go_enter Try.func40, Try.ntmps40
    go_wp2
    go_ret
    exact ⟨_, rfl, own_new w _ _ 1 (one_bv _ 0 (by omega) (by simp)) rfl (by simp), alloc_below w _⟩

/-- A text's length, and it. -/
def encT (s : ByteArray) : List UInt8 := encN s.size ++ s.data.toList

set_option maxHeartbeats 400000 in
theorem ref_text (s : ByteArray) (w : World) (hs : s.size ≤ 137438953472) :
    Calls Try.prog 41 #[.string s] w fun e w' => ∃ v', e = .returned v' ∧ OwnB w' w.heap.size v' (encT s) ∧ Below w.heap.size w w' := by
  have HL := Lib.hid (encN_nine s.size (by omega))
  go_enter Try.func41, Try.ntmps41
  go_wp2_with (first
    | (go_at_call 40; refine (ref_put_nat s.size _ (by omega)).mono ?_; rintro e w1 ⟨v1, rfl, ho1, hb1⟩)
    | (at_builtin; refine wpl_app_str rfl (.tmp 5) (.tmp 6) rfl w.heap.size _ (encN s.size) s rfl rfl ho1 ?_ ?_ ?_; rotate_left 2; intro v2 w2 ho2 hb2))
  · go_ret
    exact ⟨v2, rfl, ho2, hb1.trans hb2⟩
  · exact hb1.size
  · have := HL.out; omega
end Go.Proofs.Ytmchiebpijnpiaa
