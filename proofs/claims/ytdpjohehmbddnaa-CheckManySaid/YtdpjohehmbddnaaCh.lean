/- Layer 3: the program's first frame, whether it has its sum, frames put, the example. -/
import Derived.Test.YtdpjohehmbddnaaCg
import Derived.Test.YtdpjohehmbddnaaCd
import Derived.Lib.SlBytesConst
namespace Go.Proofs.Ytdpjohehmbddnaa
open Go.RowKit
set_option linter.unusedVariables false

/-- 'v[:m]', and that it lies in the same block. -/
theorem sl_head_own {w : World} {B : Nat} {v : Value} {l : List UInt8} (h : RdB w B v l) (m : Nat) (z : Int) (hz : z = (m : Int)) (hm : m ≤ l.length) :
    ∃ A c, (∀ W, (Instr.slice 22 v none (some (.int .i64 z)) none).run Try.prog W = .ok (.slice A m c) W) ∧ RdB w B (.slice A m c) (l.take m) := sl_head h m z hz hm

/-- Whether a whole frame stands at the beginning. -/
def whole (l : List UInt8) : Bool := decide (8 ≤ l.length ∧ 8 + dec4 l ≤ l.length)

set_option maxHeartbeats 1000000 in
theorem chk_first_d (B : Nat) (v : Value) (l : List UInt8) (w : World) (h : RdB w B v l) (hl : l.length ≤ 1000000000) :
    Calls Try.prog 29 #[v] w fun e w' => ∃ v', e = .returned (.tuple #[v', .bool (whole l)]) ∧ RdB w B v' (if whole l then l.take (8 + dec4 l) else []) ∧ ∃ q, w' = w.drewN q := by
  have HW := Lib.hid h
  by_cases h8 : l.length < 8
  · have hw : whole l = false := by simp [whole]; omega
    rw [hw]
    obtain ⟨A, c, rfl, -⟩ := h
    go_enter Try.func29, Try.ntmps29
    go_wp2
    go_ret2
    exact ⟨_, rfl, RdB.nil _ _, 0, rfl⟩
  · have hd := dec4_lt l
    by_cases hn : l.length < 8 + dec4 l
    · have hw : whole l = false := by simp [whole]; omega
      rw [hw]
      have hword := Lib.hid (chk_word _ v l w h (by omega))
      obtain ⟨A, c, rfl, -⟩ := h
      generalize dec4 l = n at *
      go_enter Try.func29, Try.ntmps29
      go_wp2_with fail
      refine hword.out.mono ?_
      rintro e w1 ⟨rfl, q1, rfl⟩
      go_wp2_with fail
      go_ret2
      exact ⟨_, rfl, RdB.nil _ _, q1, rfl⟩
    · have hw : whole l = true := by simp [whole]; omega
      rw [hw]
      have hword := Lib.hid (chk_word _ v l w h (by omega))
      obtain ⟨A2, c2, hs2, hr2⟩ := sl_head h (8 + dec4 l) ((8 : Int) + dec4 l) (by omega) (by omega)
      have R2 := Lib.hid hr2
      obtain ⟨A, c, rfl, -⟩ := h
      clear hr2
      generalize dec4 l = n at *
      go_enter Try.func29, Try.ntmps29
      go_wp2_with fail
      refine hword.out.mono ?_
      rintro e w1 ⟨rfl, q1, rfl⟩
      go_wp2_with fail
      go_ret2
      exact ⟨_, rfl, R2.out, q1, rfl⟩

theorem chk_first (v : Value) (l : List UInt8) (w : World) (h : RdB w w.heap.size v l) (hl : l.length ≤ 1000000000) :
    Calls Try.prog 29 #[v] w fun e w' => ∃ v', e = .returned (.tuple #[v', .bool (whole l)]) ∧ RdB w w.heap.size v' (if whole l then l.take (8 + dec4 l) else []) ∧ Below w.heap.size w w' :=
  (chk_first_d _ v l w h hl).mono fun e w' ⟨v', h1, h2, q, h3⟩ => ⟨v', h1, h2, by rw [h3]; exact (Below.refl _ _).drewN _⟩

/-- Whether a frame has its sum. -/
def summed (l : List UInt8) : Bool := decide (dec4 (l.drop 4) = crcN (l.drop 8))

set_option maxHeartbeats 1000000 in
theorem chk_summed_d (B : Nat) (v : Value) (l : List UInt8) (w : World) (h : RdB w B v l) (h8 : 8 ≤ l.length) :
    Calls Try.prog 30 #[v] w fun e w' => e = .returned (.bool (summed l)) ∧ ∃ q, w' = w.drewN q := by
  have HW := Lib.hid h
  obtain ⟨A2, c2, hs2, hr2⟩ := sl_tail h 4 4 rfl (by omega)
  have hword := Lib.hid (chk_word _ _ (l.drop 4) w hr2 (by rw [List.length_drop]; omega))
  have hd := dec4_lt (l.drop 4)
  have hc := crcN_lt (l.drop 8)
  have hsm : ((dec4 (l.drop 4) : Int) == (crcN (l.drop 8) : Int)) = summed l := by
    unfold summed
    by_cases h : dec4 (l.drop 4) = crcN (l.drop 8)
    · simp [h]
    · have : (dec4 (l.drop 4) : Int) ≠ (crcN (l.drop 8) : Int) := by omega
      simp [h, this]
  have SM := Lib.hid hsm
  obtain ⟨A, c, rfl, -⟩ := h
  clear hr2 hsm
  generalize dec4 (l.drop 4) = n at *
  go_enter Try.func30, Try.ntmps30
  go_wp2_with fail
  refine hword.out.mono ?_
  rintro e w1 ⟨rfl, q1, rfl⟩
  go_wp2_with fail
  refine (chk_body _ _ l _ (HW.out.drewN q1) h8).mono ?_
  rintro e w2 ⟨A3, c3, rfl, hr3, rfl⟩
  have R3 := Lib.hid hr3
  clear hr3
  go_wp2_with fail
  have hln : l.length - 8 = (l.drop 8).length := by rw [List.length_drop]
  refine (chk_sum _ _ (l.drop 8) _ R3.out).mono ?_
  rintro e w3 ⟨rfl, rfl⟩
  clear hln
  generalize crcN (l.drop 8) = m at *
  go_wp2_with fail
  go_ret
  exact ⟨ret_bool SM.out, q1, rfl⟩

theorem chk_summed (v : Value) (l : List UInt8) (w : World) (h : RdB w w.heap.size v l) (h8 : 8 ≤ l.length) :
    Calls Try.prog 30 #[v] w fun e w' => e = .returned (.bool (summed l)) ∧ Below w.heap.size w w' :=
  (chk_summed_d _ v l w h h8).mono fun e w' ⟨h1, q, h3⟩ => ⟨h1, by rw [h3]; exact (Below.refl _ _).drewN _⟩

theorem rd_marked (w : World) (l : List UInt8) (cs : Array Value) (p : Nat × Nat) (h : cs = (bv l).toArray) (hl : l.length ≤ 1099511627776) :
    RdB (w.alloc (.cells cs 5 p)) (w.heap.size + 1) (.slice (some ⟨w.heap.size, 0, none⟩) l.length l.length) l := by
  subst h
  refine ⟨_, l.length, rfl, Nat.le_refl _, by omega, fun _ => ⟨_, _, rfl, by omega, fun k u hk => ?_⟩⟩
  rw [cell_of_row _ _ _ _ _ p (heap_alloc_new w _)]
  simp [bv, hk]

set_option maxHeartbeats 400000 in
theorem lives_any (w : World) : Calls Try.prog 15 #[] w fun e w' => e = .returned (.bool true) ∧ Below w.heap.size w w' := by
  have hx : crcN [49, 50, 51, 52, 53, 54, 55, 56, 57] = 3421780262 := by decide +kernel
  have kc := fun (w : World) (C : Array Value) (n c : Nat) => Lib.run_convert_bytes_const (P := Try.prog) w 22 5 C n c Try.underlying22 Try.underlying5
  have hn := Lib.hid (rd_marked w [49, 50, 51, 52, 53, 54, 55, 56, 57] _ (9, 10) rfl (by simp))
  go_enter Try.func15, Try.ntmps15
  go_wp2_with fail
  refine (chk_sum _ _ [49, 50, 51, 52, 53, 54, 55, 56, 57] _ hn.out).mono ?_
  rintro e w1 ⟨rfl, rfl⟩
  rw [hx]
  go_wp2_with fail
  go_ret
  exact ⟨rfl, alloc_below w _⟩
end Go.Proofs.Ytdpjohehmbddnaa
