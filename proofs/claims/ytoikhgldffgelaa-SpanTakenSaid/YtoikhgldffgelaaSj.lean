/- Layer 4: pieces that others make, by the document's answer. -/
import Derived.Test.YtoikhgldffgelaaSh
namespace Go.Proofs.Ytoikhgldffgelaa
open Go.RowKit
set_option linter.unusedVariables false

def madeK (l : List Pc) (k : Nat) : List Pc := (l.take k).foldl (fun o p => overF o (cutP p)) []
theorem made_snoc (l : List Pc) (k : Nat) (h : k < l.length) : madeK l (k + 1) = overF (madeK l k) (cutP l[k]) := by
  unfold madeK; rw [List.take_succ_eq_append_getElem h, List.foldl_append]; rfl
theorem made_small (l : List Pc) (k : Nat) : k ≤ 8 → (madeK l k).length ≤ 255 := by
  have : ∀ (k : Nat) (m : List Pc) (o : List Pc), m.length ≤ k → (m.foldl (fun o p => overF o (cutP p)) o).length + 1 ≤ 2 ^ k * (o.length + 1) := by
    intro k
    induction k with
    | zero => intro m o h; have : m = [] := List.eq_nil_of_length_eq_zero (by omega); subst this; simp
    | succ k ih =>
      intro m o h
      cases m with
      | nil =>
        have : 0 < 2 ^ (k + 1) := Nat.two_pow_pos _
        have := Nat.mul_le_mul_right (o.length + 1) this
        simp at this ⊢; omega
      | cons p m =>
        have h1 := ih m (overF o (cutP p)) (by simpa using h)
        have h2 := over_len o (cutP p)
        have h3 := Nat.mul_le_mul_left (2 ^ k) (show (overF o (cutP p)).length + 1 ≤ 2 * (o.length + 1) from by omega)
        rw [← Nat.mul_assoc, ← Nat.pow_succ, Nat.succ_eq_add_one] at h3
        rw [List.foldl_cons]
        omega
  intro h
  have h1 := this k (l.take k) [] (by rw [List.length_take]; omega)
  have h2 := Nat.pow_le_pow_right (show 0 < 2 from by omega) h
  simp only [List.length_nil] at h1
  unfold madeK
  omega

set_option maxHeartbeats 4000000 in
theorem ref_made1 (v : Value) (l : List Pc) (w : World) (h : RdPc w w.heap.size v l) :
    Calls Try.prog 20 #[v] w fun e w' => ∃ v', e = .returned v' ∧ OwnPc w' w.heap.size v' (madeF l) ∧ Below w.heap.size w w' := by
  have H := Lib.hid h
  obtain ⟨A, c, rfl, hlc, hc, -⟩ := h
  go_enter Try.func20, Try.ntmps20
  go_wp2_with fail
  go_loopw [3, 4] (fun x i wr => ∃ k : Nat, i = .int .i64 k ∧ k ≤ l.length ∧ k ≤ 8 ∧ OwnPc wr w.heap.size x (madeK l k) ∧ Below w.heap.size w wr) (fun _ i _ => l.length - (intOf i).toNat)
  case atStart => exact ⟨0, rfl, by omega, by omega, OwnX.nil _ _, Below.refl _ _⟩
  case round =>
    obtain ⟨k, rfl, hk, hk8, ho, hb⟩ := hrel
    have O := Lib.hid ho
    have G := Lib.hid hb
    clear ho hb
    by_cases hlt : k < l.length
    · by_cases h8 : k < 8
      · obtain ⟨ba, oa, rfl, hba, c0, c1, c2⟩ := RdPc.here (H.out.below G.out) k hlt
        have MS := Lib.hid (made_snoc l k hlt)
        have hol := made_small l k (by omega)
        generalize madeK l k = o at *
        generalize l[k] = p at *
        obtain ⟨⟨p1, p2⟩, p3⟩ := p
        have HC := Lib.hid (ref_cut ((p1, p2), p3) wr)
        unfold pcV at HC
        go_wp2_with fail
        refine HC.out.mono ?_
        rintro e w1 ⟨rfl, hb1⟩
        have hov := ref_over1 u3 o (cutP ((p1, p2), p3)) w1 (O.out.on hb1).rd (by omega)
        have O1 := Lib.hid (O.out.on hb1)
        generalize cutP ((p1, p2), p3) = q at *
        unfold pcV at hov
        have HOV := Lib.hid hov
        have G1 := Lib.hid (G.out.trans (hb1.mono G.out.size))
        clear hov hb1
        go_wp2_with fail
        refine HOV.out.mono ?_
        rintro e w2 ⟨v2, rfl, -, hb2, hv2⟩
        have OV := Lib.hid (show OwnPc w2 w.heap.size v2 (overF o q) from by
          rcases hv2 with ⟨rfl, e2⟩ | h2
          · rw [e2]; exact O1.out.on hb2
          · exact h2.mono G1.out.size)
        clear hv2
        go_wp2_with fail
        go_roundw
        case rel => exact ⟨k + 1, by go_num, by omega, by omega, by rw [MS.out]; exact OV.out, G1.out.trans (hb2.mono G1.out.size)⟩
        case measure => simp [intOf]; omega
      · have hke : madeK l k = madeF l := by have : k = 8 := by omega
                                             subst this; rfl
        have O1 := Lib.hid (show OwnPc wr w.heap.size u3 (madeF l) from by have := O.out; rw [hke] at this; exact this)
        clear hke
        go_wp2_with fail
        go_ret
        exact ⟨_, rfl, O1.out, G.out⟩
    · have hke : madeK l k = madeF l := by unfold madeK madeF; rw [List.take_of_length_le (by omega), List.take_of_length_le (show l.length ≤ 8 from by omega)]
      have O1 := Lib.hid (show OwnPc wr w.heap.size u3 (madeF l) from by have := O.out; rw [hke] at this; exact this)
      clear hke
      go_wp2_with fail
      go_ret
      exact ⟨_, rfl, O1.out, G.out⟩
theorem ref_made (v : Value) (l : List Pc) (w : World) (h : RdPc w w.heap.size v l) :
    Calls Try.prog 20 #[v] w fun e w' => ∃ v', e = .returned v' ∧ RdPc w' w'.heap.size v' (madeF l) ∧ Below w.heap.size w w' := by
  refine (ref_made1 v l w h).mono ?_
  rintro e w' ⟨v', h1, h2, h3⟩
  exact ⟨v', h1, h2.rd, h3⟩
end Go.Proofs.Ytoikhgldffgelaa
