/- Layer 4, the project's: what stands at a time; how many pieces stand ahead of a span. -/
import Derived.Test.YtlpakooogbaclaaPa
namespace Go.Proofs.Ytlpakooogbaclaa
open Go.RowKit
set_option linter.unusedVariables false

set_option maxHeartbeats 2000000 in
theorem p_at (v : Value) (l : List Pc) (t : Int) (w : World) (h : RdPc w w.heap.size v l) :
    Calls Try.prog 25 #[v, .int .i64 t] w fun e w' => e = .returned (.tuple #[.string (atF l t).1, .bool (atF l t).2]) ∧ Below w.heap.size w w' := by
  have H := Lib.hid h
  obtain ⟨A, c, rfl, hlc, hc, -⟩ := h
  go_enter Try.func25, Try.ntmps25
  go_wp2_with fail
  go_loopw [10] (fun i wr => ∃ k : Nat, i = .int .i64 k ∧ k ≤ l.length ∧ atF l t = atF (l.drop k) t ∧ Below w.heap.size w wr) (fun i _ => l.length - (intOf i).toNat)
  case atStart => exact ⟨0, rfl, Nat.zero_le _, rfl, Below.refl _ _⟩
  case round =>
    obtain ⟨k, rfl, hk, ht, hb⟩ := hrel
    have G := Lib.hid hb
    clear hb
    by_cases hlt : k < l.length
    · obtain ⟨ba, oa, rfl, hba, c0, c1, c2⟩ := RdPc.here (H.out.below G.out) k hlt
      rw [List.drop_eq_getElem_cons hlt, atF_cons] at ht
      have hba2 : ba < wr.heap.size := by have := G.out.size; omega
      generalize l[k] = p at *
      obtain ⟨⟨p1, p2⟩, p3⟩ := p
      have HH := Lib.hid (p_has (p1, p2) t)
      have T := Lib.hid ht
      unfold spV at HH
      clear ht
      go_wp2_with fail
      refine (HH.out _).mono ?_
      rintro e w1 ⟨rfl, hb1⟩
      have hbx := (alloc_below wr (.cells #[.int .i64 p1, .int .i64 p2, .string p3] 48)).trans (hb1.mono (by simp))
      have c2 := made_cell (by simpa using hb1) 2 _ rfl
      have G1 := Lib.hid (G.out.trans (hbx.mono G.out.size))
      clear c0 c1 hb1 hbx
      cases hh : hasB (p1, p2) t
      · have T2 := Lib.hid (show atF l t = atF (l.drop (k + 1)) t from by rw [T.out, if_neg (by simp [hh])])
        clear hh T
        go_wp2_with fail
        go_roundw
        case rel => exact ⟨k + 1, by go_num, by omega, T2.out, G1.out⟩
        case measure => simp [intOf]; omega
      · have T2 := Lib.hid (show atF l t = (p3, true) from by rw [T.out, if_pos (by simp [hh])])
        clear hh T
        go_wp2_with fail
        go_ret2
        rw [T2.out]
        exact ⟨rfl, G1.out⟩
    · have T := Lib.hid (show atF l t = (⟨#[]⟩, false) from by rw [ht, List.drop_eq_nil_iff.2 (by omega)]; rfl)
      clear ht
      go_wp2_with fail
      go_ret2
      rw [T.out]
      exact ⟨rfl, G.out⟩

/-- How many pieces stand ahead of those that begin at its end or later. -/
def aheadN : List Pc → Int → Nat
  | [], _ => 0
  | q :: r, e => if q.1.1 ≥ e then 0 else aheadN r e + 1
theorem ahead_le (l : List Pc) (e : Int) : aheadN l e ≤ l.length := by
  induction l with
  | nil => exact Nat.le_refl _
  | cons q r ih => unfold aheadN; split <;> simp; exact ih
theorem ins_ahead (l : List Pc) (p : Pc) : insF l p = l.take (aheadN l p.1.2) ++ p :: l.drop (aheadN l p.1.2) := by
  induction l with
  | nil => rfl
  | cons q r ih =>
    unfold insF aheadN
    split
    · rfl
    · rw [ih]; rfl

set_option maxHeartbeats 2000000 in
theorem p_ahead (v : Value) (l : List Pc) (s : Sp) (w : World) (h : RdPc w w.heap.size v l) :
    Calls Try.prog 62 #[v, spV s] w fun e w' => e = .returned (.int .i64 (aheadN l s.2)) ∧ Below w.heap.size w w' := by
  have H := Lib.hid h
  obtain ⟨A, c, rfl, hlc, hc, -⟩ := h
  obtain ⟨s1, s2⟩ := s
  have hsp : spV (s1, s2) = .agg #[.int .i64 s1, .int .i64 s2] := rfl
  rw [hsp]
  clear hsp
  have B := Lib.hid (Box.new w #[.int .i64 s1, .int .i64 s2] 46 _ rfl)
  have G0 := Lib.hid (alloc_below w (.cells #[.int .i64 s1, .int .i64 s2] 46))
  go_enter Try.func62, Try.ntmps62
  go_wp2_with fail
  generalize w.alloc (.cells #[.int .i64 s1, .int .i64 s2] 46) = W0 at *
  go_loopw [9] (fun i wr => ∃ k : Nat, i = .int .i64 k ∧ k ≤ l.length ∧ aheadN l s2 = k + aheadN (l.drop k) s2 ∧ Below W0.heap.size W0 wr) (fun i _ => l.length - (intOf i).toNat)
  case atStart => exact ⟨0, rfl, Nat.zero_le _, by simp, Below.refl _ _⟩
  case round =>
    obtain ⟨k, rfl, hk, ht, hb⟩ := hrel
    have GW := Lib.hid hb
    have G := Lib.hid (G0.out.trans (hb.mono G0.out.size))
    have BW := Lib.hid (B.out.later hb)
    clear hb
    have d1 := BW.out.cell 1 (.int .i64 s2) rfl
    by_cases hlt : k < l.length
    · obtain ⟨ba, oa, rfl, hba, c0, c1, c2⟩ := RdPc.here (H.out.below G.out) k hlt
      rw [List.drop_eq_getElem_cons hlt] at ht
      have hba2 : ba < wr.heap.size := by have := G.out.size; omega
      generalize l[k] = p at *
      obtain ⟨⟨p1, p2⟩, p3⟩ := p
      have T := Lib.hid ht
      clear ht
      have d1a : ∀ cs, (wr.alloc (.cells cs 48)).cell? ⟨w.heap.size, 1, none⟩ = some (.int .i64 s2) := fun cs => (BW.out.alloc (.cells cs 48)).cell 1 _ rfl
      have GX := Lib.hid (GW.out.alloc GW.out.size (.cells #[.int .i64 p1, .int .i64 p2, .string p3] 48))
      have GY := Lib.hid (G.out.alloc G.out.size (.cells #[.int .i64 p1, .int .i64 p2, .string p3] 48))
      by_cases hge : p1 ≥ s2
      · have T2 := Lib.hid (show aheadN l s2 = k from by rw [T.out]; unfold aheadN; rw [if_pos hge]; rfl)
        clear T
        go_wp2_with fail
        go_ret
        rw [T2.out]
        exact ⟨rfl, GY.out⟩
      · have T2 := Lib.hid (show aheadN l s2 = (k + 1) + aheadN (l.drop (k + 1)) s2 from by
          rw [T.out]
          have : aheadN (((p1, p2), p3) :: l.drop (k + 1)) s2 = aheadN (l.drop (k + 1)) s2 + 1 := by rw [aheadN, if_neg hge]
          rw [this]; omega)
        clear T
        go_wp2_with fail
        go_roundw
        case rel => exact ⟨k + 1, by go_num, by omega, T2.out, GX.out⟩
        case measure => simp [intOf]; omega
    · have T := Lib.hid (show aheadN l s2 = l.length from by rw [ht, List.drop_eq_nil_iff.2 (by omega)]; simp [aheadN]; omega)
      clear ht
      go_wp2_with fail
      go_ret
      rw [T.out]
      exact ⟨rfl, G.out⟩
end Go.Proofs.Ytlpakooogbaclaa
