/- Layer 4, the project's: pieces with one over them. -/
import Derived.Test.YtlpakooogbaclaaPg
namespace Go.Proofs.Ytlpakooogbaclaa
open Go.RowKit
set_option linter.unusedVariables false

theorem over_neg {l : List Pc} {p : Pc} (h : mayB p.1 = false) : overF l p = l := if_neg (by simp [h])
theorem over_pos {l : List Pc} {p : Pc} (h : mayB p.1 = true) : overF l p = (withoutF l p.1).take (aheadN (withoutF l p.1) p.1.2) ++ p :: (withoutF l p.1).drop (aheadN (withoutF l p.1) p.1.2) := by
  rw [← ins_ahead]; exact if_pos h

set_option maxHeartbeats 4000000 in
theorem p_over (v : Value) (l : List Pc) (p : Pc) (w : World) (h : RdPc w w.heap.size v l) (hl : l.length ≤ 100000) :
    Calls Try.prog 39 #[v, pcV p] w fun e w' => ∃ v', e = .returned v' ∧ OwnPc w' w.heap.size v' (overF l p) ∧ Below w.heap.size w w' := by
  have H := Lib.hid h
  have hno := Lib.hid (over_neg (l := l) (p := p))
  have hyes := Lib.hid (over_pos (l := l) (p := p))
  have hwn := Lib.hid (without_neg (l := l) (s := p.1))
  have hwl := without_len l p.1
  have hal := ahead_le (withoutF l p.1) p.1.2
  have PW := Lib.hid (fun W hW => p_without v l p.1 W hW hl)
  have PM := Lib.hid (p_may p.1)
  have PA := Lib.hid (fun u W hW => p_ahead u (withoutF l p.1) p.1 W hW)
  have PI := Lib.hid (fun u gv W (h1 : OwnPc W w.heap.size u (withoutF l p.1)) h2 h3 h4 => p_insert u (withoutF l p.1) p (aheadN (withoutF l p.1) p.1.2) gv w.heap.size W h1 h2 hal (by omega) h3 h4)
  obtain ⟨⟨p1, p2⟩, p3⟩ := p
  have hsp : spV (p1, p2) = .agg #[.int .i64 p1, .int .i64 p2] := rfl
  have hpc : pcV ((p1, p2), p3) = .agg #[.int .i64 p1, .int .i64 p2, .string p3] := rfl
  have hal2 : pcL.all [((p1, p2), p3)] = [.int .i64 p1, .int .i64 p2, .string p3] := rfl
  simp only [hsp] at PW PM PA
  simp only [hal2] at PI
  rw [hpc]
  clear hsp hpc hal2 hwl
  have B := Lib.hid (Box.new w #[.int .i64 p1, .int .i64 p2, .string p3] 48 _ rfl)
  have G := Lib.hid (alloc_below w (.cells #[.int .i64 p1, .int .i64 p2, .string p3] 48))
  have HW := Lib.hid (H.out.on G.out)
  generalize overF l ((p1, p2), p3) = res at *
  go_enter Try.func39, Try.ntmps39
  go_wp2_with fail
  generalize w.alloc (.cells #[.int .i64 p1, .int .i64 p2, .string p3] 48) = W at *
  refine (PW.out _ HW.out).mono ?_
  rintro e w1 ⟨v1, rfl, ho1, hb1⟩
  have B := Lib.hid (B.out.later hb1)
  have O := Lib.hid (ho1.mono G.out.size)
  have G := Lib.hid (G.out.trans (hb1.mono G.out.size))
  clear ho1 hb1
  have c0 := B.out.cell 0 (.int .i64 p1) rfl
  have c1 := B.out.cell 1 (.int .i64 p2) rfl
  have c2 := B.out.cell 2 (.string p3) rfl
  go_wp2_with fail
  refine (PM.out _).mono ?_
  rintro e w2 ⟨rfl, hb2⟩
  have B := Lib.hid (B.out.later hb2)
  have O := Lib.hid (O.out.on hb2)
  have G := Lib.hid (G.out.trans (hb2.mono G.out.size))
  clear hb2 c0 c1 c2
  cases hm : mayB (p1, p2)
  · have E := Lib.hid (show OwnPc w2 w.heap.size v1 res from by rw [hno.out hm, ← hwn.out hm]; exact O.out)
    clear hm
    go_wp2_with fail
    go_ret
    exact ⟨_, rfl, E.out, G.out⟩
  · have E := Lib.hid (hyes.out hm)
    clear hm hno hyes hwn
    generalize withoutF l (p1, p2) = out at *
    generalize aheadN out p2 = na at *
    have c0 := B.out.cell 0 (.int .i64 p1) rfl
    have c1 := B.out.cell 1 (.int .i64 p2) rfl
    have c2 := B.out.cell 2 (.string p3) rfl
    go_wp2_with fail
    have ca0 : ∀ cs, (w2.drew.alloc (.cells cs 48)).cell? ⟨w.heap.size, 0, none⟩ = some (.int .i64 p1) := fun cs => (Box.alloc (w := w2.drew) B.out (.cells cs 48)).cell 0 _ rfl
    have ca1 : ∀ cs, (w2.drew.alloc (.cells cs 48)).cell? ⟨w.heap.size, 1, none⟩ = some (.int .i64 p2) := fun cs => (Box.alloc (w := w2.drew) B.out (.cells cs 48)).cell 1 _ rfl
    have cb0 : ∀ cs, (w2.alloc (.cells cs 48)).cell? ⟨w.heap.size, 0, none⟩ = some (.int .i64 p1) := fun cs => (Box.alloc B.out (.cells cs 48)).cell 0 _ rfl
    have cb1 : ∀ cs, (w2.alloc (.cells cs 48)).cell? ⟨w.heap.size, 1, none⟩ = some (.int .i64 p2) := fun cs => (Box.alloc B.out (.cells cs 48)).cell 1 _ rfl
    have hws : w.heap.size ≤ w2.heap.size := G.out.size
    have HWS := Lib.hid hws
    clear hws
    go_region_with (first
      | (go_at_call 62
         refine (PA.out _ _ (by first | exact (show OwnPc w2.drew _ _ _ from O.out).rd | exact ((show OwnPc w2.drew _ _ _ from O.out).on (alloc_below _ _)).rd)).mono ?_
         rintro e w3 ⟨rfl, hb3⟩
         have B3 := Lib.hid (Box.later (show Box _ w.heap.size #[.int .i64 p1, .int .i64 p2, .string p3] 48 from by first | exact B.out | exact B.out.alloc _) hb3)
         have d0 := B3.out.cell 0 (.int .i64 p1) rfl
         have d1 := B3.out.cell 1 (.int .i64 p2) rfl
         have d2 := B3.out.cell 2 (.string p3) rfl
         have HB3 := Lib.hid hb3
         clear hb3)
      | (go_at_call 61
         refine (PI.out _ _ _
           (by first | exact ((show OwnPc w2.drew _ _ _ from O.out).on HB3.out).on (alloc_below _ _) | exact ((show OwnPc w2.drew _ _ _ from O.out).on (alloc_below _ _)).on HB3.out)
           (by first | exact Nat.le_trans HWS.out (show w2.heap.size ≤ _ from Nat.le_trans HB3.out.size (alloc_below _ _).size) | exact Nat.le_trans HWS.out (show w2.heap.size ≤ _ from Nat.le_trans (alloc_below w2.drew _).size HB3.out.size))
           (by first | exact Box.new _ _ _ _ rfl | exact (Box.new w2.drew _ _ _ rfl).later HB3.out)
           (by first
             | exact fun e => by have := (((show OwnPc w2.drew _ _ _ from O.out).on HB3.out).lt _ e).2; omega
             | exact fun e => by have := (O.out.lt _ e).2; omega)).mono ?_
         rintro e w4 ⟨v4, rfl, ho4, hb4⟩
         have HE := Lib.hid (show OwnPc w4 w.heap.size v4 res from by rw [E.out]; exact ho4)
         have HG := Lib.hid (show Below w.heap.size w w4 from by
           first
             | exact ((show Below w.heap.size w w2.drew from G.out.drewN 1).trans ((HB3.out.mono HWS.out).trans ((alloc_below _ _).mono (Nat.le_trans HWS.out HB3.out.size)))).trans hb4
             | exact ((show Below w.heap.size w (w2.alloc (.cells #[.int .i64 p1, .int .i64 p2, .string p3] 48)).drew from (G.out.trans ((alloc_below w2 _).mono HWS.out)).drewN 1).trans (HB3.out.mono (Nat.le_trans HWS.out (alloc_below w2 (.cells #[.int .i64 p1, .int .i64 p2, .string p3] 48)).size))).trans hb4)
         clear ho4 hb4))
    all_goals
      go_wp2
      go_ret
      first
        | exact ⟨_, rfl, HE.out, HG.out⟩
        | (refine ⟨v4, ?_, HE.out, HG.out⟩; simp [Act.put])
end Go.Proofs.Ytlpakooogbaclaa
