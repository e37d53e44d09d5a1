/- Layer 4, the project's: the least pieces. -/
import Derived.Test.YtlpakooogbaclaaPa
import Derived.Test.YtlpakooogbaclaaBE
import Derived.Test.YtlpakooogbaclaaBapp
import Derived.BigQuiet
namespace Go.Proofs.Ytlpakooogbaclaa
open Go.RowKit
set_option linter.unusedVariables false

theorem pc_eql (W : World) (a b : Pc) : (binOp .eql 48 (pcV a) (pcV b)).run Try.prog W = .ok (.bool (decide (a = b))) W := by
  obtain ⟨⟨a1, a2⟩, a3⟩ := a
  obtain ⟨⟨b1, b2⟩, b3⟩ := b
  unfold pcV
  have h3 := bytes_list a3 b3
  go_simp
  by_cases e1 : a1 = b1 <;> by_cases e2 : a2 = b2 <;> by_cases e3 : a3 = b3 <;> simp [e1, e2, e3]
theorem tch_eq (q p : Pc) : decide (p = ((q.1.2, p.1.2), q.2)) = decide (tch q p) := by
  obtain ⟨⟨p1, p2⟩, p3⟩ := p
  obtain ⟨⟨q1, q2⟩, q3⟩ := q
  rw [decide_eq_decide]
  unfold tch
  simp only [Prod.mk.injEq, and_true]
  constructor
  · rintro ⟨h1, h2⟩; exact ⟨h1.symm, h2.symm⟩
  · rintro ⟨h1, h2⟩; exact ⟨h1.symm, h2.symm⟩

set_option maxHeartbeats 4000000 in
theorem p_least (v : Value) (l : List Pc) (w : World) (h : RdPc w w.heap.size v l) (hl : l.length ≤ 1000000) :
    Calls Try.prog 26 #[v] w fun e w' => ∃ v', e = .returned v' ∧ OwnPc w' w.heap.size v' (leastF l) ∧ Below w.heap.size w w' := by
  have H := Lib.hid h
  obtain ⟨A, c, rfl, hlc, hc, -⟩ := h
  go_enter Try.func26, Try.ntmps26
  go_wp2_with fail
  go_loopw [3, 9] (fun x i wr => ∃ k : Nat, i = .int .i64 k ∧ k ≤ l.length ∧ OwnPc wr w.heap.size x (leastF (l.take k)) ∧ Below w.heap.size w wr) (fun _ i _ => l.length - (intOf i).toNat)
  case atStart => exact ⟨0, rfl, by omega, OwnX.nil _ _, Below.refl _ _⟩
  case round =>
    obtain ⟨k, rfl, hk, ho, hb⟩ := hrel
    have O := Lib.hid ho
    have G := Lib.hid hb
    clear ho hb
    by_cases hlt : k < l.length
    · obtain ⟨ba, oa, rfl, hba, c0, c1, c2⟩ := RdPc.here (H.out.below G.out) k hlt
      have LS := Lib.hid (least_snoc l k hlt)
      have hol := least_len (l.take k)
      rw [List.length_take] at hol
      have hol : (leastF (l.take k)).length ≤ 1000000 := by omega
      generalize leastF (l.take k) = o at *
      generalize l[k] = p at *
      obtain ⟨⟨p1, p2⟩, p3⟩ := p
      have hol1 : o.length + 1 ≤ 1000000000 := by omega
      have BP := Lib.hid (Box.new wr #[.int .i64 p1, .int .i64 p2, .string p3] 48 _ rfl)
      have GP := Lib.hid (alloc_below wr (.cells #[.int .i64 p1, .int .i64 p2, .string p3] 48))
      have GX := Lib.hid (G.out.alloc G.out.size (.cells #[.int .i64 p1, .int .i64 p2, .string p3] 48))
      have OX := Lib.hid (O.out.on GP.out)
      rcases snoc_or o with rfl | ⟨xs, q, rfl⟩
      · have hlen : ([] : List Pc).length = 0 := rfl
        obtain ⟨A5, c5, hv5⟩ : ∃ A5 c5, u3 = .slice A5 0 c5 := by
          rcases O.out.2 with ⟨h, _⟩ | ⟨g, cap, _, h, _⟩
          · exact ⟨_, _, h⟩
          · exact ⟨_, _, h⟩
        subst hv5
        go_wp2_with fail
        go_quiet (fail)
        generalize wr.alloc (.cells #[.int .i64 p1, .int .i64 p2, .string p3] 48) = wp at *
        have d0 := BP.out.cell 0 (.int .i64 p1) rfl
        have d1 := BP.out.cell 1 (.int .i64 p2) rfl
        have d2 := BP.out.cell 2 (.string p3) rfl
        go_wp2_with (at_builtin; refine wpl_appX rfl (.tmp 38) (.tmp 40) rfl Try.underlying34 pc_info rfl w.heap.size _ [] [((p1, p2), p3)] _ _ _ rfl rfl rfl rfl OX.out GX.out.size hol1 (by decide) ?_; intro x2 w2 ho2 hg2 hb2)
        go_roundw
        case rel => exact ⟨k + 1, by go_num, by omega, by rw [LS.out, lstep_nil]; exact ho2, (GX.out.drewN _).trans hb2⟩
        case measure => simp [intOf]; omega
      · have hlen : (xs ++ [q]).length = xs.length + 1 := by simp
        obtain ⟨g, c5, hv5, hg1, hg2⟩ := O.out.pos (by omega)
        rw [hlen] at hv5
        subst hv5
        obtain ⟨⟨q1, q2⟩, q3⟩ := q
        have HC0 := Lib.hid (OX.out.cell xs.length (by omega) 0 (.int .i64 q1) (by simp [pcL]))
        have HC1 := Lib.hid (OX.out.cell xs.length (by omega) 1 (.int .i64 q2) (by simp [pcL]))
        have HC2 := Lib.hid (OX.out.cell xs.length (by omega) 2 (.string q3) (by simp [pcL]))
        have hgp : g < (wr.alloc (.cells #[.int .i64 p1, .int .i64 p2, .string p3] 48)).heap.size := by simp; omega
        have HGP := Lib.hid hgp
        have HLT := Lib.hid BP.out.lt
        clear hgp
        have heq := fun W => pc_eql W ((p1, p2), p3) ((q2, p2), q3)
        have htd := tch_eq ((q1, q2), q3) ((p1, p2), p3)
        simp only at htd
        rw [htd] at heq
        clear htd
        have LD := Lib.hid (lstep_snoc xs ((q1, q2), q3) ((p1, p2), p3))
        unfold pcV at heq
        have HGO := Lib.hid (fun W => p_goOn ((q1, q2), q3) p2 W)
        unfold pcV at HGO
        have hi0 : (0 : Int) ≤ (xs.length : Int) := by omega
        have hi1 : (xs.length : Int) < (xs.length : Int) + 1 := by omega
        generalize hwp : wr.alloc (.cells #[.int .i64 p1, .int .i64 p2, .string p3] 48) = wp at *
        go_wp2_with fail
        clear hwp
        have HI : (fun W => Below wp.heap.size wp.drew W) wp.drew := Below.refl _ _
-- REGION A
        refine regk_start [] (fun W => Below wp.heap.size wp.drew W) (by kernel_rfl) ?_
        refine regk_free 0 16 (v := ?_) (T' := ?_) (fun _ => HI) (by kernel_rfl) (by kernel_rfl) (by kernel_rfl) (by kernel_rfl) (fun _ _ _ h => h) (fun o ho => ?_) ?_ ?_
        rotate_left 2
        · cases ho
          refine ⟨rfl, rfl, fun W => ?_⟩
          go_simp; (try with_reducible rfl)
        · simp only [List.setIfInBounds_toArray, List.set_cons_succ, List.set_cons_zero]; exact rfl
        refine regk_free 1 17 (v := ?_) (T' := ?_) (fun _ => HI) (by kernel_rfl) (by kernel_rfl) (by kernel_rfl) (by kernel_rfl) (fun _ _ _ h => h) (fun o ho => ?_) ?_ ?_
        rotate_left 2
        · cases ho
          refine ⟨rfl, rfl, fun W => ?_⟩
          go_simp; (try with_reducible rfl)
        · simp only [List.setIfInBounds_toArray, List.set_cons_succ, List.set_cons_zero]; exact rfl
        refine regk_free 2 18 (v := ?_) (T' := ?_) (fun _ => HI) (by kernel_rfl) (by kernel_rfl) (by kernel_rfl) (by kernel_rfl) (fun _ _ _ h => h) (fun o ho => ?_) ?_ ?_
        rotate_left 2
        · cases ho
          refine ⟨rfl, rfl, fun W => ?_⟩
          go_simp; (try with_reducible rfl)
        · simp only [List.setIfInBounds_toArray, List.set_cons_succ, List.set_cons_zero]; exact rfl
        refine regk_take 3 19 (v := ?_) (T' := ?_) HI (by kernel_rfl) (by kernel_rfl) (by kernel_rfl) (by kernel_rfl) (by kernel_rfl) (by kernel_rfl) (fun _ _ _ h => h) (fun o ho => ?_) ?_ ?_
        rotate_left 2
        · cases ho
          refine ⟨rfl, rfl, fun W hW => ?_⟩
          have hV0 := (Below.cell (p := ⟨wr.heap.size, 0, none⟩) (show Below wp.heap.size wp.drew W from hW) HLT.out).trans (show wp.drew.cell? _ = _ from BP.out.cell 0 (.int .i64 p1) rfl)
          have hV1 := (Below.cell (p := ⟨wr.heap.size, 1, none⟩) (show Below wp.heap.size wp.drew W from hW) HLT.out).trans (show wp.drew.cell? _ = _ from BP.out.cell 1 (.int .i64 p2) rfl)
          have hV2 := (Below.cell (p := ⟨wr.heap.size, 2, none⟩) (show Below wp.heap.size wp.drew W from hW) HLT.out).trans (show wp.drew.cell? _ = _ from BP.out.cell 2 (.string p3) rfl)
          go_simp; (try with_reducible rfl)
        · simp only [List.setIfInBounds_toArray, List.set_cons_succ, List.set_cons_zero]; exact rfl
        refine regk_free 4 20 (v := ?_) (T' := ?_) (fun _ => HI) (by kernel_rfl) (by kernel_rfl) (by kernel_rfl) (by kernel_rfl) (fun _ _ _ h => h) (fun o ho => ?_) ?_ ?_
        rotate_left 2
        · cases ho
          refine ⟨rfl, rfl, fun W => ?_⟩
          go_simp; (try with_reducible rfl)
        · simp only [List.setIfInBounds_toArray, List.set_cons_succ, List.set_cons_zero]; exact rfl
        refine regk_free 5 21 (v := ?_) (T' := ?_) (fun _ => HI) (by kernel_rfl) (by kernel_rfl) (by kernel_rfl) (by kernel_rfl) (fun _ _ _ h => h) (fun o ho => ?_) ?_ ?_
        rotate_left 2
        · cases ho
          refine ⟨rfl, rfl, fun W => ?_⟩
          go_simp; (try with_reducible rfl)
        · simp only [List.setIfInBounds_toArray, List.set_cons_succ, List.set_cons_zero]; exact rfl
        refine regk_free 6 22 (v := ?_) (T' := ?_) (fun _ => HI) (by kernel_rfl) (by kernel_rfl) (by kernel_rfl) (by kernel_rfl) (fun _ _ _ h => h) (fun o ho => ?_) ?_ ?_
        rotate_left 2
        · cases ho
          refine ⟨rfl, rfl, fun W => ?_⟩
          go_simp; (try with_reducible rfl)
        · simp only [List.setIfInBounds_toArray, List.set_cons_succ, List.set_cons_zero]; exact rfl
        refine regk_take 7 23 (v := ?_) (T' := ?_) HI (by kernel_rfl) (by kernel_rfl) (by kernel_rfl) (by kernel_rfl) (by kernel_rfl) (by kernel_rfl) (fun _ _ _ h => h) (fun o ho => ?_) ?_ ?_
        rotate_left 2
        · cases ho
          refine ⟨rfl, rfl, fun W hW => ?_⟩
          have hV0 := (Below.cell (p := ⟨g, xs.length * 3, none⟩) (show Below wp.heap.size wp.drew W from hW) HGP.out).trans (show wp.drew.cell? _ = _ from HC0.out)
          have hV1 := (Below.cell (p := ⟨g, xs.length * 3 + 1, none⟩) (show Below wp.heap.size wp.drew W from hW) HGP.out).trans (show wp.drew.cell? _ = _ from HC1.out)
          have hV2 := (Below.cell (p := ⟨g, xs.length * 3 + 2, none⟩) (show Below wp.heap.size wp.drew W from hW) HGP.out).trans (show wp.drew.cell? _ = _ from HC2.out)
          go_simp; (try with_reducible rfl)
        · simp only [List.setIfInBounds_toArray, List.set_cons_succ, List.set_cons_zero]; exact rfl
        refine regk_free 8 24 (v := ?_) (T' := ?_) (fun _ => HI) (by kernel_rfl) (by kernel_rfl) (by kernel_rfl) (by kernel_rfl) (fun _ _ _ h => h) (fun o ho => ?_) ?_ ?_
        rotate_left 2
        · cases ho
          refine ⟨rfl, rfl, fun W => ?_⟩
          go_simp; (try with_reducible rfl)
        · simp only [List.setIfInBounds_toArray, List.set_cons_succ, List.set_cons_zero]; exact rfl
        refine regk_free 9 25 (v := ?_) (T' := ?_) (fun _ => HI) (by kernel_rfl) (by kernel_rfl) (by kernel_rfl) (by kernel_rfl) (fun _ _ _ h => h) (fun o ho => ?_) ?_ ?_
        rotate_left 2
        · cases ho
          refine ⟨rfl, rfl, fun W => ?_⟩
          go_simp; (try with_reducible rfl)
        · simp only [List.setIfInBounds_toArray, List.set_cons_succ, List.set_cons_zero]; exact rfl
        refine regk_take 10 26 (v := ?_) (T' := ?_) HI (by kernel_rfl) (by kernel_rfl) (by kernel_rfl) (by kernel_rfl) (by kernel_rfl) (by kernel_rfl) (fun _ _ _ h => h) (fun o ho => ?_) ?_ ?_
        rotate_left 2
        · cases ho
          refine ⟨rfl, rfl, fun W hW => ?_⟩
          have hV0 := (Below.cell (p := ⟨wr.heap.size, 1, none⟩) (show Below wp.heap.size wp.drew W from hW) HLT.out).trans (show wp.drew.cell? _ = _ from BP.out.cell 1 (.int .i64 p2) rfl)
          go_simp; (try with_reducible rfl)
        · simp only [List.setIfInBounds_toArray, List.set_cons_succ, List.set_cons_zero]; exact rfl
        refine regk_call (I' := (fun W => Below wp.heap.size wp.drew W)) (fun _ h => h) 11 27 (by kernel_rfl) 51 #[.agg #[.int .i64 q1, .int .i64 q2, .string q3], .int .i64 p2] (fun o ho => by cases ho; exact ⟨rfl, rfl, fun W => by go_simp⟩) ?_
        refine (HGO.out _).mono ?_
        rintro e x1 ⟨rfl, hb1⟩
        have HI : (fun W => Below wp.heap.size wp.drew W) x1 := hb1
        refine ⟨_, _, rfl, fun _ => HI, (by simp only [List.setIfInBounds_toArray, List.set_cons_succ, List.set_cons_zero]; exact rfl), ?_⟩
        refine regk_free 12 28 (v := ?_) (T' := ?_) (fun _ => HI) (by kernel_rfl) (by kernel_rfl) (by kernel_rfl) (by kernel_rfl) (fun _ _ _ h => h) (fun o ho => ?_) ?_ ?_
        rotate_left 2
        · cases ho
          refine ⟨rfl, rfl, fun W => ?_⟩
          go_simp; (try with_reducible rfl)
        · simp only [List.setIfInBounds_toArray, List.set_cons_succ, List.set_cons_zero]; exact rfl
        refine regk_free 13 29 (v := ?_) (T' := ?_) (fun _ => HI) (by kernel_rfl) (by kernel_rfl) (by kernel_rfl) (by kernel_rfl) (fun _ _ _ h => h) (fun o ho => ?_) ?_ ?_
        rotate_left 2
        · cases ho
          refine ⟨rfl, rfl, fun W => ?_⟩
          go_simp; (try with_reducible rfl)
        · simp only [List.setIfInBounds_toArray, List.set_cons_succ, List.set_cons_zero]; exact rfl
        refine regk_done (by kernel_rfl) ?_
-- DONE A
        have OY := Lib.hid (OwnX.on (show OwnPc wp.drew _ _ _ from OX.out) hb1)
        have GY := Lib.hid ((GX.out.drewN 1).trans (hb1.mono GX.out.size))
        have BY := Lib.hid (Box.on (show Box wp.drew _ _ _ from BP.out) hb1 HLT.out)
        have d0 := BY.out.cell 0 (.int .i64 p1) rfl
        have d1 := BY.out.cell 1 (.int .i64 p2) rfl
        have d2 := BY.out.cell 2 (.string p3) rfl
        have hcq : x1.cell? ⟨g, xs.length * 3 + 1, none⟩ = some (.int .i64 q2) := OY.out.cell xs.length (by omega) 1 (.int .i64 q2) (by simp [pcL])
        have hfq := OY.out.frozen (xs.length * 3 + 1)
        clear hb1 HI heq
        cases ht : decide (tch ((q1, q2), q3) ((p1, p2), p3))
        · have HR := Lib.hid (show lstep (xs ++ [((q1, q2), q3)]) ((p1, p2), p3) = xs ++ [((q1, q2), q3)] ++ [((p1, p2), p3)] from by rw [LD.out, if_neg (by simpa using ht)])
          clear ht
          go_wp2_with (at_builtin; refine wpl_appX rfl (.tmp 38) (.tmp 40) rfl Try.underlying34 pc_info rfl w.heap.size _ (xs ++ [((q1, q2), q3)]) [((p1, p2), p3)] _ _ _ rfl rfl rfl rfl OY.out GY.out.size hol1 (by decide) ?_; intro x2 w2 ho2 hg2 hb2)
          go_roundw
          case rel => exact ⟨k + 1, by go_num, by omega, by rw [LS.out, HR.out]; exact ho2, GY.out.trans hb2⟩
          case measure => simp [intOf]; omega
        · have HR := Lib.hid (show lstep (xs ++ [((q1, q2), q3)]) ((p1, p2), p3) = xs ++ [((q1, p2), q3)] from by rw [LD.out, if_pos (by simpa using ht)])
          clear ht
          go_wp2_with fail
          have hst := (OY.out.stored xs.length (by omega) 1 (by decide) (.int .i64 p2) ((q1, p2), q3) (by simp [pcL])).1
          have hset : (xs ++ [((q1, q2), q3)]).set xs.length ((q1, p2), q3) = xs ++ [((q1, p2), q3)] := by simp
          rw [hset] at hst
          go_roundw
          case rel => exact ⟨k + 1, by go_num, by omega, by rw [LS.out, HR.out]; exact hst, GY.out.setCell (p := ⟨g, xs.length * 3 + 1, none⟩) hg1 _⟩
          case measure => simp [intOf]; omega
    · have hke : l.take k = l := List.take_of_length_le (by omega)
      have O1 := Lib.hid (show OwnPc wr w.heap.size u3 (leastF l) from by have := O.out; rw [hke] at this; exact this)
      clear hke
      go_wp2_with fail
      go_ret
      exact ⟨_, rfl, O1.out, G.out⟩
end Go.Proofs.Ytlpakooogbaclaa
