/- Layer 4: the least pieces, by the document's answer. -/
import Derived.Test.YtlpakooogbaclaaSd
import Derived.BigQuiet
namespace Go.Proofs.Ytlpakooogbaclaa
open Go.RowKit
set_option linter.unusedVariables false

theorem least_snoc (l : List Pc) (k : Nat) (h : k < l.length) : leastF (l.take (k + 1)) = lstep (leastF (l.take k)) l[k] := by
  unfold leastF; rw [List.take_succ_eq_append_getElem h, List.foldl_append]; rfl

set_option maxHeartbeats 4000000 in
theorem ref_least (v : Value) (l : List Pc) (w : World) (h : RdPc w w.heap.size v l) (hl : l.length ≤ 1000000) :
    Calls Try.prog 42 #[v] w fun e w' => ∃ v', e = .returned v' ∧ OwnPc w' w.heap.size v' (leastF l) ∧ Below w.heap.size w w' := by
  have H := Lib.hid h
  obtain ⟨A, c, rfl, hlc, hc, -⟩ := h
  go_enter Try.func42, Try.ntmps42
  go_wp2_with fail
  go_loopw [3, 4] (fun x i wr => ∃ k : Nat, i = .int .i64 k ∧ k ≤ l.length ∧ OwnPc wr w.heap.size x (leastF (l.take k)) ∧ Below w.heap.size w wr) (fun _ i _ => l.length - (intOf i).toNat)
  case atStart => exact ⟨0, rfl, by omega, OwnX.nil _ _, Below.refl _ _⟩
  case round =>
    obtain ⟨k, rfl, hk, ho, hb⟩ := hrel
    have O := Lib.hid ho
    have G := Lib.hid hb
    clear ho hb
    by_cases hlt : k < l.length
    · obtain ⟨ba, oa, rfl, hba, c0, c1, c2⟩ := RdPc.here (H.out.below G.out) k hlt
      have LS := Lib.hid (least_snoc l k hlt)
      have hol := least_len (l.take k)
      rw [List.length_take] at hol
      have hol : (leastF (l.take k)).length ≤ 1000000 := by omega
      generalize leastF (l.take k) = o at *
      generalize l[k] = p at *
      obtain ⟨⟨p1, p2⟩, p3⟩ := p
      have hol1 : o.length + 1 ≤ 1000000000 := by omega
      rcases snoc_or o with rfl | ⟨xs, q, rfl⟩
      · have hlen : ([] : List Pc).length = 0 := rfl
        obtain ⟨A5, c5, hv5⟩ : ∃ A5 c5, u3 = .slice A5 0 c5 := by
          rcases O.out.2 with ⟨h, _⟩ | ⟨g, cap, _, h, _⟩
          · exact ⟨_, _, h⟩
          · exact ⟨_, _, h⟩
        subst hv5
        go_wp2_with fail
        go_quiet (fail)
        go_wp2_with (at_builtin; refine wpl_appX rfl (.tmp 58) (.tmp 63) rfl Try.underlying34 pc_info rfl w.heap.size _ [] [((p1, p2), p3)] _ _ _ rfl rfl rfl rfl O.out G.out.size hol1 (by decide) ?_; intro x2 w2 ho2 hg2 hb2)
        go_roundw
        case rel => exact ⟨k + 1, by go_num, by omega, by rw [LS.out, lstep_nil]; exact ho2, (G.out.drewN _).trans hb2⟩
        case measure => simp [intOf]; omega
      · have hlen : (xs ++ [q]).length = xs.length + 1 := by simp
        obtain ⟨g, c5, hv5, hg1, hg2⟩ := O.out.pos (by omega)
        rw [hlen] at hv5
        subst hv5
        have hcq : wr.cell? ⟨g, xs.length * 3 + 1, none⟩ = some (.int .i64 q.1.2) := O.out.cell xs.length (by omega) 1 (.int .i64 q.1.2) (by simp [pcL])
        have hcv : wr.cell? ⟨g, xs.length * 3 + 2, none⟩ = some (.string q.2) := O.out.cell xs.length (by omega) 2 (.string q.2) (by simp [pcL])
        have hfq := O.out.frozen (xs.length * 3 + 1)
        by_cases ht1 : q.1.2 = p1
        · have hqd : ((q.1.2 : Int) == p1) = true := by simpa using ht1
          by_cases ht2 : q.2 = p3
          · have hsd : (q.2.toList == p3.toList) = true := by simp [ht2]
            have HR := Lib.hid (show lstep (xs ++ [q]) ((p1, p2), p3) = xs ++ [((q.1.1, p2), q.2)] from by rw [lstep_snoc, if_pos ⟨ht1, ht2⟩])
            go_wp2_with fail
            go_quiet (fail)
            go_wp2_with fail
            have hst := ((show OwnPc (wr.drewN nq) _ _ _ from O.out).stored xs.length (by omega) 1 (by decide) (.int .i64 p2) ((q.1.1, p2), q.2) (by simp [pcL])).1
            have hset : (xs ++ [q]).set xs.length ((q.1.1, p2), q.2) = xs ++ [((q.1.1, p2), q.2)] := by simp
            rw [hset] at hst
            go_roundw
            case rel => exact ⟨k + 1, by go_num, by omega, by rw [LS.out, HR.out]; exact hst, (G.out.drewN nq).setCell (p := ⟨g, xs.length * 3 + 1, none⟩) hg1 _⟩
            case measure => simp [intOf]; omega
          · have hsd : (q.2.toList == p3.toList) = false := by have := bytes_list q.2 p3; simp [this, ht2]
            have HR := Lib.hid (show lstep (xs ++ [q]) ((p1, p2), p3) = xs ++ [q] ++ [((p1, p2), p3)] from by rw [lstep_snoc, if_neg (fun e => ht2 e.2)])
            go_wp2_with fail
            go_quiet (fail)
            go_wp2_with (at_builtin; refine wpl_appX rfl (.tmp 58) (.tmp 63) rfl Try.underlying34 pc_info rfl w.heap.size _ (xs ++ [q]) [((p1, p2), p3)] _ _ _ rfl rfl rfl rfl O.out G.out.size hol1 (by decide) ?_; intro x2 w2 ho2 hg2 hb2)
            go_roundw
            case rel => exact ⟨k + 1, by go_num, by omega, by rw [LS.out, HR.out]; exact ho2, (G.out.drewN _).trans hb2⟩
            case measure => simp [intOf]; omega
        · have hqd : ((q.1.2 : Int) == p1) = false := by simpa using ht1
          have HR := Lib.hid (show lstep (xs ++ [q]) ((p1, p2), p3) = xs ++ [q] ++ [((p1, p2), p3)] from by rw [lstep_snoc, if_neg (fun e => ht1 e.1)])
          go_wp2_with fail
          go_quiet (fail)
          go_wp2_with (at_builtin; refine wpl_appX rfl (.tmp 58) (.tmp 63) rfl Try.underlying34 pc_info rfl w.heap.size _ (xs ++ [q]) [((p1, p2), p3)] _ _ _ rfl rfl rfl rfl O.out G.out.size hol1 (by decide) ?_; intro x2 w2 ho2 hg2 hb2)
          go_roundw
          case rel => exact ⟨k + 1, by go_num, by omega, by rw [LS.out, HR.out]; exact ho2, (G.out.drewN _).trans hb2⟩
          case measure => simp [intOf]; omega
    · have hke : l.take k = l := List.take_of_length_le (by omega)
      have O1 := Lib.hid (show OwnPc wr w.heap.size u3 (leastF l) from by have := O.out; rw [hke] at this; exact this)
      clear hke
      go_wp2_with fail
      go_ret
      exact ⟨_, rfl, O1.out, G.out⟩
end Go.Proofs.Ytlpakooogbaclaa
