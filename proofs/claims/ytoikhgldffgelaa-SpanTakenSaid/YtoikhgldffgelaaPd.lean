/- Layer 4, the project's: what is left of a span. -/
import Derived.Test.YtoikhgldffgelaaPc
namespace Go.Proofs.Ytoikhgldffgelaa
open Go.RowKit
set_option linter.unusedVariables false

theorem lf_index0 (W : World) (x1 y1 x2 y2 : Int) : (Instr.index 47 (.agg #[.int .i64 x1, .int .i64 y1, .int .i64 x2, .int .i64 y2]) (.int .i64 0)).run Try.prog W = .ok (.agg #[.int .i64 x1, .int .i64 y1]) W := by
  simp [Instr.index, run_underlying Try.underlying47, asIntOf, go_sem, part, Sem.run_bind]
theorem lf_index1 (W : World) (x1 y1 x2 y2 : Int) : (Instr.index 47 (.agg #[.int .i64 x1, .int .i64 y1, .int .i64 x2, .int .i64 y2]) (.int .i64 1)).run Try.prog W = .ok (.agg #[.int .i64 x2, .int .i64 y2]) W := by
  simp [Instr.index, run_underlying Try.underlying47, asIntOf, go_sem, part, Sem.run_bind]

set_option maxHeartbeats 1000000 in
theorem p_minus (s t : Sp) (w : World) :
    Calls Try.prog 13 #[spV s, spV t] w fun e w' => ∃ v', e = .returned v' ∧ OwnSp w' w.heap.size v' (minusF s t) ∧ Below w.heap.size w w' := by
  have HL := Lib.hid (p_left s t)
  have HM := Lib.hid p_may
  rw [left_minus s t]
  obtain ⟨a, b⟩ := s
  obtain ⟨c, d⟩ := t
  have hsp : ∀ x : Sp, spV x = .agg #[.int .i64 x.1, .int .i64 x.2] := fun _ => rfl
  have hlf : ∀ l : Sp × Sp, lfV l = .agg #[.int .i64 l.1.1, .int .i64 l.1.2, .int .i64 l.2.1, .int .i64 l.2.2] := fun _ => rfl
  rw [hsp, hsp] at HL
  rw [hsp, hsp]
  rw [hlf] at HL
  generalize leftF (a, b) (c, d) = r at *
  obtain ⟨⟨x1, y1⟩, ⟨x2, y2⟩⟩ := r
  clear hsp hlf
  have B := Lib.hid ((alloc_below w (.cells #[.int .i64 a, .int .i64 b] 23)).alloc (by simp) (.cells #[.int .i64 c, .int .i64 d] 23))
  go_enter Try.func13, Try.ntmps13
  go_wp2_with fail
  refine (HL.out _).mono ?_
  rintro e w1 ⟨rfl, hb1⟩
  have G := Lib.hid (B.out.trans (hb1.mono B.out.size))
  clear hb1
  go_wp2_with fail
  go_loopw [5, 11] (fun x i wr => ∃ k : Nat, i = .int .i64 k ∧ k ≤ 2 ∧ OwnSp wr w.heap.size x (([(x1, y1), (x2, y2)].take k).filter mayB) ∧ Below w.heap.size w wr) (fun _ i _ => 2 - (intOf i).toNat)
  case atStart => exact ⟨0, rfl, by omega, OwnX.nil _ _, G.out⟩
  case round =>
    obtain ⟨k, rfl, hk, ho, hb⟩ := hrel
    have O := Lib.hid ho
    have GW := Lib.hid hb
    clear ho hb G
    rcases (show k = 0 ∨ k = 1 ∨ k = 2 from by omega) with rfl | rfl | rfl
    · have hix := fun W => lf_index0 W x1 y1 x2 y2
      have M := Lib.hid (HM.out (x1, y1))
      have hT : ([(x1, y1), (x2, y2)].take 1).filter mayB = ([(x1, y1), (x2, y2)].take 0).filter mayB ++ (if mayB (x1, y1) = true then [(x1, y1)] else []) := by
        simp [List.filter_cons, List.take]
      have T := Lib.hid hT
      have hol : (([(x1, y1), (x2, y2)].take 0).filter mayB).length + 1 ≤ 1000000000 := by
        have := List.length_filter_le mayB ([(x1, y1), (x2, y2)].take 0)
        have := List.length_take_le 0 [(x1, y1), (x2, y2)]
        omega
      clear hT
      generalize ([(x1, y1), (x2, y2)].take 0).filter mayB = acc at *
      unfold spV at M
      go_wp2_with fail
      refine (M.out _).mono ?_
      rintro e w2 ⟨rfl, hb2⟩
      have c0 := made_cell (by simpa using hb2) 0 _ rfl
      have c1 := made_cell (by simpa using hb2) 1 _ rfl
      have hbx := (alloc_below wr (.cells #[.int .i64 x1, .int .i64 y1] 23)).trans (hb2.mono (by simp))
      have O := Lib.hid (O.out.on hbx)
      have GX := Lib.hid (GW.out.trans (hbx.mono GW.out.size))
      clear hb2 hbx
      cases hm : mayB (x1, y1)
      · have T := Lib.hid (show ([(x1, y1), (x2, y2)].take 1).filter mayB = acc from by rw [T.out, hm]; simp)
        clear hm
        go_wp2_with fail
        go_roundw
        case rel => exact ⟨1, by go_num, by omega, by rw [T.out]; exact O.out, GX.out⟩
        case measure => simp [intOf]
      · have T := Lib.hid (show ([(x1, y1), (x2, y2)].take 1).filter mayB = acc ++ [(x1, y1)] from by rw [T.out, hm]; simp)
        clear hm
        go_wp2_with (at_builtin; refine wpl_appX rfl (.tmp 16) (.tmp 18) rfl Try.underlying26 sp_info rfl w.heap.size _ acc [(x1, y1)] _ _ _ rfl rfl rfl rfl O.out GX.out.size hol (by decide) ?_; intro x3 w3 ho3 hg3 hb3)
        go_roundw
        case rel => exact ⟨1, by go_num, by omega, by rw [T.out]; exact ho3, GX.out.trans hb3⟩
        case measure => simp [intOf]
    · have hix := fun W => lf_index1 W x1 y1 x2 y2
      have M := Lib.hid (HM.out (x2, y2))
      have hT : ([(x1, y1), (x2, y2)].take 2).filter mayB = ([(x1, y1), (x2, y2)].take 1).filter mayB ++ (if mayB (x2, y2) = true then [(x2, y2)] else []) := by
        simp [List.filter_cons, List.take]; split <;> split <;> rfl
      have T := Lib.hid hT
      have hol : (([(x1, y1), (x2, y2)].take 1).filter mayB).length + 1 ≤ 1000000000 := by
        have := List.length_filter_le mayB ([(x1, y1), (x2, y2)].take 1)
        have := List.length_take_le 1 [(x1, y1), (x2, y2)]
        omega
      clear hT
      generalize ([(x1, y1), (x2, y2)].take 1).filter mayB = acc at *
      unfold spV at M
      go_wp2_with fail
      refine (M.out _).mono ?_
      rintro e w2 ⟨rfl, hb2⟩
      have c0 := made_cell (by simpa using hb2) 0 _ rfl
      have c1 := made_cell (by simpa using hb2) 1 _ rfl
      have hbx := (alloc_below wr (.cells #[.int .i64 x2, .int .i64 y2] 23)).trans (hb2.mono (by simp))
      have O := Lib.hid (O.out.on hbx)
      have GX := Lib.hid (GW.out.trans (hbx.mono GW.out.size))
      clear hb2 hbx
      cases hm : mayB (x2, y2)
      · have T := Lib.hid (show ([(x1, y1), (x2, y2)].take 2).filter mayB = acc from by rw [T.out, hm]; simp)
        clear hm
        go_wp2_with fail
        go_roundw
        case rel => exact ⟨2, by go_num, by omega, by rw [T.out]; exact O.out, GX.out⟩
        case measure => simp [intOf]
      · have T := Lib.hid (show ([(x1, y1), (x2, y2)].take 2).filter mayB = acc ++ [(x2, y2)] from by rw [T.out, hm]; simp)
        clear hm
        go_wp2_with (at_builtin; refine wpl_appX rfl (.tmp 16) (.tmp 18) rfl Try.underlying26 sp_info rfl w.heap.size _ acc [(x2, y2)] _ _ _ rfl rfl rfl rfl O.out GX.out.size hol (by decide) ?_; intro x3 w3 ho3 hg3 hb3)
        go_roundw
        case rel => exact ⟨2, by go_num, by omega, by rw [T.out]; exact ho3, GX.out.trans hb3⟩
        case measure => simp [intOf]
    · go_wp2_with fail
      go_ret
      exact ⟨_, rfl, O.out, GW.out⟩
end Go.Proofs.Ytoikhgldffgelaa
