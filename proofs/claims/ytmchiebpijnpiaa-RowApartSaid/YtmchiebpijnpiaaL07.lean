/- RowApart: any two versions (few bytes) that may be have the same bytes just if they are the same. No conditions. -/
import Derived.Test.YtmchiebpijnpiaaRt
import Derived.Test.YtmchiebpijnpiaaRq
import Derived.Test.YtmchiebpijnpiaaRr
namespace Go.Proofs.Ytmchiebpijnpiaa.L07
open Go.RowKit Go.ChangeShapes Go.WideShapes Go.ChangeAt
set_option linter.unusedVariables false

set_option maxHeartbeats 8000000 in
theorem walk (a b : Ver) (w : World) :
    Calls Try.prog 9 #[verV a, verV b] w fun e w' => e = .returned (.bool true) ∧ Below w.heap.size w w' := by
  have T1 := Lib.hid (fun w => ref6_cut a w)
  have T2 := Lib.hid (fun w => ref6_cut b w)
  have hk1 := cut_key a
  have hk2 := cut_key b
  generalize cutV a = va at *
  generalize cutV b = vb at *
  have W1 := Lib.hid (fun w => row_write va w (by omega))
  have W2 := Lib.hid (fun w => row_write vb w (by omega))
  obtain ⟨r, hr⟩ : ∃ r : Bool, r = true ↔ va = vb := by
    by_cases h : va = vb
    · exact ⟨true, by simp [h]⟩
    · exact ⟨false, by simp [h]⟩
  have HQ := Lib.hid (fun h1 h2 => show decide (encV va = encV vb) = r from by
    rw [Bool.eq_iff_iff, decide_eq_true_iff, hr]
    exact ⟨fun h => encV_inj h1 h2 h, fun h => by rw [h]⟩)
  have EQ := Lib.hid (show ∀ W : World, (binOp .eql 27 (verV va) (verV vb)).run Try.prog W = .ok (.bool r) W from fun W => by
    cases r
    · exact ver_eql_diff W va vb (fun h => by have := hr.2 h; cases this)
    · rw [hr.1 rfl]; exact ver_eql_same W vb)
  clear hr
  clear hk1 hk2
  generalize encV va = n1 at *
  generalize encV vb = n2 at *
  generalize mayV va = m1 at *
  generalize mayV vb = m2 at *
  generalize hf1 : (if m1 = true then (0 : Int) else 1) = f1 at W1
  generalize hf2 : (if m2 = true then (0 : Int) else 1) = f2 at W2
  have F1 := Lib.hid hf1
  have F2 := Lib.hid hf2
  clear hf1 hf2
  obtain ⟨k1, b1, e1, s1, ⟨x1, y1⟩, u1, g1⟩ := a
  obtain ⟨k2, b2, e2, s2, ⟨x2, y2⟩, u2, g2⟩ := b
  obtain ⟨k3, b3, e3, s3, ⟨x3, y3⟩, u3, g3⟩ := va
  obtain ⟨k4, b4, e4, s4, ⟨x4, y4⟩, u4, g4⟩ := vb
  unfold verV at T1 T2 W1 W2 EQ ⊢
  simp only at T1 T2 W1 W2 EQ ⊢
  have hs1 : (w.alloc (.cells #[.string k1, .int .i64 b1, .int .i64 e1, .int .i64 s1, .int .i64 x1, .int .i64 y1, .string u1, .bool g1] 27)).heap.size = w.heap.size + 1 := by simp
  have BA := Lib.hid (Box.new w #[.string k1, .int .i64 b1, .int .i64 e1, .int .i64 s1, .int .i64 x1, .int .i64 y1, .string u1, .bool g1] 27 _ rfl)
  have BA := Lib.hid (BA.out.alloc (.cells #[.string k2, .int .i64 b2, .int .i64 e2, .int .i64 s2, .int .i64 x2, .int .i64 y2, .string u2, .bool g2] 27))
  have BB := Lib.hid (Box.new (w.alloc (.cells #[.string k1, .int .i64 b1, .int .i64 e1, .int .i64 s1, .int .i64 x1, .int .i64 y1, .string u1, .bool g1] 27)) #[.string k2, .int .i64 b2, .int .i64 e2, .int .i64 s2, .int .i64 x2, .int .i64 y2, .string u2, .bool g2] 27 _ rfl)
  have G := Lib.hid ((alloc_below w (.cells #[.string k1, .int .i64 b1, .int .i64 e1, .int .i64 s1, .int .i64 x1, .int .i64 y1, .string u1, .bool g1] 27)).trans ((alloc_below (w.alloc (.cells #[.string k1, .int .i64 b1, .int .i64 e1, .int .i64 s1, .int .i64 x1, .int .i64 y1, .string u1, .bool g1] 27)) (.cells #[.string k2, .int .i64 b2, .int .i64 e2, .int .i64 s2, .int .i64 x2, .int .i64 y2, .string u2, .bool g2] 27)).mono (by simp)))
  rw [hs1] at BB
  clear hs1
  go_enter Try.func9, Try.ntmps9
  go_wp2_with fail
  generalize (w.alloc (.cells #[.string k1, .int .i64 b1, .int .i64 e1, .int .i64 s1, .int .i64 x1, .int .i64 y1, .string u1, .bool g1] 27)).alloc (.cells #[.string k2, .int .i64 b2, .int .i64 e2, .int .i64 s2, .int .i64 x2, .int .i64 y2, .string u2, .bool g2] 27) = w0 at *
  have p0 := BA.out.cell 0 (.string k1) rfl
  have p1 := BA.out.cell 1 (.int .i64 b1) rfl
  have p2 := BA.out.cell 2 (.int .i64 e1) rfl
  have p3 := BA.out.cell 3 (.int .i64 s1) rfl
  have p4 := BA.out.cell 4 (.int .i64 x1) rfl
  have p5 := BA.out.cell 5 (.int .i64 y1) rfl
  have p6 := BA.out.cell 6 (.string u1) rfl
  have p7 := BA.out.cell 7 (.bool g1) rfl
  go_wp2_with fail
  refine (T1.out _).mono ?_
  rintro z w1 ⟨rfl, hb⟩
  have BA := Lib.hid (BA.out.later hb)
  have BB := Lib.hid (BB.out.later hb)
  have G := Lib.hid (G.out.trans (hb.mono G.out.size))
  clear hb p0 p1 p2 p3 p4 p5 p6 p7
  have NM := Lib.hid (show Box ((((((((w1.setCell ⟨w.heap.size, 0, none⟩ (.string k3)).setCell ⟨w.heap.size, 1, none⟩ (.int .i64 b3)).setCell ⟨w.heap.size, 2, none⟩ (.int .i64 e3)).setCell ⟨w.heap.size, 3, none⟩ (.int .i64 s3)).setCell ⟨w.heap.size, 4, none⟩ (.int .i64 x3)).setCell ⟨w.heap.size, 5, none⟩ (.int .i64 y3)).setCell ⟨w.heap.size, 6, none⟩ (.string u3)).setCell ⟨w.heap.size, 7, none⟩ (.bool g3)) (w.heap.size) #[.string k3, .int .i64 b3, .int .i64 e3, .int .i64 s3, .int .i64 x3, .int .i64 y3, .string u3, .bool g3] 27 from box_put8 BA.out)
  have NO := Lib.hid (show Box ((((((((w1.setCell ⟨w.heap.size, 0, none⟩ (.string k3)).setCell ⟨w.heap.size, 1, none⟩ (.int .i64 b3)).setCell ⟨w.heap.size, 2, none⟩ (.int .i64 e3)).setCell ⟨w.heap.size, 3, none⟩ (.int .i64 s3)).setCell ⟨w.heap.size, 4, none⟩ (.int .i64 x3)).setCell ⟨w.heap.size, 5, none⟩ (.int .i64 y3)).setCell ⟨w.heap.size, 6, none⟩ (.string u3)).setCell ⟨w.heap.size, 7, none⟩ (.bool g3)) (w.heap.size + 1) #[.string k2, .int .i64 b2, .int .i64 e2, .int .i64 s2, .int .i64 x2, .int .i64 y2, .string u2, .bool g2] 27 from other_put8 (.string k3) (.int .i64 b3) (.int .i64 e3) (.int .i64 s3) (.int .i64 x3) (.int .i64 y3) (.string u3) (.bool g3) BB.out (by omega))
  have NG := Lib.hid (show Below w.heap.size w ((((((((w1.setCell ⟨w.heap.size, 0, none⟩ (.string k3)).setCell ⟨w.heap.size, 1, none⟩ (.int .i64 b3)).setCell ⟨w.heap.size, 2, none⟩ (.int .i64 e3)).setCell ⟨w.heap.size, 3, none⟩ (.int .i64 s3)).setCell ⟨w.heap.size, 4, none⟩ (.int .i64 x3)).setCell ⟨w.heap.size, 5, none⟩ (.int .i64 y3)).setCell ⟨w.heap.size, 6, none⟩ (.string u3)).setCell ⟨w.heap.size, 7, none⟩ (.bool g3)) from below_put8 (.string k3) (.int .i64 b3) (.int .i64 e3) (.int .i64 s3) (.int .i64 x3) (.int .i64 y3) (.string u3) (.bool g3) G.out (by omega))
  have p0 := BA.out.cell 0 (.string k1) rfl
  have p1 := BA.out.cell 1 (.int .i64 b1) rfl
  have p2 := BA.out.cell 2 (.int .i64 e1) rfl
  have p3 := BA.out.cell 3 (.int .i64 s1) rfl
  have p4 := BA.out.cell 4 (.int .i64 x1) rfl
  have p5 := BA.out.cell 5 (.int .i64 y1) rfl
  have p6 := BA.out.cell 6 (.string u1) rfl
  have p7 := BA.out.cell 7 (.bool g1) rfl
  have fp0 := BA.out.frozen 0
  have fp1 := BA.out.frozen 1
  have fp2 := BA.out.frozen 2
  have fp3 := BA.out.frozen 3
  have fp4 := BA.out.frozen 4
  have fp5 := BA.out.frozen 5
  have fp6 := BA.out.frozen 6
  have fp7 := BA.out.frozen 7
  have q0 := BB.out.cell 0 (.string k2) rfl
  have q1 := BB.out.cell 1 (.int .i64 b2) rfl
  have q2 := BB.out.cell 2 (.int .i64 e2) rfl
  have q3 := BB.out.cell 3 (.int .i64 s2) rfl
  have q4 := BB.out.cell 4 (.int .i64 x2) rfl
  have q5 := BB.out.cell 5 (.int .i64 y2) rfl
  have q6 := BB.out.cell 6 (.string u2) rfl
  have q7 := BB.out.cell 7 (.bool g2) rfl
  go_wp2_with fail
  generalize ((((((((w1.setCell ⟨w.heap.size, 0, none⟩ (.string k3)).setCell ⟨w.heap.size, 1, none⟩ (.int .i64 b3)).setCell ⟨w.heap.size, 2, none⟩ (.int .i64 e3)).setCell ⟨w.heap.size, 3, none⟩ (.int .i64 s3)).setCell ⟨w.heap.size, 4, none⟩ (.int .i64 x3)).setCell ⟨w.heap.size, 5, none⟩ (.int .i64 y3)).setCell ⟨w.heap.size, 6, none⟩ (.string u3)).setCell ⟨w.heap.size, 7, none⟩ (.bool g3)) = w2 at *
  clear p0 p1 p2 p3 p4 p5 p6 p7 fp0 fp1 fp2 fp3 fp4 fp5 fp6 fp7 q0 q1 q2 q3 q4 q5 q6 q7
  have BA := NM
  have BB := NO
  have G := NG
  clear NM NO NG
  have q0 := BB.out.cell 0 (.string k2) rfl
  have q1 := BB.out.cell 1 (.int .i64 b2) rfl
  have q2 := BB.out.cell 2 (.int .i64 e2) rfl
  have q3 := BB.out.cell 3 (.int .i64 s2) rfl
  have q4 := BB.out.cell 4 (.int .i64 x2) rfl
  have q5 := BB.out.cell 5 (.int .i64 y2) rfl
  have q6 := BB.out.cell 6 (.string u2) rfl
  have q7 := BB.out.cell 7 (.bool g2) rfl
  go_wp2_with fail
  refine (T2.out _).mono ?_
  rintro z w3 ⟨rfl, hb⟩
  have BA := Lib.hid (BA.out.later hb)
  have BB := Lib.hid (BB.out.later hb)
  have G := Lib.hid (G.out.trans (hb.mono G.out.size))
  clear hb q0 q1 q2 q3 q4 q5 q6 q7
  have NM := Lib.hid (show Box ((((((((w3.setCell ⟨w.heap.size + 1, 0, none⟩ (.string k4)).setCell ⟨w.heap.size + 1, 1, none⟩ (.int .i64 b4)).setCell ⟨w.heap.size + 1, 2, none⟩ (.int .i64 e4)).setCell ⟨w.heap.size + 1, 3, none⟩ (.int .i64 s4)).setCell ⟨w.heap.size + 1, 4, none⟩ (.int .i64 x4)).setCell ⟨w.heap.size + 1, 5, none⟩ (.int .i64 y4)).setCell ⟨w.heap.size + 1, 6, none⟩ (.string u4)).setCell ⟨w.heap.size + 1, 7, none⟩ (.bool g4)) (w.heap.size + 1) #[.string k4, .int .i64 b4, .int .i64 e4, .int .i64 s4, .int .i64 x4, .int .i64 y4, .string u4, .bool g4] 27 from box_put8 BB.out)
  have NO := Lib.hid (show Box ((((((((w3.setCell ⟨w.heap.size + 1, 0, none⟩ (.string k4)).setCell ⟨w.heap.size + 1, 1, none⟩ (.int .i64 b4)).setCell ⟨w.heap.size + 1, 2, none⟩ (.int .i64 e4)).setCell ⟨w.heap.size + 1, 3, none⟩ (.int .i64 s4)).setCell ⟨w.heap.size + 1, 4, none⟩ (.int .i64 x4)).setCell ⟨w.heap.size + 1, 5, none⟩ (.int .i64 y4)).setCell ⟨w.heap.size + 1, 6, none⟩ (.string u4)).setCell ⟨w.heap.size + 1, 7, none⟩ (.bool g4)) (w.heap.size) #[.string k3, .int .i64 b3, .int .i64 e3, .int .i64 s3, .int .i64 x3, .int .i64 y3, .string u3, .bool g3] 27 from other_put8 (.string k4) (.int .i64 b4) (.int .i64 e4) (.int .i64 s4) (.int .i64 x4) (.int .i64 y4) (.string u4) (.bool g4) BA.out (by omega))
  have NG := Lib.hid (show Below w.heap.size w ((((((((w3.setCell ⟨w.heap.size + 1, 0, none⟩ (.string k4)).setCell ⟨w.heap.size + 1, 1, none⟩ (.int .i64 b4)).setCell ⟨w.heap.size + 1, 2, none⟩ (.int .i64 e4)).setCell ⟨w.heap.size + 1, 3, none⟩ (.int .i64 s4)).setCell ⟨w.heap.size + 1, 4, none⟩ (.int .i64 x4)).setCell ⟨w.heap.size + 1, 5, none⟩ (.int .i64 y4)).setCell ⟨w.heap.size + 1, 6, none⟩ (.string u4)).setCell ⟨w.heap.size + 1, 7, none⟩ (.bool g4)) from below_put8 (.string k4) (.int .i64 b4) (.int .i64 e4) (.int .i64 s4) (.int .i64 x4) (.int .i64 y4) (.string u4) (.bool g4) G.out (by omega))
  have p0 := BB.out.cell 0 (.string k2) rfl
  have p1 := BB.out.cell 1 (.int .i64 b2) rfl
  have p2 := BB.out.cell 2 (.int .i64 e2) rfl
  have p3 := BB.out.cell 3 (.int .i64 s2) rfl
  have p4 := BB.out.cell 4 (.int .i64 x2) rfl
  have p5 := BB.out.cell 5 (.int .i64 y2) rfl
  have p6 := BB.out.cell 6 (.string u2) rfl
  have p7 := BB.out.cell 7 (.bool g2) rfl
  have fp0 := BB.out.frozen 0
  have fp1 := BB.out.frozen 1
  have fp2 := BB.out.frozen 2
  have fp3 := BB.out.frozen 3
  have fp4 := BB.out.frozen 4
  have fp5 := BB.out.frozen 5
  have fp6 := BB.out.frozen 6
  have fp7 := BB.out.frozen 7
  have q0 := BA.out.cell 0 (.string k3) rfl
  have q1 := BA.out.cell 1 (.int .i64 b3) rfl
  have q2 := BA.out.cell 2 (.int .i64 e3) rfl
  have q3 := BA.out.cell 3 (.int .i64 s3) rfl
  have q4 := BA.out.cell 4 (.int .i64 x3) rfl
  have q5 := BA.out.cell 5 (.int .i64 y3) rfl
  have q6 := BA.out.cell 6 (.string u3) rfl
  have q7 := BA.out.cell 7 (.bool g3) rfl
  go_wp2_with fail
  generalize ((((((((w3.setCell ⟨w.heap.size + 1, 0, none⟩ (.string k4)).setCell ⟨w.heap.size + 1, 1, none⟩ (.int .i64 b4)).setCell ⟨w.heap.size + 1, 2, none⟩ (.int .i64 e4)).setCell ⟨w.heap.size + 1, 3, none⟩ (.int .i64 s4)).setCell ⟨w.heap.size + 1, 4, none⟩ (.int .i64 x4)).setCell ⟨w.heap.size + 1, 5, none⟩ (.int .i64 y4)).setCell ⟨w.heap.size + 1, 6, none⟩ (.string u4)).setCell ⟨w.heap.size + 1, 7, none⟩ (.bool g4)) = w4 at *
  clear p0 p1 p2 p3 p4 p5 p6 p7 fp0 fp1 fp2 fp3 fp4 fp5 fp6 fp7 q0 q1 q2 q3 q4 q5 q6 q7
  have BA := NO
  have BB := NM
  have G := NG
  clear NM NO NG
  have p0 := BA.out.cell 0 (.string k3) rfl
  have p1 := BA.out.cell 1 (.int .i64 b3) rfl
  have p2 := BA.out.cell 2 (.int .i64 e3) rfl
  have p3 := BA.out.cell 3 (.int .i64 s3) rfl
  have p4 := BA.out.cell 4 (.int .i64 x3) rfl
  have p5 := BA.out.cell 5 (.int .i64 y3) rfl
  have p6 := BA.out.cell 6 (.string u3) rfl
  have p7 := BA.out.cell 7 (.bool g3) rfl
  go_wp2_with fail
  refine (W1.out _).mono ?_
  rintro z w5 ⟨v5, rfl, ho5, hb⟩
  have BA := Lib.hid (BA.out.later hb)
  have BB := Lib.hid (BB.out.later hb)
  have G := Lib.hid (G.out.trans (hb.mono G.out.size))
  have O5 := Lib.hid ho5.rd
  clear hb ho5 p0 p1 p2 p3 p4 p5 p6 p7
  have q0 := BB.out.cell 0 (.string k4) rfl
  have q1 := BB.out.cell 1 (.int .i64 b4) rfl
  have q2 := BB.out.cell 2 (.int .i64 e4) rfl
  have q3 := BB.out.cell 3 (.int .i64 s4) rfl
  have q4 := BB.out.cell 4 (.int .i64 x4) rfl
  have q5 := BB.out.cell 5 (.int .i64 y4) rfl
  have q6 := BB.out.cell 6 (.string u4) rfl
  have q7 := BB.out.cell 7 (.bool g4) rfl
  go_wp2_with fail
  refine (W2.out _).mono ?_
  rintro z w6 ⟨v6, rfl, ho6, hb⟩
  have BA := Lib.hid (BA.out.later hb)
  have BB := Lib.hid (BB.out.later hb)
  have G := Lib.hid (G.out.trans (hb.mono G.out.size))
  have O6 := Lib.hid ho6.rd
  have P5 := Lib.hid (O5.out.on hb)
  clear hb ho6 O5 q0 q1 q2 q3 q4 q5 q6 q7
  cases m1
  · have t1 : f1 = 1 := F1.out.symm
    subst t1
    go_wp2_with fail
    refine (lives_any _).mono ?_
    rintro z w7 ⟨rfl, hb⟩
    have G := Lib.hid (G.out.trans (hb.mono G.out.size))
    clear hb
    go_wp2_with fail
    go_ret
    exact ⟨rfl, G.out⟩
  have t1 : f1 = 0 := F1.out.symm
  subst t1
  cases m2
  · have t2 : f2 = 1 := F2.out.symm
    subst t2
    go_wp2_with fail
    refine (lives_any _).mono ?_
    rintro z w7 ⟨rfl, hb⟩
    have G := Lib.hid (G.out.trans (hb.mono G.out.size))
    clear hb
    go_wp2_with fail
    go_ret
    exact ⟨rfl, G.out⟩
  have t2 : f2 = 0 := F2.out.symm
  subst t2
  simp only [if_true] at P5 O6
  have hq := HQ.out rfl rfl
  clear HQ
  have Q5 := Lib.hid (show RdB w6.drew w6.drew.heap.size v5 n1 from P5.out)
  have Q6 := Lib.hid (show RdB w6.drew w6.drew.heap.size v6 n2 from O6.out)
  have BA := Lib.hid (show Box w6.drew w.heap.size #[.string k3, .int .i64 b3, .int .i64 e3, .int .i64 s3, .int .i64 x3, .int .i64 y3, .string u3, .bool g3] 27 from BA.out)
  have BB := Lib.hid (show Box w6.drew (w.heap.size + 1) #[.string k4, .int .i64 b4, .int .i64 e4, .int .i64 s4, .int .i64 x4, .int .i64 y4, .string u4, .bool g4] 27 from BB.out)
  have G := Lib.hid G.out.drew
  go_wp2_with fail
  refine reg_start (by kernel_rfl) ?_
  refine reg_take2 0 30 (v := ?_) (T' := ?_) (Later.refl _) (by kernel_rfl) (by kernel_rfl) (by kernel_rfl) (fun _ _ _ h => h) (fun o ho => ?_) ?_ ?_
  rotate_left 2
  · cases ho
    refine ⟨rfl, rfl, fun W hW => ?_⟩
    go_simp; (try with_reducible rfl)
  · simp only [List.setIfInBounds_toArray, List.set_cons_succ, List.set_cons_zero]; exact rfl
  refine reg_take2 1 31 (v := ?_) (T' := ?_) (Later.refl _) (by kernel_rfl) (by kernel_rfl) (by kernel_rfl) (fun _ _ _ h => h) (fun o ho => ?_) ?_ ?_
  rotate_left 2
  · cases ho
    refine ⟨rfl, rfl, fun W hW => ?_⟩
    have hcv := RdB.str (RdB.below Q5.out hW)
    go_simp; (try with_reducible rfl)
  · simp only [List.setIfInBounds_toArray, List.set_cons_succ, List.set_cons_zero]; exact rfl
  refine reg_take2 2 32 (v := ?_) (T' := ?_) (Later.refl _) (by kernel_rfl) (by kernel_rfl) (by kernel_rfl) (fun _ _ _ h => h) (fun o ho => ?_) ?_ ?_
  rotate_left 2
  · cases ho
    refine ⟨rfl, rfl, fun W hW => ?_⟩
    go_simp; (try with_reducible rfl)
  · simp only [List.setIfInBounds_toArray, List.set_cons_succ, List.set_cons_zero]; exact rfl
  refine reg_take2 3 33 (v := ?_) (T' := ?_) (Later.refl _) (by kernel_rfl) (by kernel_rfl) (by kernel_rfl) (fun _ _ _ h => h) (fun o ho => ?_) ?_ ?_
  rotate_left 2
  · cases ho
    refine ⟨rfl, rfl, fun W hW => ?_⟩
    have hcv := RdB.str (RdB.below Q6.out hW)
    go_simp; (try with_reducible rfl)
  · simp only [List.setIfInBounds_toArray, List.set_cons_succ, List.set_cons_zero]; exact rfl
  refine reg_take2 4 34 (v := ?_) (T' := ?_) (Later.refl _) (by kernel_rfl) (by kernel_rfl) (by kernel_rfl) (fun _ _ _ h => h) (fun o ho => ?_) ?_ ?_
  rotate_left 2
  · cases ho
    refine ⟨rfl, rfl, fun W hW => ?_⟩
    refine exec_eql_str (u := n1) (v := n2) (r := r) (t2 := 9) (.tmp 31) (.tmp 33) ?_ ?_ ?_ hq
    all_goals rfl
  · simp only [List.setIfInBounds_toArray, List.set_cons_succ, List.set_cons_zero]; exact rfl
  refine reg_take2 5 35 (v := ?_) (T' := ?_) (Later.refl _) (by kernel_rfl) (by kernel_rfl) (by kernel_rfl) (fun _ _ _ h => h) (fun o ho => ?_) ?_ ?_
  rotate_left 2
  · cases ho
    refine ⟨rfl, rfl, fun W hW => ?_⟩
    have BW := BA.out.later hW
    have c0 := BW.cell 0 (.string k3) rfl
    have c1 := BW.cell 1 (.int .i64 b3) rfl
    have c2 := BW.cell 2 (.int .i64 e3) rfl
    have c3 := BW.cell 3 (.int .i64 s3) rfl
    have c4 := BW.cell 4 (.int .i64 x3) rfl
    have c5 := BW.cell 5 (.int .i64 y3) rfl
    have c6 := BW.cell 6 (.string u3) rfl
    have c7 := BW.cell 7 (.bool g3) rfl
    go_simp; (try with_reducible rfl)
  · simp only [List.setIfInBounds_toArray, List.set_cons_succ, List.set_cons_zero]; exact rfl
  refine reg_take2 6 36 (v := ?_) (T' := ?_) (Later.refl _) (by kernel_rfl) (by kernel_rfl) (by kernel_rfl) (fun _ _ _ h => h) (fun o ho => ?_) ?_ ?_
  rotate_left 2
  · cases ho
    refine ⟨rfl, rfl, fun W hW => ?_⟩
    have BW := BB.out.later hW
    have c0 := BW.cell 0 (.string k4) rfl
    have c1 := BW.cell 1 (.int .i64 b4) rfl
    have c2 := BW.cell 2 (.int .i64 e4) rfl
    have c3 := BW.cell 3 (.int .i64 s4) rfl
    have c4 := BW.cell 4 (.int .i64 x4) rfl
    have c5 := BW.cell 5 (.int .i64 y4) rfl
    have c6 := BW.cell 6 (.string u4) rfl
    have c7 := BW.cell 7 (.bool g4) rfl
    go_simp; (try with_reducible rfl)
  · simp only [List.setIfInBounds_toArray, List.set_cons_succ, List.set_cons_zero]; exact rfl
  refine reg_take2 7 37 (v := ?_) (T' := ?_) (Later.refl _) (by kernel_rfl) (by kernel_rfl) (by kernel_rfl) (fun _ _ _ h => h) (fun o ho => ?_) ?_ ?_
  rotate_left 2
  · cases ho
    refine ⟨rfl, rfl, fun W hW => ?_⟩
    refine exec_eql_ver (u := ⟨k3, b3, e3, s3, (x3, y3), u3, g3⟩) (v := ⟨k4, b4, e4, s4, (x4, y4), u4, g4⟩) (r := r) (t2 := 27) (.tmp 35) (.tmp 36) ?_ ?_ ?_ (EQ.out W)
    all_goals rfl
  · simp only [List.setIfInBounds_toArray, List.set_cons_succ, List.set_cons_zero]; exact rfl
  refine reg_take2 8 38 (v := ?_) (T' := ?_) (Later.refl _) (by kernel_rfl) (by kernel_rfl) (by kernel_rfl) (fun _ _ _ h => h) (fun o ho => ?_) ?_ ?_
  rotate_left 2
  · cases ho
    refine ⟨rfl, rfl, fun W hW => ?_⟩
    refine exec_eql_bool (r := r) (t2 := 4) (.tmp 34) (.tmp 37) ?_ ?_ ?_
    all_goals rfl
  · simp only [List.setIfInBounds_toArray, List.set_cons_succ, List.set_cons_zero]; exact rfl
  refine reg_take2 9 39 (v := ?_) (T' := ?_) (Later.refl _) (by kernel_rfl) (by kernel_rfl) (by kernel_rfl) (fun _ _ _ h => h) (fun o ho => ?_) ?_ ?_
  rotate_left 2
  · cases ho
    refine ⟨rfl, rfl, fun W hW => ?_⟩
    go_simp; (try with_reducible rfl)
  · simp only [List.setIfInBounds_toArray, List.set_cons_succ, List.set_cons_zero]; exact rfl
  refine reg_call2 10 40 (Later.refl _) (by kernel_rfl) 15 #[] (fun o ho => by cases ho; exact ⟨rfl, rfl, fun W => by go_simp⟩) ?_
  refine (lives_any _).mono ?_
  rintro z x8 ⟨rfl, hb8⟩
  have G := Lib.hid (G.out.trans (hb8.mono G.out.size))
  refine ⟨.bool true, _, rfl, hb8, (by simp only [List.setIfInBounds_toArray, List.set_cons_succ, List.set_cons_zero]; exact rfl), ?_⟩
  clear hb8
  refine reg_take2 11 41 (v := ?_) (T' := ?_) (Later.refl _) (by kernel_rfl) (by kernel_rfl) (by kernel_rfl) (fun _ _ _ h => h) (fun o ho => ?_) ?_ ?_
  rotate_left 2
  · cases ho
    refine ⟨rfl, rfl, fun W hW => ?_⟩
    go_simp; (try with_reducible rfl)
  · simp only [List.setIfInBounds_toArray, List.set_cons_succ, List.set_cons_zero]; exact rfl
  refine reg_take2 12 4 (v := ?_) (T' := ?_) (Later.refl _) (by kernel_rfl) (by kernel_rfl) (by kernel_rfl) (fun _ _ _ h => h) (fun o ho => ?_) ?_ ?_
  rotate_left 2
  · cases ho
    refine ⟨rfl, rfl, fun W hW => ?_⟩
    go_simp; (try with_reducible rfl)
  · simp only [List.setIfInBounds_toArray, List.set_cons_succ, List.set_cons_zero]; exact rfl
  refine reg_done (by kernel_rfl) ?_
  go_wp2_with fail
  go_ret
  exact ⟨rfl, G.out⟩
-- END
set_option maxRecDepth 100000 in
theorem lifted (os : Os) (started : os.Started) (H : Type) (enc : TypeId × Value → H) :
    ReturnsInHanded {} Try.checked os 9 .any (Rows.rowApartSpec.pre6 enc Try.prog Try.f9 Rows.rowApartRow.domain false) (Rows.rowApartSpec.post enc Try.prog Try.f9 false true false false) := by
  refine returnsInHanded_of_change (C := Try.checked) Try.own started (by kernel_rfl) Try.func9
    (ChangeSpec.witness6 (enc := enc) (C := Try.checked) false ⟨#[], #[.agg #[.string ⟨#[]⟩, .int .i64 0, .int .i64 0, .int .i64 0, .int .i64 0, .int .i64 0, .string ⟨#[]⟩, .bool false], .agg #[.string ⟨#[]⟩, .int .i64 0, .int .i64 0, .int .i64 0, .int .i64 0, .int .i64 0, .string ⟨#[]⟩, .bool false]], []⟩ 8 (by kernel_rfl) (by kernel_rfl) (by kernel_rfl) (by kernel_rfl)) ?_
  intro W base args ds gs before hval0 hW _ _
  have hval : ∀ (j : Nat) t v, Try.f9.params[j]? = some t → args[j]? = some v → Value.okWide Try.prog W .any base t v := hval0
  have hW' := hW
  obtain ⟨p, q, hA0, hV, rfl, _, _⟩ := hW
  have hA : DataW.TrodAll enc Try.prog W 0 (fun _ => true) true Try.f9.params.toList args.toList ds p := hA0
  rw [Try.params9] at hA hval
  obtain ⟨v0, v1, d0, d1, p0, p1, rfl, rfl, rfl, h0, h1⟩ := trodAll_two hA
  obtain ⟨rfl, rfl⟩ := trodVars_none hV
  obtain ⟨a0, rfl, w0⟩ := open_ver (hval 0 _ v0 rfl rfl) h0
  obtain ⟨a1, rfl, w1⟩ := open_ver (hval 1 _ v1 rfl rfl) h1
  refine (walk a0 a1 _).mono fun e W' ⟨he, hb⟩ => ⟨_, he, ?_⟩
  exact law_post Try.laidOut (by decide +kernel) rfl Try.underlying4 rfl hW' rfl hb

theorem holds : Rows.RowApartSaid :=
  OpenClaim.holds_of_wide 9 Try.f9 rfl rfl rfl rfl rfl rfl rfl ⟨rfl, rfl, rfl, rfl, rfl⟩ rfl rfl rfl rfl rfl (by kernel_rfl) Try.func9 (by kernel_rfl)
    (of_decide_eq_true (by kernel_rfl)) (by unfold Func.isWrapper; first | (rw [if_pos (by decide +kernel)]; kernel_rfl) | (rw [if_neg (by decide +kernel)]; exact ⟨rfl, rfl⟩))
    (fun os started H enc _ => lifted os started H enc)
end Go.Proofs.Ytmchiebpijnpiaa.L07
