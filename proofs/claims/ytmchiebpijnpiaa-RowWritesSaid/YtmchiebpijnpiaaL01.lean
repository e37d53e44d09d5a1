/- RowWrites: any version's bytes (few bytes) are just the document's, and are read as it, with what stands behind (any bytes, the first 500); or it is refused. No conditions. -/
import Derived.Test.YtmchiebpijnpiaaRt
import Derived.Test.YtmchiebpijnpiaaRj
import Derived.Test.YtmchiebpijnpiaaRq
import Derived.Test.YtmchiebpijnpiaaRr
namespace Go.Proofs.Ytmchiebpijnpiaa.L01
open Go.RowKit Go.ChangeShapes Go.WideShapes Go.ChangeAt
set_option linter.unusedVariables false

set_option maxHeartbeats 8000000 in
theorem walk (a : Ver) (vr : Value) (l : List UInt8) (w : World) (h : RdB w w.heap.size vr l) :
    Calls Try.prog 3 #[verV a, vr] w fun e w' => e = .returned (.bool true) ∧ Below w.heap.size w w' := by
  have T1 := Lib.hid (fun w => ref6_cut a w)
  have FW := Lib.hid (fun W (h : RdB W w.heap.size vr l) => few_any vr l W h)
  have R := Lib.hid h
  have hml : (l.take 500).length ≤ 500 := List.length_take_le _ _
  generalize l.take 500 = m at *
  clear h
  have hk1 := cut_key a
  generalize cutV a = va at *
  have W1 := Lib.hid (fun w => row_write va w (by omega))
  have MR := Lib.hid (fun w => ref6_may va w (by omega))
  have MP := Lib.hid (fun w => row_may va w (by omega))
  have TE := Lib.hid (fun h => take_enc va m h)
  have NL := Lib.hid (fun h => encV_len (v := va) h (by omega))
  have RW := Lib.hid (fun h w => ref6_write va w h (by omega))
  clear hk1
  generalize encV va = n at *
  generalize mayV va = m1 at *
  generalize hf1 : (if m1 = true then (0 : Int) else 1) = f1 at W1
  have F1 := Lib.hid hf1
  clear hf1
  obtain ⟨k1, b1, e1, s1, ⟨x1, y1⟩, u1, g1⟩ := a
  obtain ⟨k3, b3, e3, s3, ⟨x3, y3⟩, u3, g3⟩ := va
  unfold verV at T1 W1 MR MP RW ⊢
  simp only at T1 W1 MR MP RW ⊢
  have BA := Lib.hid (Box.new w #[.string k1, .int .i64 b1, .int .i64 e1, .int .i64 s1, .int .i64 x1, .int .i64 y1, .string u1, .bool g1] 27 _ rfl)
  have G := Lib.hid (alloc_below w (.cells #[.string k1, .int .i64 b1, .int .i64 e1, .int .i64 s1, .int .i64 x1, .int .i64 y1, .string u1, .bool g1] 27))
  go_enter Try.func3, Try.ntmps3
  go_wp2_with fail
  generalize w.alloc (.cells #[.string k1, .int .i64 b1, .int .i64 e1, .int .i64 s1, .int .i64 x1, .int .i64 y1, .string u1, .bool g1] 27) = w0 at *
  have p0 := BA.out.cell 0 (.string k1) rfl
  have p1 := BA.out.cell 1 (.int .i64 b1) rfl
  have p2 := BA.out.cell 2 (.int .i64 e1) rfl
  have p3 := BA.out.cell 3 (.int .i64 s1) rfl
  have p4 := BA.out.cell 4 (.int .i64 x1) rfl
  have p5 := BA.out.cell 5 (.int .i64 y1) rfl
  have p6 := BA.out.cell 6 (.string u1) rfl
  have p7 := BA.out.cell 7 (.bool g1) rfl
  go_wp2_with fail
  refine (T1.out _).mono ?_
  rintro z w1 ⟨rfl, hb⟩
  have hgz := G.out.size
  have BA := Lib.hid (BA.out.later hb)
  have G := Lib.hid (G.out.trans (hb.mono hgz))
  clear hb hgz p0 p1 p2 p3 p4 p5 p6 p7
  have NM := Lib.hid (show Box ((((((((w1.setCell ⟨w.heap.size, 0, none⟩ (.string k3)).setCell ⟨w.heap.size, 1, none⟩ (.int .i64 b3)).setCell ⟨w.heap.size, 2, none⟩ (.int .i64 e3)).setCell ⟨w.heap.size, 3, none⟩ (.int .i64 s3)).setCell ⟨w.heap.size, 4, none⟩ (.int .i64 x3)).setCell ⟨w.heap.size, 5, none⟩ (.int .i64 y3)).setCell ⟨w.heap.size, 6, none⟩ (.string u3)).setCell ⟨w.heap.size, 7, none⟩ (.bool g3)) w.heap.size #[.string k3, .int .i64 b3, .int .i64 e3, .int .i64 s3, .int .i64 x3, .int .i64 y3, .string u3, .bool g3] 27 from box_put8 BA.out)
  have NG := Lib.hid (show Below w.heap.size w ((((((((w1.setCell ⟨w.heap.size, 0, none⟩ (.string k3)).setCell ⟨w.heap.size, 1, none⟩ (.int .i64 b3)).setCell ⟨w.heap.size, 2, none⟩ (.int .i64 e3)).setCell ⟨w.heap.size, 3, none⟩ (.int .i64 s3)).setCell ⟨w.heap.size, 4, none⟩ (.int .i64 x3)).setCell ⟨w.heap.size, 5, none⟩ (.int .i64 y3)).setCell ⟨w.heap.size, 6, none⟩ (.string u3)).setCell ⟨w.heap.size, 7, none⟩ (.bool g3)) from below_put8 (.string k3) (.int .i64 b3) (.int .i64 e3) (.int .i64 s3) (.int .i64 x3) (.int .i64 y3) (.string u3) (.bool g3) G.out (Nat.le_refl _))
  have p0 := BA.out.cell 0 (.string k1) rfl
  have p1 := BA.out.cell 1 (.int .i64 b1) rfl
  have p2 := BA.out.cell 2 (.int .i64 e1) rfl
  have p3 := BA.out.cell 3 (.int .i64 s1) rfl
  have p4 := BA.out.cell 4 (.int .i64 x1) rfl
  have p5 := BA.out.cell 5 (.int .i64 y1) rfl
  have p6 := BA.out.cell 6 (.string u1) rfl
  have p7 := BA.out.cell 7 (.bool g1) rfl
  have fp0 := BA.out.frozen 0
  have fp1 := BA.out.frozen 1
  have fp2 := BA.out.frozen 2
  have fp3 := BA.out.frozen 3
  have fp4 := BA.out.frozen 4
  have fp5 := BA.out.frozen 5
  have fp6 := BA.out.frozen 6
  have fp7 := BA.out.frozen 7
  go_wp2_with fail
  generalize ((((((((w1.setCell ⟨w.heap.size, 0, none⟩ (.string k3)).setCell ⟨w.heap.size, 1, none⟩ (.int .i64 b3)).setCell ⟨w.heap.size, 2, none⟩ (.int .i64 e3)).setCell ⟨w.heap.size, 3, none⟩ (.int .i64 s3)).setCell ⟨w.heap.size, 4, none⟩ (.int .i64 x3)).setCell ⟨w.heap.size, 5, none⟩ (.int .i64 y3)).setCell ⟨w.heap.size, 6, none⟩ (.string u3)).setCell ⟨w.heap.size, 7, none⟩ (.bool g3)) = w2 at *
  clear p0 p1 p2 p3 p4 p5 p6 p7 fp0 fp1 fp2 fp3 fp4 fp5 fp6 fp7 BA G
  have BA := NM
  have G := NG
  clear NM NG
  refine (FW.out _ (R.out.below G.out)).mono ?_
  rintro z w3 ⟨v1, rfl, hr1, rfl⟩
  have R1 := Lib.hid hr1
  clear hr1
  have p0 := BA.out.cell 0 (.string k3) rfl
  have p1 := BA.out.cell 1 (.int .i64 b3) rfl
  have p2 := BA.out.cell 2 (.int .i64 e3) rfl
  have p3 := BA.out.cell 3 (.int .i64 s3) rfl
  have p4 := BA.out.cell 4 (.int .i64 x3) rfl
  have p5 := BA.out.cell 5 (.int .i64 y3) rfl
  have p6 := BA.out.cell 6 (.string u3) rfl
  have p7 := BA.out.cell 7 (.bool g3) rfl
  go_wp2_with fail
  refine (W1.out _).mono ?_
  rintro z w5 ⟨v5, rfl, ho5, hb⟩
  have hgz := G.out.size
  have BA := Lib.hid (BA.out.later hb)
  have G := Lib.hid (G.out.trans (hb.mono hgz))
  have R1 := Lib.hid (R1.out.below (hb.mono hgz))
  have O5 := Lib.hid ho5.rd
  clear hb ho5 hgz p0 p1 p2 p3 p4 p5 p6 p7
  have p0 := BA.out.cell 0 (.string k3) rfl
  have p1 := BA.out.cell 1 (.int .i64 b3) rfl
  have p2 := BA.out.cell 2 (.int .i64 e3) rfl
  have p3 := BA.out.cell 3 (.int .i64 s3) rfl
  have p4 := BA.out.cell 4 (.int .i64 x3) rfl
  have p5 := BA.out.cell 5 (.int .i64 y3) rfl
  have p6 := BA.out.cell 6 (.string u3) rfl
  have p7 := BA.out.cell 7 (.bool g3) rfl
  go_wp2_with fail
  refine (MR.out _).mono ?_
  rintro z w6 ⟨rfl, hb⟩
  have hgz := G.out.size
  have BA := Lib.hid (BA.out.later hb)
  have G := Lib.hid (G.out.trans (hb.mono hgz))
  have R1 := Lib.hid (R1.out.below (hb.mono hgz))
  have O5 := Lib.hid (O5.out.on hb)
  clear hb hgz p0 p1 p2 p3 p4 p5 p6 p7
  have p0 := BA.out.cell 0 (.string k3) rfl
  have p1 := BA.out.cell 1 (.int .i64 b3) rfl
  have p2 := BA.out.cell 2 (.int .i64 e3) rfl
  have p3 := BA.out.cell 3 (.int .i64 s3) rfl
  have p4 := BA.out.cell 4 (.int .i64 x3) rfl
  have p5 := BA.out.cell 5 (.int .i64 y3) rfl
  have p6 := BA.out.cell 6 (.string u3) rfl
  have p7 := BA.out.cell 7 (.bool g3) rfl
  go_wp2_with fail
  refine (MP.out _).mono ?_
  rintro z w7 ⟨rfl, hb⟩
  have hgz := G.out.size
  have BA := Lib.hid (BA.out.later hb)
  have G := Lib.hid (G.out.trans (hb.mono hgz))
  have P1 := Lib.hid (R1.out.below (hb.mono hgz))
  have P5 := Lib.hid (O5.out.on hb)
  clear hb hgz R1 O5 p0 p1 p2 p3 p4 p5 p6 p7
  cases m1
  · have t1 : f1 = 1 := F1.out.symm
    subst t1
    simp only [Bool.false_eq_true, if_false] at P5
    obtain ⟨A5, c5, e5, -⟩ := P5.out
    subst e5
    go_wp2_with fail
    refine (lives_any _).mono ?_
    rintro z w8 ⟨rfl, hb⟩
    have G := Lib.hid (G.out.trans (hb.mono G.out.size))
    clear hb
    go_wp2_with fail
    go_ret
    exact ⟨rfl, G.out⟩
  have t1 : f1 = 0 := F1.out.symm
  subst t1
  simp only [if_true] at P5
  obtain ⟨htk, hvl⟩ := TE.out rfl
  have hnl := NL.out rfl
  have WR := Lib.hid (RW.out rfl)
  clear TE NL RW
  have P5 := P5
  obtain ⟨A5, c5, e5, -⟩ := id P5.out
  subst e5
  obtain ⟨A1, c1, e1, -⟩ := id P1.out
  subst e1
  have hal1 := Lib.hid (show ([] : List UInt8).length + n.length ≤ 1099511627776 from by simp; omega)
  have hal2 := Lib.hid (show ([] ++ n).length + m.length ≤ 1099511627776 from by rw [List.nil_append]; omega)
  have hal3 := Lib.hid (show (n ++ m).length ≤ 1000000 from by rw [List.length_append]; omega)
  clear hnl hml
  have RD := Lib.hid (fun v W h => row_read v (n ++ m) W h hal3.out)
  rw [htk, hvl] at RD
  unfold verV at RD
  simp only [eq_self, if_true] at RD
  clear htk hvl
  have ON := Lib.hid (OwnB.nil w7 w7.heap.size)
  go_wp2_with (at_builtin; first
    | (refine wpl_app_bytes_b rfl (.tmp 39) (.tmp 40) rfl w7.heap.size _ _ _ [] n rfl rfl ON.out P5.out (Nat.le_refl _) hal1.out ?_; intro v8 w8 ho8 hb8; have O8 := Lib.hid ho8; have H8 := Lib.hid hb8; have Q1 := Lib.hid (P1.out.below (hb8.mono G.out.size)); clear ho8 hb8)
    | (refine wpl_app_bytes_b rfl (.tmp 42) (.tmp 43) rfl w7.heap.size _ _ _ ([] ++ n) m rfl rfl O8.out Q1.out H8.out.size hal2.out ?_; intro v9 w9 ho9 hb9; have O9 := Lib.hid ho9; have H9 := Lib.hid (H8.out.trans hb9); clear ho9 hb9))
  have O9 := Lib.hid (show OwnB w9 w7.heap.size v9 (n ++ m) from by have := O9.out; rw [List.nil_append] at this; exact this)
  have R9 := Lib.hid O9.out.rd
  obtain ⟨A9, c9, e9, -⟩ := own_cap O9.out
  subst e9
  have BA := Lib.hid (BA.out.later H9.out)
  have P5 := Lib.hid (P5.out.on H9.out)
  have P1 := Lib.hid (P1.out.below (H9.out.mono G.out.size))
  have G := Lib.hid (G.out.trans (H9.out.mono G.out.size))
  clear O9 H9 Q1 H8 O8 ON
  refine (RD.out _ _ R9.out).mono ?_
  rintro z w10 ⟨v10, rfl, ho10, hb⟩
  have hgz := G.out.size
  have BA := Lib.hid (BA.out.later hb)
  have P5 := Lib.hid (P5.out.on hb)
  have P1 := Lib.hid (P1.out.below (hb.mono hgz))
  have G := Lib.hid (G.out.trans (hb.mono hgz))
  have S10 := Lib.hid ho10.rd
  obtain ⟨A10, c10, e10, -⟩ := own_cap ho10
  subst e10
  clear hb hgz ho10
  have BX := Lib.hid (Box.new w10 #[.string k3, .int .i64 b3, .int .i64 e3, .int .i64 s3, .int .i64 x3, .int .i64 y3, .string u3, .bool g3] 27 _ rfl)
  have BA := Lib.hid (BA.out.alloc (.cells #[.string k3, .int .i64 b3, .int .i64 e3, .int .i64 s3, .int .i64 x3, .int .i64 y3, .string u3, .bool g3] 27))
  have P5 := Lib.hid (P5.out.on (alloc_below w10 (.cells #[.string k3, .int .i64 b3, .int .i64 e3, .int .i64 s3, .int .i64 x3, .int .i64 y3, .string u3, .bool g3] 27)))
  have S10 := Lib.hid (S10.out.on (alloc_below w10 (.cells #[.string k3, .int .i64 b3, .int .i64 e3, .int .i64 s3, .int .i64 x3, .int .i64 y3, .string u3, .bool g3] 27)))
  have P1 := Lib.hid (P1.out.below ((alloc_below w10 (.cells #[.string k3, .int .i64 b3, .int .i64 e3, .int .i64 s3, .int .i64 x3, .int .i64 y3, .string u3, .bool g3] 27)).mono G.out.size))
  have G := Lib.hid (G.out.trans ((alloc_below w10 (.cells #[.string k3, .int .i64 b3, .int .i64 e3, .int .i64 s3, .int .i64 x3, .int .i64 y3, .string u3, .bool g3] 27)).mono G.out.size))
  go_wp2_with fail
  generalize w10.heap.size = nx at *
  generalize w10.alloc (.cells #[.string k3, .int .i64 b3, .int .i64 e3, .int .i64 s3, .int .i64 x3, .int .i64 y3, .string u3, .bool g3] 27) = w11 at *
  have S5 := Lib.hid (show RdB w11.drew w11.drew.heap.size (.slice A5 n.length c5) n from P5.out)
  have S1 := Lib.hid (show RdB w11.drew w11.drew.heap.size (.slice A1 m.length c1) m from P1.out.more G.out.size)
  have SX := Lib.hid (show RdB w11.drew w11.drew.heap.size (.slice A10 m.length c10) m from S10.out)
  have CA := Lib.hid (show Box w11.drew w.heap.size #[.string k3, .int .i64 b3, .int .i64 e3, .int .i64 s3, .int .i64 x3, .int .i64 y3, .string u3, .bool g3] 27 from BA.out)
  have CX := Lib.hid (show Box w11.drew nx #[.string k3, .int .i64 b3, .int .i64 e3, .int .i64 s3, .int .i64 x3, .int .i64 y3, .string u3, .bool g3] 27 from BX.out)
  have G := Lib.hid G.out.drew
  refine reg_start (by kernel_rfl) ?_
  refine reg_take2 0 51 (v := ?_) (T' := ?_) (Later.refl _) (by kernel_rfl) (by kernel_rfl) (by kernel_rfl) (fun _ _ _ h => h) (fun o ho => ?_) ?_ ?_
  rotate_left 2
  · cases ho
    refine ⟨rfl, rfl, fun W hW => ?_⟩
    go_simp; (try with_reducible rfl)
  · simp only [List.setIfInBounds_toArray, List.set_cons_succ, List.set_cons_zero]; exact rfl
  refine reg_take2 1 52 (v := ?_) (T' := ?_) (Later.refl _) (by kernel_rfl) (by kernel_rfl) (by kernel_rfl) (fun _ _ _ h => h) (fun o ho => ?_) ?_ ?_
  rotate_left 2
  · cases ho
    refine ⟨rfl, rfl, fun W hW => ?_⟩
    have hcv := RdB.str (RdB.below S5.out hW)
    go_simp; (try with_reducible rfl)
  · simp only [List.setIfInBounds_toArray, List.set_cons_succ, List.set_cons_zero]; exact rfl
  refine reg_take2 2 53 (v := ?_) (T' := ?_) (Later.refl _) (by kernel_rfl) (by kernel_rfl) (by kernel_rfl) (fun _ _ _ h => h) (fun o ho => ?_) ?_ ?_
  rotate_left 2
  · cases ho
    refine ⟨rfl, rfl, fun W hW => ?_⟩
    have BW := CA.out.later hW
    have c0 := BW.cell 0 (.string k3) rfl
    have c1 := BW.cell 1 (.int .i64 b3) rfl
    have c2 := BW.cell 2 (.int .i64 e3) rfl
    have c3 := BW.cell 3 (.int .i64 s3) rfl
    have c4 := BW.cell 4 (.int .i64 x3) rfl
    have c5 := BW.cell 5 (.int .i64 y3) rfl
    have c6 := BW.cell 6 (.string u3) rfl
    have c7 := BW.cell 7 (.bool g3) rfl
    go_simp; (try with_reducible rfl)
  · simp only [List.setIfInBounds_toArray, List.set_cons_succ, List.set_cons_zero]; exact rfl
  refine reg_call2 3 54 (Later.refl _) (by kernel_rfl) 17 #[.agg #[.string k3, .int .i64 b3, .int .i64 e3, .int .i64 s3, .int .i64 x3, .int .i64 y3, .string u3, .bool g3]] (fun o ho => by cases ho; exact ⟨rfl, rfl, fun W => by go_simp⟩) ?_
  refine (WR.out _).mono ?_
  rintro z x1 ⟨y1, rfl, hy1, hb1⟩
  have Y1 := Lib.hid hy1.rd
  have S1 := Lib.hid (S1.out.on hb1)
  have SX := Lib.hid (SX.out.on hb1)
  have CA := Lib.hid (CA.out.later hb1)
  have CX := Lib.hid (CX.out.later hb1)
  have G := Lib.hid (G.out.trans (hb1.mono G.out.size))
  refine ⟨_, _, rfl, hb1, (by simp only [List.setIfInBounds_toArray, List.set_cons_succ, List.set_cons_zero]; exact rfl), ?_⟩
  clear hy1 hb1
  refine reg_take2 4 55 (v := ?_) (T' := ?_) (Later.refl _) (by kernel_rfl) (by kernel_rfl) (by kernel_rfl) (fun _ _ _ h => h) (fun o ho => ?_) ?_ ?_
  rotate_left 2
  · cases ho
    refine ⟨rfl, rfl, fun W hW => ?_⟩
    have hcv := RdB.str (RdB.below Y1.out hW)
    go_simp; (try with_reducible rfl)
  · simp only [List.setIfInBounds_toArray, List.set_cons_succ, List.set_cons_zero]; exact rfl
  refine reg_take2 5 56 (v := ?_) (T' := ?_) (Later.refl _) (by kernel_rfl) (by kernel_rfl) (by kernel_rfl) (fun _ _ _ h => h) (fun o ho => ?_) ?_ ?_
  rotate_left 2
  · cases ho
    refine ⟨rfl, rfl, fun W hW => ?_⟩
    refine exec_eql_str (u := n) (v := n) (r := true) (t2 := 9) (.tmp 52) (.tmp 55) ?_ ?_ ?_ (decide_eq_true rfl)
    all_goals rfl
  · simp only [List.setIfInBounds_toArray, List.set_cons_succ, List.set_cons_zero]; exact rfl
  refine reg_take2 6 57 (v := ?_) (T' := ?_) (Later.refl _) (by kernel_rfl) (by kernel_rfl) (by kernel_rfl) (fun _ _ _ h => h) (fun o ho => ?_) ?_ ?_
  rotate_left 2
  · cases ho
    refine ⟨rfl, rfl, fun W hW => ?_⟩
    go_simp; (try with_reducible rfl)
  · simp only [List.setIfInBounds_toArray, List.set_cons_succ, List.set_cons_zero]; exact rfl
  refine reg_take2 7 58 (v := ?_) (T' := ?_) (Later.refl _) (by kernel_rfl) (by kernel_rfl) (by kernel_rfl) (fun _ _ _ h => h) (fun o ho => ?_) ?_ ?_
  rotate_left 2
  · cases ho
    refine ⟨rfl, rfl, fun W hW => ?_⟩
    go_simp; (try with_reducible rfl)
  · simp only [List.setIfInBounds_toArray, List.set_cons_succ, List.set_cons_zero]; exact rfl
  refine reg_take2 8 59 (v := ?_) (T' := ?_) (Later.refl _) (by kernel_rfl) (by kernel_rfl) (by kernel_rfl) (fun _ _ _ h => h) (fun o ho => ?_) ?_ ?_
  rotate_left 2
  · cases ho
    refine ⟨rfl, rfl, fun W hW => ?_⟩
    go_simp; (try with_reducible rfl)
  · simp only [List.setIfInBounds_toArray, List.set_cons_succ, List.set_cons_zero]; exact rfl
  refine reg_take2 9 60 (v := ?_) (T' := ?_) (Later.refl _) (by kernel_rfl) (by kernel_rfl) (by kernel_rfl) (fun _ _ _ h => h) (fun o ho => ?_) ?_ ?_
  rotate_left 2
  · cases ho
    refine ⟨rfl, rfl, fun W hW => ?_⟩
    go_simp; (try with_reducible rfl)
  · simp only [List.setIfInBounds_toArray, List.set_cons_succ, List.set_cons_zero]; exact rfl
  refine reg_take2 10 61 (v := ?_) (T' := ?_) (Later.refl _) (by kernel_rfl) (by kernel_rfl) (by kernel_rfl) (fun _ _ _ h => h) (fun o ho => ?_) ?_ ?_
  rotate_left 2
  · cases ho
    refine ⟨rfl, rfl, fun W hW => ?_⟩
    go_simp; (try with_reducible rfl)
  · simp only [List.setIfInBounds_toArray, List.set_cons_succ, List.set_cons_zero]; exact rfl
  refine reg_take2 11 62 (v := ?_) (T' := ?_) (Later.refl _) (by kernel_rfl) (by kernel_rfl) (by kernel_rfl) (fun _ _ _ h => h) (fun o ho => ?_) ?_ ?_
  rotate_left 2
  · cases ho
    refine ⟨rfl, rfl, fun W hW => ?_⟩
    have BW := CX.out.later hW
    have c0 := BW.cell 0 (.string k3) rfl
    have c1 := BW.cell 1 (.int .i64 b3) rfl
    have c2 := BW.cell 2 (.int .i64 e3) rfl
    have c3 := BW.cell 3 (.int .i64 s3) rfl
    have c4 := BW.cell 4 (.int .i64 x3) rfl
    have c5 := BW.cell 5 (.int .i64 y3) rfl
    have c6 := BW.cell 6 (.string u3) rfl
    have c7 := BW.cell 7 (.bool g3) rfl
    go_simp; (try with_reducible rfl)
  · simp only [List.setIfInBounds_toArray, List.set_cons_succ, List.set_cons_zero]; exact rfl
  refine reg_take2 12 63 (v := ?_) (T' := ?_) (Later.refl _) (by kernel_rfl) (by kernel_rfl) (by kernel_rfl) (fun _ _ _ h => h) (fun o ho => ?_) ?_ ?_
  rotate_left 2
  · cases ho
    refine ⟨rfl, rfl, fun W hW => ?_⟩
    have BW := CA.out.later hW
    have c0 := BW.cell 0 (.string k3) rfl
    have c1 := BW.cell 1 (.int .i64 b3) rfl
    have c2 := BW.cell 2 (.int .i64 e3) rfl
    have c3 := BW.cell 3 (.int .i64 s3) rfl
    have c4 := BW.cell 4 (.int .i64 x3) rfl
    have c5 := BW.cell 5 (.int .i64 y3) rfl
    have c6 := BW.cell 6 (.string u3) rfl
    have c7 := BW.cell 7 (.bool g3) rfl
    go_simp; (try with_reducible rfl)
  · simp only [List.setIfInBounds_toArray, List.set_cons_succ, List.set_cons_zero]; exact rfl
  refine reg_take2 13 64 (v := ?_) (T' := ?_) (Later.refl _) (by kernel_rfl) (by kernel_rfl) (by kernel_rfl) (fun _ _ _ h => h) (fun o ho => ?_) ?_ ?_
  rotate_left 2
  · cases ho
    refine ⟨rfl, rfl, fun W hW => ?_⟩
    refine exec_eql_ver (u := ⟨k3, b3, e3, s3, (x3, y3), u3, g3⟩) (v := ⟨k3, b3, e3, s3, (x3, y3), u3, g3⟩) (r := true) (t2 := 27) (.tmp 62) (.tmp 63) ?_ ?_ ?_ (ver_eql_same W _)
    all_goals rfl
  · simp only [List.setIfInBounds_toArray, List.set_cons_succ, List.set_cons_zero]; exact rfl
  refine reg_take2 14 65 (v := ?_) (T' := ?_) (Later.refl _) (by kernel_rfl) (by kernel_rfl) (by kernel_rfl) (fun _ _ _ h => h) (fun o ho => ?_) ?_ ?_
  rotate_left 2
  · cases ho
    refine ⟨rfl, rfl, fun W hW => ?_⟩
    go_simp; (try with_reducible rfl)
  · simp only [List.setIfInBounds_toArray, List.set_cons_succ, List.set_cons_zero]; exact rfl
  refine reg_take2 15 66 (v := ?_) (T' := ?_) (Later.refl _) (by kernel_rfl) (by kernel_rfl) (by kernel_rfl) (fun _ _ _ h => h) (fun o ho => ?_) ?_ ?_
  rotate_left 2
  · cases ho
    refine ⟨rfl, rfl, fun W hW => ?_⟩
    go_simp; (try with_reducible rfl)
  · simp only [List.setIfInBounds_toArray, List.set_cons_succ, List.set_cons_zero]; exact rfl
  refine reg_take2 16 67 (v := ?_) (T' := ?_) (Later.refl _) (by kernel_rfl) (by kernel_rfl) (by kernel_rfl) (fun _ _ _ h => h) (fun o ho => ?_) ?_ ?_
  rotate_left 2
  · cases ho
    refine ⟨rfl, rfl, fun W hW => ?_⟩
    go_simp; (try with_reducible rfl)
  · simp only [List.setIfInBounds_toArray, List.set_cons_succ, List.set_cons_zero]; exact rfl
  refine reg_take2 17 68 (v := ?_) (T' := ?_) (Later.refl _) (by kernel_rfl) (by kernel_rfl) (by kernel_rfl) (fun _ _ _ h => h) (fun o ho => ?_) ?_ ?_
  rotate_left 2
  · cases ho
    refine ⟨rfl, rfl, fun W hW => ?_⟩
    have hcv := RdB.str (RdB.below SX.out hW)
    go_simp; (try with_reducible rfl)
  · simp only [List.setIfInBounds_toArray, List.set_cons_succ, List.set_cons_zero]; exact rfl
  refine reg_take2 18 69 (v := ?_) (T' := ?_) (Later.refl _) (by kernel_rfl) (by kernel_rfl) (by kernel_rfl) (fun _ _ _ h => h) (fun o ho => ?_) ?_ ?_
  rotate_left 2
  · cases ho
    refine ⟨rfl, rfl, fun W hW => ?_⟩
    go_simp; (try with_reducible rfl)
  · simp only [List.setIfInBounds_toArray, List.set_cons_succ, List.set_cons_zero]; exact rfl
  refine reg_take2 19 70 (v := ?_) (T' := ?_) (Later.refl _) (by kernel_rfl) (by kernel_rfl) (by kernel_rfl) (fun _ _ _ h => h) (fun o ho => ?_) ?_ ?_
  rotate_left 2
  · cases ho
    refine ⟨rfl, rfl, fun W hW => ?_⟩
    have hcv := RdB.str (RdB.below S1.out hW)
    go_simp; (try with_reducible rfl)
  · simp only [List.setIfInBounds_toArray, List.set_cons_succ, List.set_cons_zero]; exact rfl
  refine reg_take2 20 71 (v := ?_) (T' := ?_) (Later.refl _) (by kernel_rfl) (by kernel_rfl) (by kernel_rfl) (fun _ _ _ h => h) (fun o ho => ?_) ?_ ?_
  rotate_left 2
  · cases ho
    refine ⟨rfl, rfl, fun W hW => ?_⟩
    refine exec_eql_str (u := m) (v := m) (r := true) (t2 := 9) (.tmp 68) (.tmp 70) ?_ ?_ ?_ (decide_eq_true rfl)
    all_goals rfl
  · simp only [List.setIfInBounds_toArray, List.set_cons_succ, List.set_cons_zero]; exact rfl
  refine reg_take2 21 72 (v := ?_) (T' := ?_) (Later.refl _) (by kernel_rfl) (by kernel_rfl) (by kernel_rfl) (fun _ _ _ h => h) (fun o ho => ?_) ?_ ?_
  rotate_left 2
  · cases ho
    refine ⟨rfl, rfl, fun W hW => ?_⟩
    go_simp; (try with_reducible rfl)
  · simp only [List.setIfInBounds_toArray, List.set_cons_succ, List.set_cons_zero]; exact rfl
  refine reg_take2 22 73 (v := ?_) (T' := ?_) (Later.refl _) (by kernel_rfl) (by kernel_rfl) (by kernel_rfl) (fun _ _ _ h => h) (fun o ho => ?_) ?_ ?_
  rotate_left 2
  · cases ho
    refine ⟨rfl, rfl, fun W hW => ?_⟩
    go_simp; (try with_reducible rfl)
  · simp only [List.setIfInBounds_toArray, List.set_cons_succ, List.set_cons_zero]; exact rfl
  refine reg_take2 23 74 (v := ?_) (T' := ?_) (Later.refl _) (by kernel_rfl) (by kernel_rfl) (by kernel_rfl) (fun _ _ _ h => h) (fun o ho => ?_) ?_ ?_
  rotate_left 2
  · cases ho
    refine ⟨rfl, rfl, fun W hW => ?_⟩
    go_simp; (try with_reducible rfl)
  · simp only [List.setIfInBounds_toArray, List.set_cons_succ, List.set_cons_zero]; exact rfl
  refine reg_take2 24 75 (v := ?_) (T' := ?_) (Later.refl _) (by kernel_rfl) (by kernel_rfl) (by kernel_rfl) (fun _ _ _ h => h) (fun o ho => ?_) ?_ ?_
  rotate_left 2
  · cases ho
    refine ⟨rfl, rfl, fun W hW => ?_⟩
    go_simp; (try with_reducible rfl)
  · simp only [List.setIfInBounds_toArray, List.set_cons_succ, List.set_cons_zero]; exact rfl
  refine reg_take2 25 76 (v := ?_) (T' := ?_) (Later.refl _) (by kernel_rfl) (by kernel_rfl) (by kernel_rfl) (fun _ _ _ h => h) (fun o ho => ?_) ?_ ?_
  rotate_left 2
  · cases ho
    refine ⟨rfl, rfl, fun W hW => ?_⟩
    go_simp; (try with_reducible rfl)
  · simp only [List.setIfInBounds_toArray, List.set_cons_succ, List.set_cons_zero]; exact rfl
  refine reg_take2 26 77 (v := ?_) (T' := ?_) (Later.refl _) (by kernel_rfl) (by kernel_rfl) (by kernel_rfl) (fun _ _ _ h => h) (fun o ho => ?_) ?_ ?_
  rotate_left 2
  · cases ho
    refine ⟨rfl, rfl, fun W hW => ?_⟩
    go_simp; (try with_reducible rfl)
  · simp only [List.setIfInBounds_toArray, List.set_cons_succ, List.set_cons_zero]; exact rfl
  refine reg_call2 27 78 (Later.refl _) (by kernel_rfl) 15 #[] (fun o ho => by cases ho; exact ⟨rfl, rfl, fun W => by go_simp⟩) ?_
  refine (lives_any _).mono ?_
  rintro z x8 ⟨rfl, hb8⟩
  have G := Lib.hid (G.out.trans (hb8.mono G.out.size))
  refine ⟨.bool true, _, rfl, hb8, (by simp only [List.setIfInBounds_toArray, List.set_cons_succ, List.set_cons_zero]; exact rfl), ?_⟩
  clear hb8
  refine reg_take2 28 79 (v := ?_) (T' := ?_) (Later.refl _) (by kernel_rfl) (by kernel_rfl) (by kernel_rfl) (fun _ _ _ h => h) (fun o ho => ?_) ?_ ?_
  rotate_left 2
  · cases ho
    refine ⟨rfl, rfl, fun W hW => ?_⟩
    go_simp; (try with_reducible rfl)
  · simp only [List.setIfInBounds_toArray, List.set_cons_succ, List.set_cons_zero]; exact rfl
  refine reg_take2 29 4 (v := ?_) (T' := ?_) (Later.refl _) (by kernel_rfl) (by kernel_rfl) (by kernel_rfl) (fun _ _ _ h => h) (fun o ho => ?_) ?_ ?_
  rotate_left 2
  · cases ho
    refine ⟨rfl, rfl, fun W hW => ?_⟩
    go_simp; (try with_reducible rfl)
  · simp only [List.setIfInBounds_toArray, List.set_cons_succ, List.set_cons_zero]; exact rfl
  refine reg_done (by kernel_rfl) ?_
  go_wp2_with fail
  go_ret
  exact ⟨rfl, G.out⟩
-- END
set_option maxRecDepth 100000 in
theorem lifted (os : Os) (started : os.Started) (H : Type) (enc : TypeId × Value → H) :
    ReturnsInHanded {} Try.checked os 3 .any (Rows.rowWritesSpec.pre6 enc Try.prog Try.f3 Rows.rowWritesRow.domain false) (Rows.rowWritesSpec.post enc Try.prog Try.f3 false true false false) := by
  refine returnsInHanded_of_change (C := Try.checked) Try.own started (by kernel_rfl) Try.func3
    (ChangeSpec.witness6 (enc := enc) (C := Try.checked) false ⟨#[], #[.agg #[.string ⟨#[]⟩, .int .i64 0, .int .i64 0, .int .i64 0, .int .i64 0, .int .i64 0, .string ⟨#[]⟩, .bool false], .slice none 0 0], []⟩ 8 (by kernel_rfl) (by kernel_rfl) (by kernel_rfl) (by kernel_rfl)) ?_
  intro W base args ds gs before hval0 hW _ _
  have hval : ∀ (j : Nat) t v, Try.f3.params[j]? = some t → args[j]? = some v → Value.okWide Try.prog W .any base t v := hval0
  have hW' := hW
  obtain ⟨p, q, hA0, hV, rfl, _, _⟩ := hW
  have hA : DataW.TrodAll enc Try.prog W 0 (fun _ => true) true Try.f3.params.toList args.toList ds p := hA0
  rw [Try.params3] at hA hval
  obtain ⟨v0, v1, d0, d1, p0, p1, rfl, rfl, rfl, h0, h1⟩ := trodAll_two hA
  obtain ⟨rfl, rfl⟩ := trodVars_none hV
  have hlt := fun x hx => hW'.lt x hx
  obtain ⟨a0, rfl, w0⟩ := open_ver (hval 0 _ v0 rfl rfl) h0
  obtain ⟨a1, r1⟩ := open_bytes (hval 1 _ v1 rfl rfl) h1 (fun x hx => by simpa using hlt x (by simp [hx]))
  refine (walk a0 v1 a1 _ r1).mono fun e W' ⟨he, hb⟩ => ⟨_, he, ?_⟩
  exact law_post Try.laidOut (by decide +kernel) rfl Try.underlying4 rfl hW' rfl hb

theorem holds : Rows.RowWritesSaid :=
  OpenClaim.holds_of_wide 3 Try.f3 rfl rfl rfl rfl rfl rfl rfl ⟨rfl, rfl, rfl, rfl, rfl⟩ rfl rfl rfl rfl rfl (by kernel_rfl) Try.func3 (by kernel_rfl)
    (of_decide_eq_true (by kernel_rfl)) (by unfold Func.isWrapper; first | (rw [if_pos (by decide +kernel)]; kernel_rfl) | (rw [if_neg (by decide +kernel)]; exact ⟨rfl, rfl⟩))
    (fun os started H enc _ => lifted os started H enc)
end Go.Proofs.Ytmchiebpijnpiaa.L01
