/- RowReads: any bytes (the first 500) are read as the document's version, with what stands behind, or refused with its error. No conditions. -/
import Derived.Test.YtmchiebpijnpiaaRt
import Derived.Test.YtmchiebpijnpiaaRl
import Derived.Test.YtmchiebpijnpiaaRj
import Derived.Test.YtmchiebpijnpiaaRq
import Derived.Test.YtmchiebpijnpiaaRr
namespace Go.Proofs.Ytmchiebpijnpiaa.L02
open Go.RowKit Go.ChangeShapes Go.WideShapes Go.ChangeAt
set_option linter.unusedVariables false

set_option maxHeartbeats 8000000 in
theorem walk (va : Value) (l : List UInt8) (w : World) (h : RdB w w.heap.size va l) :
    Calls Try.prog 4 #[va] w fun e w' => e = .returned (.bool true) ∧ Below w.heap.size w w' := by
  have FW := Lib.hid (few_any va l w h)
  have hlen : (l.take 500).length ≤ 500 := List.length_take_le _ _
  generalize l.take 500 = m at *
  clear h
  have RD := Lib.hid (fun v w h => row_read v m w h (by omega))
  have LK : Lk (m, 0) m (0, 0) := ⟨rfl, fun _ => rfl⟩
  have TK := Lib.hid (fun w g p h => ref6_take w g p m 0 0 h (by omega))
  have hlt := link_take LK
  have hlv := (link_val LK).2
  have hz := take_zero m 0
  have hless := take_less m 0
  simp only at hlt hlv
  rw [← hlt] at TK
  clear hlt LK
  generalize takeL m 0 = tk at *
  generalize valL m 0 = vl at *
  generalize valQ m 0 0 = vq at *
  obtain ⟨⟨k, b, e, s, ⟨x, y⟩, u, gg⟩, te⟩ := tk
  obtain ⟨vx, l2, ve⟩ := vl
  obtain ⟨vx', q2, ve'⟩ := vq
  unfold Lk at hlv
  unfold zeroV at hz
  unfold verV at RD TK
  simp only at hlv hz hless RD TK
  obtain ⟨hv1, hv2⟩ := hlv
  have HV2 := Lib.hid hv2
  have HZ := Lib.hid hz
  have HLESS := Lib.hid hless
  clear hv2 hz hless
  go_enter Try.func4, Try.ntmps4
  go_wp2_with fail
  refine FW.out.mono ?_
  rintro z w1 ⟨v1, rfl, hr1, rfl⟩
  have R0 := Lib.hid hr1
  obtain ⟨A0, c0, rfl, -⟩ := hr1
  go_wp2_with fail
  refine (RD.out _ _ R0.out).mono ?_
  rintro z w1 ⟨v2, rfl, ho2, hb2⟩
  have R0 := Lib.hid (R0.out.on hb2)
  have R2 := Lib.hid ho2.rd
  have G := Lib.hid hb2
  obtain ⟨A2, c2, e2, -⟩ := own_cap ho2
  subst e2
  clear ho2 hb2
  have BX := Lib.hid (Box.new w1 #[.string k, .int .i64 b, .int .i64 e, .int .i64 s, .int .i64 x, .int .i64 y, .string u, .bool gg] 27 _ rfl)
  have P0 := Lib.hid (R0.out.on (alloc_below w1 (.cells #[.string k, .int .i64 b, .int .i64 e, .int .i64 s, .int .i64 x, .int .i64 y, .string u, .bool gg] 27)))
  have P2 := Lib.hid (R2.out.on (alloc_below w1 (.cells #[.string k, .int .i64 b, .int .i64 e, .int .i64 s, .int .i64 x, .int .i64 y, .string u, .bool gg] 27)))
  clear R0 R2
  have R0 := P0
  have R2 := P2
  clear P0 P2
  have G := Lib.hid (G.out.trans ((alloc_below w1 (.cells #[.string k, .int .i64 b, .int .i64 e, .int .i64 s, .int .i64 x, .int .i64 y, .string u, .bool gg] 27)).mono G.out.size))
  generalize hnx : w1.heap.size = nx at *
  by_cases hte : te = 0
  · subst hte
    obtain ⟨hve, -, -⟩ := HLESS.out rfl
    subst hve
    subst hv1
    have HQ := Lib.hid (HV2.out rfl)
    simp only [if_true] at R2
    clear HV2 HLESS
    have hs2 : (w1.alloc (.cells #[.string k, .int .i64 b, .int .i64 e, .int .i64 s, .int .i64 x, .int .i64 y, .string u, .bool gg] 27)).heap.size = nx + 1 := by simp [hnx]
    have D := Lib.hid (RdQ.made (w1.alloc (.cells #[.string k, .int .i64 b, .int .i64 e, .int .i64 s, .int .i64 x, .int .i64 y, .string u, .bool gg] 27)) A0 c0 m R0.out)
    rw [hs2] at D
    have hxl := Lib.hid BX.out.lt
    have HS2 := Lib.hid hs2
    clear hs2
    go_wp2_with fail
    generalize w1.alloc (.cells #[.string k, .int .i64 b, .int .i64 e, .int .i64 s, .int .i64 x, .int .i64 y, .string u, .bool gg] 27) = w2 at *
    clear hnx
    refine (TK.out _ _ _ D.out).mono ?_
    rintro z w4 ⟨rfl, hd, hg⟩
    have hb4 := (alloc_below w2 (.cells #[.slice A0 m.length c0, .int .i64 0, .int .i64 0] 42)).grown hg (by simp) (by intro k hk; injection hk with hk; have := HS2.out; omega)
    have BX := Lib.hid (BX.out.on hb4 hxl.out)
    have R0 := Lib.hid (R0.out.on hb4)
    have R2 := Lib.hid (R2.out.on hb4)
    have G := Lib.hid (G.out.trans (hb4.mono G.out.size))
    clear D
    have D := Lib.hid (hd.on (alloc_below w4 (.cells #[.string k, .int .i64 b, .int .i64 e, .int .i64 s, .int .i64 x, .int .i64 y, .string u, .bool gg] 27)))
    have BX := Lib.hid (BX.out.alloc (.cells #[.string k, .int .i64 b, .int .i64 e, .int .i64 s, .int .i64 x, .int .i64 y, .string u, .bool gg] 27))
    have BY := Lib.hid (Box.new w4 #[.string k, .int .i64 b, .int .i64 e, .int .i64 s, .int .i64 x, .int .i64 y, .string u, .bool gg] 27 _ rfl)
    have R0 := Lib.hid (R0.out.on (alloc_below w4 (.cells #[.string k, .int .i64 b, .int .i64 e, .int .i64 s, .int .i64 x, .int .i64 y, .string u, .bool gg] 27)))
    have R2 := Lib.hid (R2.out.on (alloc_below w4 (.cells #[.string k, .int .i64 b, .int .i64 e, .int .i64 s, .int .i64 x, .int .i64 y, .string u, .bool gg] 27)))
    have G := Lib.hid (G.out.trans ((alloc_below w4 (.cells #[.string k, .int .i64 b, .int .i64 e, .int .i64 s, .int .i64 x, .int .i64 y, .string u, .bool gg] 27)).mono G.out.size))
    clear hd hg hb4 hxl
    go_wp2_with fail
    generalize w4.heap.size = ny at *
    generalize w4.alloc (.cells #[.string k, .int .i64 b, .int .i64 e, .int .i64 s, .int .i64 x, .int .i64 y, .string u, .bool gg] 27) = w5 at *
    obtain ⟨A9, c9, hsl, hr9⟩ := sl_tail R0.out q2 (q2 : Int) rfl D.out.le
    have R9 := Lib.hid (show RdB w5.drew w5.drew.heap.size (.slice A9 (m.length - q2) c9) (m.drop q2) from hr9)
    have S2 := Lib.hid (show RdB w5.drew w5.drew.heap.size (.slice A2 l2.length c2) l2 from R2.out)
    have E := Lib.hid (show RdQ w5.drew (nx + 1) (.pointer (some ⟨nx + 1, 0, none⟩)) m q2 0 from D.out.on (Below.refl _ w5).drew)
    have CX := Lib.hid (show Box w5.drew nx #[.string k, .int .i64 b, .int .i64 e, .int .i64 s, .int .i64 x, .int .i64 y, .string u, .bool gg] 27 from BX.out)
    have CY := Lib.hid (show Box w5.drew ny #[.string k, .int .i64 b, .int .i64 e, .int .i64 s, .int .i64 x, .int .i64 y, .string u, .bool gg] 27 from BY.out)
    have G := Lib.hid G.out.drew
    have hq := HQ.out
    have HQ := Lib.hid (show decide (l2 = m.drop q2) = true from by rw [hq]; simp)
    clear hq hr9
    refine reg_start (by kernel_rfl) ?_
    refine reg_take2 0 43 (v := ?_) (T' := ?_) (Later.refl _) (by kernel_rfl) (by kernel_rfl) (by kernel_rfl) (fun _ _ _ h => h) (fun o ho => ?_) ?_ ?_
    rotate_left 2
    · cases ho
      refine ⟨rfl, rfl, fun W hW => ?_⟩
      have BW := CX.out.later hW
      have c0 := BW.cell 0 (.string k) rfl
      have c1 := BW.cell 1 (.int .i64 b) rfl
      have c2 := BW.cell 2 (.int .i64 e) rfl
      have c3 := BW.cell 3 (.int .i64 s) rfl
      have c4 := BW.cell 4 (.int .i64 x) rfl
      have c5 := BW.cell 5 (.int .i64 y) rfl
      have c6 := BW.cell 6 (.string u) rfl
      have c7 := BW.cell 7 (.bool gg) rfl
      go_simp; (try with_reducible rfl)
    · simp only [List.setIfInBounds_toArray, List.set_cons_succ, List.set_cons_zero]; exact rfl
    refine reg_take2 1 44 (v := ?_) (T' := ?_) (Later.refl _) (by kernel_rfl) (by kernel_rfl) (by kernel_rfl) (fun _ _ _ h => h) (fun o ho => ?_) ?_ ?_
    rotate_left 2
    · cases ho
      refine ⟨rfl, rfl, fun W hW => ?_⟩
      have BW := CY.out.later hW
      have c0 := BW.cell 0 (.string k) rfl
      have c1 := BW.cell 1 (.int .i64 b) rfl
      have c2 := BW.cell 2 (.int .i64 e) rfl
      have c3 := BW.cell 3 (.int .i64 s) rfl
      have c4 := BW.cell 4 (.int .i64 x) rfl
      have c5 := BW.cell 5 (.int .i64 y) rfl
      have c6 := BW.cell 6 (.string u) rfl
      have c7 := BW.cell 7 (.bool gg) rfl
      go_simp; (try with_reducible rfl)
    · simp only [List.setIfInBounds_toArray, List.set_cons_succ, List.set_cons_zero]; exact rfl
    refine reg_take2 2 45 (v := ?_) (T' := ?_) (Later.refl _) (by kernel_rfl) (by kernel_rfl) (by kernel_rfl) (fun _ _ _ h => h) (fun o ho => ?_) ?_ ?_
    rotate_left 2
    · cases ho
      refine ⟨rfl, rfl, fun W hW => ?_⟩
      refine exec_eql_ver (u := ⟨k, b, e, s, (x, y), u, gg⟩) (v := ⟨k, b, e, s, (x, y), u, gg⟩) (r := true) (t2 := 27) (.tmp 43) (.tmp 44) ?_ ?_ ?_ (ver_eql_same W _)
      all_goals rfl
    · simp only [List.setIfInBounds_toArray, List.set_cons_succ, List.set_cons_zero]; exact rfl
    refine reg_take2 3 46 (v := ?_) (T' := ?_) (Later.refl _) (by kernel_rfl) (by kernel_rfl) (by kernel_rfl) (fun _ _ _ h => h) (fun o ho => ?_) ?_ ?_
    rotate_left 2
    · cases ho
      refine ⟨rfl, rfl, fun W hW => ?_⟩
      go_simp; (try with_reducible rfl)
    · simp only [List.setIfInBounds_toArray, List.set_cons_succ, List.set_cons_zero]; exact rfl
    refine reg_take2 4 47 (v := ?_) (T' := ?_) (Later.refl _) (by kernel_rfl) (by kernel_rfl) (by kernel_rfl) (fun _ _ _ h => h) (fun o ho => ?_) ?_ ?_
    rotate_left 2
    · cases ho
      refine ⟨rfl, rfl, fun W hW => ?_⟩
      go_simp; (try with_reducible rfl)
    · simp only [List.setIfInBounds_toArray, List.set_cons_succ, List.set_cons_zero]; exact rfl
    refine reg_take2 5 48 (v := ?_) (T' := ?_) (Later.refl _) (by kernel_rfl) (by kernel_rfl) (by kernel_rfl) (fun _ _ _ h => h) (fun o ho => ?_) ?_ ?_
    rotate_left 2
    · cases ho
      refine ⟨rfl, rfl, fun W hW => ?_⟩
      have hcv := RdB.str (RdB.below S2.out hW)
      go_simp; (try with_reducible rfl)
    · simp only [List.setIfInBounds_toArray, List.set_cons_succ, List.set_cons_zero]; exact rfl
    refine reg_take2 6 49 (v := ?_) (T' := ?_) (Later.refl _) (by kernel_rfl) (by kernel_rfl) (by kernel_rfl) (fun _ _ _ h => h) (fun o ho => ?_) ?_ ?_
    rotate_left 2
    · cases ho
      refine ⟨rfl, rfl, fun W hW => ?_⟩
      go_simp; (try with_reducible rfl)
    · simp only [List.setIfInBounds_toArray, List.set_cons_succ, List.set_cons_zero]; exact rfl
    refine reg_take2 7 50 (v := ?_) (T' := ?_) (Later.refl _) (by kernel_rfl) (by kernel_rfl) (by kernel_rfl) (fun _ _ _ h => h) (fun o ho => ?_) ?_ ?_
    rotate_left 2
    · cases ho
      refine ⟨rfl, rfl, fun W hW => ?_⟩
      go_simp; (try with_reducible rfl)
    · simp only [List.setIfInBounds_toArray, List.set_cons_succ, List.set_cons_zero]; exact rfl
    refine reg_take2 8 51 (v := ?_) (T' := ?_) (Later.refl _) (by kernel_rfl) (by kernel_rfl) (by kernel_rfl) (fun _ _ _ h => h) (fun o ho => ?_) ?_ ?_
    rotate_left 2
    · cases ho
      refine ⟨rfl, rfl, fun W hW => ?_⟩
      go_simp; (try with_reducible rfl)
    · simp only [List.setIfInBounds_toArray, List.set_cons_succ, List.set_cons_zero]; exact rfl
    refine reg_take2 9 52 (v := ?_) (T' := ?_) (Later.refl _) (by kernel_rfl) (by kernel_rfl) (by kernel_rfl) (fun _ _ _ h => h) (fun o ho => ?_) ?_ ?_
    rotate_left 2
    · cases ho
      refine ⟨rfl, rfl, fun W hW => ?_⟩
      go_simp; (try with_reducible rfl)
    · simp only [List.setIfInBounds_toArray, List.set_cons_succ, List.set_cons_zero]; exact rfl
    refine reg_take2 10 53 (v := ?_) (T' := ?_) (Later.refl _) (by kernel_rfl) (by kernel_rfl) (by kernel_rfl) (fun _ _ _ h => h) (fun o ho => ?_) ?_ ?_
    rotate_left 2
    · cases ho
      refine ⟨rfl, rfl, fun W hW => ?_⟩
      have ca := (E.out.on hW).at'
      go_simp; (try with_reducible rfl)
    · simp only [List.setIfInBounds_toArray, List.set_cons_succ, List.set_cons_zero]; exact rfl
    refine reg_take2 11 54 (v := ?_) (T' := ?_) (Later.refl _) (by kernel_rfl) (by kernel_rfl) (by kernel_rfl) (fun _ _ _ h => h) (fun o ho => ?_) ?_ ?_
    rotate_left 2
    · cases ho
      refine ⟨rfl, rfl, fun W hW => ?_⟩
      go_simp; (try with_reducible rfl)
    · simp only [List.setIfInBounds_toArray, List.set_cons_succ, List.set_cons_zero]; exact rfl
    refine reg_take2 12 55 (v := ?_) (T' := ?_) (Later.refl _) (by kernel_rfl) (by kernel_rfl) (by kernel_rfl) (fun _ _ _ h => h) (fun o ho => ?_) ?_ ?_
    rotate_left 2
    · cases ho
      refine ⟨rfl, rfl, fun W hW => ?_⟩
      have hcv := RdB.str (RdB.below R9.out hW)
      go_simp; (try with_reducible rfl)
    · simp only [List.setIfInBounds_toArray, List.set_cons_succ, List.set_cons_zero]; exact rfl
    refine reg_take2 13 56 (v := ?_) (T' := ?_) (Later.refl _) (by kernel_rfl) (by kernel_rfl) (by kernel_rfl) (fun _ _ _ h => h) (fun o ho => ?_) ?_ ?_
    rotate_left 2
    · cases ho
      refine ⟨rfl, rfl, fun W hW => ?_⟩
      refine exec_eql_str (u := l2) (v := m.drop q2) (r := true) (t2 := 9) (.tmp 48) (.tmp 55) ?_ ?_ ?_ HQ.out
      all_goals rfl
    · simp only [List.setIfInBounds_toArray, List.set_cons_succ, List.set_cons_zero]; exact rfl
    refine reg_take2 14 57 (v := ?_) (T' := ?_) (Later.refl _) (by kernel_rfl) (by kernel_rfl) (by kernel_rfl) (fun _ _ _ h => h) (fun o ho => ?_) ?_ ?_
    rotate_left 2
    · cases ho
      refine ⟨rfl, rfl, fun W hW => ?_⟩
      go_simp; (try with_reducible rfl)
    · simp only [List.setIfInBounds_toArray, List.set_cons_succ, List.set_cons_zero]; exact rfl
    refine reg_take2 15 58 (v := ?_) (T' := ?_) (Later.refl _) (by kernel_rfl) (by kernel_rfl) (by kernel_rfl) (fun _ _ _ h => h) (fun o ho => ?_) ?_ ?_
    rotate_left 2
    · cases ho
      refine ⟨rfl, rfl, fun W hW => ?_⟩
      go_simp; (try with_reducible rfl)
    · simp only [List.setIfInBounds_toArray, List.set_cons_succ, List.set_cons_zero]; exact rfl
    refine reg_take2 16 59 (v := ?_) (T' := ?_) (Later.refl _) (by kernel_rfl) (by kernel_rfl) (by kernel_rfl) (fun _ _ _ h => h) (fun o ho => ?_) ?_ ?_
    rotate_left 2
    · cases ho
      refine ⟨rfl, rfl, fun W hW => ?_⟩
      go_simp; (try with_reducible rfl)
    · simp only [List.setIfInBounds_toArray, List.set_cons_succ, List.set_cons_zero]; exact rfl
    refine reg_take2 17 60 (v := ?_) (T' := ?_) (Later.refl _) (by kernel_rfl) (by kernel_rfl) (by kernel_rfl) (fun _ _ _ h => h) (fun o ho => ?_) ?_ ?_
    rotate_left 2
    · cases ho
      refine ⟨rfl, rfl, fun W hW => ?_⟩
      go_simp; (try with_reducible rfl)
    · simp only [List.setIfInBounds_toArray, List.set_cons_succ, List.set_cons_zero]; exact rfl
    refine reg_take2 18 61 (v := ?_) (T' := ?_) (Later.refl _) (by kernel_rfl) (by kernel_rfl) (by kernel_rfl) (fun _ _ _ h => h) (fun o ho => ?_) ?_ ?_
    rotate_left 2
    · cases ho
      refine ⟨rfl, rfl, fun W hW => ?_⟩
      go_simp; (try with_reducible rfl)
    · simp only [List.setIfInBounds_toArray, List.set_cons_succ, List.set_cons_zero]; exact rfl
    refine reg_take2 19 62 (v := ?_) (T' := ?_) (Later.refl _) (by kernel_rfl) (by kernel_rfl) (by kernel_rfl) (fun _ _ _ h => h) (fun o ho => ?_) ?_ ?_
    rotate_left 2
    · cases ho
      refine ⟨rfl, rfl, fun W hW => ?_⟩
      go_simp; (try with_reducible rfl)
    · simp only [List.setIfInBounds_toArray, List.set_cons_succ, List.set_cons_zero]; exact rfl
    refine reg_call2 20 63 (Later.refl _) (by kernel_rfl) 15 #[] (fun o ho => by cases ho; exact ⟨rfl, rfl, fun W => by go_simp⟩) ?_
    refine (lives_any _).mono ?_
    rintro z x8 ⟨rfl, hb8⟩
    have G := Lib.hid (G.out.trans (hb8.mono G.out.size))
    refine ⟨.bool true, _, rfl, hb8, (by simp only [List.setIfInBounds_toArray, List.set_cons_succ, List.set_cons_zero]; exact rfl), ?_⟩
    clear hb8
    refine reg_take2 21 64 (v := ?_) (T' := ?_) (Later.refl _) (by kernel_rfl) (by kernel_rfl) (by kernel_rfl) (fun _ _ _ h => h) (fun o ho => ?_) ?_ ?_
    rotate_left 2
    · cases ho
      refine ⟨rfl, rfl, fun W hW => ?_⟩
      go_simp; (try with_reducible rfl)
    · simp only [List.setIfInBounds_toArray, List.set_cons_succ, List.set_cons_zero]; exact rfl
    refine reg_take2 22 2 (v := ?_) (T' := ?_) (Later.refl _) (by kernel_rfl) (by kernel_rfl) (by kernel_rfl) (fun _ _ _ h => h) (fun o ho => ?_) ?_ ?_
    rotate_left 2
    · cases ho
      refine ⟨rfl, rfl, fun W hW => ?_⟩
      go_simp; (try with_reducible rfl)
    · simp only [List.setIfInBounds_toArray, List.set_cons_succ, List.set_cons_zero]; exact rfl
    refine reg_done (by kernel_rfl) ?_
    go_wp2_with fail
    go_ret
    exact ⟨rfl, G.out⟩
  · have hz := HZ.out hte
    injection hz with t1 t2 t3 t4 t5 t6 t7
    injection t5 with t5 t8
    rw [if_neg hte] at R2
    subst t1 t2 t3 t4 t5 t6 t7 t8
    have hten : (te != 0) = true := by simpa [bne] using hte
    clear HLESS HV2
    have hs2 : (w1.alloc (.cells #[.string ⟨#[]⟩, .int .i64 0, .int .i64 0, .int .i64 0, .int .i64 0, .int .i64 0, .string ⟨#[]⟩, .bool false] 27)).heap.size = nx + 1 := by simp [hnx]
    have D := Lib.hid (RdQ.made (w1.alloc (.cells #[.string ⟨#[]⟩, .int .i64 0, .int .i64 0, .int .i64 0, .int .i64 0, .int .i64 0, .string ⟨#[]⟩, .bool false] 27)) A0 c0 m R0.out)
    rw [hs2] at D
    have hxl := Lib.hid BX.out.lt
    have HS2 := Lib.hid hs2
    clear hs2
    go_wp2_with fail
    generalize w1.alloc (.cells #[.string ⟨#[]⟩, .int .i64 0, .int .i64 0, .int .i64 0, .int .i64 0, .int .i64 0, .string ⟨#[]⟩, .bool false] 27) = w2 at *
    clear hnx
    refine (TK.out _ _ _ D.out).mono ?_
    rintro z w4 ⟨rfl, hd, hg⟩
    have hb4 := (alloc_below w2 (.cells #[.slice A0 m.length c0, .int .i64 0, .int .i64 0] 42)).grown hg (by simp) (by intro k hk; injection hk with hk; have := HS2.out; omega)
    have BX := Lib.hid (BX.out.on hb4 hxl.out)
    have G := Lib.hid (G.out.trans (hb4.mono G.out.size))
    clear D hd hg hb4 hxl R0 R2
    have BX := Lib.hid (BX.out.alloc (.cells #[.string ⟨#[]⟩, .int .i64 0, .int .i64 0, .int .i64 0, .int .i64 0, .int .i64 0, .string ⟨#[]⟩, .bool false] 27))
    have G := Lib.hid (G.out.trans ((alloc_below w4 (.cells #[.string ⟨#[]⟩, .int .i64 0, .int .i64 0, .int .i64 0, .int .i64 0, .int .i64 0, .string ⟨#[]⟩, .bool false] 27)).mono G.out.size))
    have c0 := BX.out.cell 0 (.string ⟨#[]⟩) rfl
    have c1 := BX.out.cell 1 (.int .i64 0) rfl
    have c2 := BX.out.cell 2 (.int .i64 0) rfl
    have c3 := BX.out.cell 3 (.int .i64 0) rfl
    have c4 := BX.out.cell 4 (.int .i64 0) rfl
    have c5 := BX.out.cell 5 (.int .i64 0) rfl
    have c6 := BX.out.cell 6 (.string ⟨#[]⟩) rfl
    have c7 := BX.out.cell 7 (.bool false) rfl
    have hez := fun W => ver_eql_same W ⟨⟨#[]⟩, 0, 0, 0, (0, 0), ⟨#[]⟩, false⟩
    unfold verV at hez
    go_wp2_with fail
    refine (lives_any _).mono ?_
    rintro z w8 ⟨rfl, hb8⟩
    have G := Lib.hid (G.out.trans (hb8.mono G.out.size))
    clear hb8
    go_wp2_with fail
    go_ret
    exact ⟨rfl, G.out⟩
-- END
set_option maxRecDepth 100000 in
theorem lifted (os : Os) (started : os.Started) (H : Type) (enc : TypeId × Value → H) :
    ReturnsInHanded {} Try.checked os 4 .any (Rows.rowReadsSpec.pre6 enc Try.prog Try.f4 Rows.rowReadsRow.domain false) (Rows.rowReadsSpec.post enc Try.prog Try.f4 false true false false) := by
  refine returnsInHanded_of_change (C := Try.checked) Try.own started (by kernel_rfl) Try.func4
    (ChangeSpec.witness6 (enc := enc) (C := Try.checked) false ⟨#[], #[.slice none 0 0], []⟩ 8 (by kernel_rfl) (by kernel_rfl) (by kernel_rfl) (by kernel_rfl)) ?_
  intro W base args ds gs before hval0 hW _ _
  have hval : ∀ (j : Nat) t v, Try.f4.params[j]? = some t → args[j]? = some v → Value.okWide Try.prog W .any base t v := hval0
  have hW' := hW
  obtain ⟨p, q, hA0, hV, rfl, _, _⟩ := hW
  have hA : DataW.TrodAll enc Try.prog W 0 (fun _ => true) true Try.f4.params.toList args.toList ds p := hA0
  rw [Try.params4] at hA hval
  obtain ⟨v0, d0, rfl, rfl, h0⟩ := trodAll_one hA
  obtain ⟨rfl, rfl⟩ := trodVars_none hV
  have hlt : ∀ x ∈ p, x.block < W.heap.size := fun x hx => by simpa using hW'.lt x (by simpa using hx)
  obtain ⟨a0, r0⟩ := open_bytes (hval 0 _ v0 rfl rfl) h0 (fun x hx => by simpa using hlt x (by simp [hx]))
  refine (walk v0 a0 _ r0).mono fun e W' ⟨he, hb⟩ => ⟨_, he, ?_⟩
  exact law_post Try.laidOut (by decide +kernel) rfl Try.underlying4 rfl hW' rfl hb

theorem holds : Rows.RowReadsSaid :=
  OpenClaim.holds_of_wide 4 Try.f4 rfl rfl rfl rfl rfl rfl rfl ⟨rfl, rfl, rfl, rfl, rfl⟩ rfl rfl rfl rfl rfl (by kernel_rfl) Try.func4 (by kernel_rfl)
    (of_decide_eq_true (by kernel_rfl)) (by unfold Func.isWrapper; first | (rw [if_pos (by decide +kernel)]; kernel_rfl) | (rw [if_neg (by decide +kernel)]; exact ⟨rfl, rfl⟩))
    (fun os started H enc _ => lifted os started H enc)
end Go.Proofs.Ytmchiebpijnpiaa.L02
