/- Layer 6: a version's bytes, by the project. -/
import Derived.Test.YtmchiebpijnpiaaRg
import Derived.Test.YtmchiebpijnpiaaRk
import Derived.Test.YtmchiebpijnpiaaBreg
namespace Go.Proofs.Ytmchiebpijnpiaa
open Go.RowKit
set_option linter.unusedVariables false

set_option maxHeartbeats 4000000 in
theorem row_write (v : Ver) (w : World) (hk : v.key.size ≤ 1000000) :
    Calls Try.prog 12 #[verV v] w fun r w' => ∃ v', r = .returned (.tuple #[v', .int .i64 (if mayV v = true then 0 else 1)]) ∧ OwnB w' w.heap.size v' (if mayV v = true then encV v else []) ∧ Below w.heap.size w w' := by
  have MY := Lib.hid (fun w => row_may v w hk)
  have MK := Lib.hid (fun w => row_mark v w)
  have FACTS := Lib.hid (fun h : mayV v = true => (⟨numsV_bd h, may_key h, (mayV_iff h).2.2.1, mayB_iff.1 (mayV_iff h).2.1⟩ : _ ∧ _ ∧ _ ∧ _))
  have hen := Lib.hid (show encV v = encNs (numsV v) ++ encT v.key ++ encT v.val from rfl)
  have hnv : numsV v = [v.b, v.e, v.s, v.sp.1, v.sp.2 - v.sp.1, if v.gone = true then 1 else 0] := rfl
  generalize encV v = res at *
  generalize hns : numsV v = ns at *
  clear hns
  generalize mayV v = may at *
  obtain ⟨k, b, e, s, ⟨x, y⟩, u, g⟩ := v
  unfold verV at MY MK ⊢
  simp only at *
  generalize (if g = true then (1 : Int) else 0) = gn at *
  have B := Lib.hid (Box.new w #[.string k, .int .i64 b, .int .i64 e, .int .i64 s, .int .i64 x, .int .i64 y, .string u, .bool g] 27 _ rfl)
  have G := Lib.hid (alloc_below w (.cells #[.string k, .int .i64 b, .int .i64 e, .int .i64 s, .int .i64 x, .int .i64 y, .string u, .bool g] 27))
  go_enter Try.func12, Try.ntmps12
  go_wp2_with fail
  generalize w.alloc (.cells #[.string k, .int .i64 b, .int .i64 e, .int .i64 s, .int .i64 x, .int .i64 y, .string u, .bool g] 27) = w0 at *
  have c0 := B.out.cell 0 (.string k) rfl
  have c1 := B.out.cell 1 (.int .i64 b) rfl
  have c2 := B.out.cell 2 (.int .i64 e) rfl
  have c3 := B.out.cell 3 (.int .i64 s) rfl
  have c4 := B.out.cell 4 (.int .i64 x) rfl
  have c5 := B.out.cell 5 (.int .i64 y) rfl
  have c6 := B.out.cell 6 (.string u) rfl
  have c7 := B.out.cell 7 (.bool g) rfl
  go_wp2_with fail
  refine (MY.out _).mono ?_
  rintro z w1 ⟨rfl, hb1⟩
  have B := Lib.hid (B.out.later hb1)
  have G := Lib.hid (G.out.trans (hb1.mono G.out.size))
  clear hb1 c0 c1 c2 c3 c4 c5 c6 c7
  cases may
  · go_wp2_with fail
    go_ret2
    exact ⟨_, rfl, by simpa using OwnB.nil _ _, G.out⟩
  obtain ⟨hbd, hk2, hv2, hsp⟩ := FACTS.out rfl
  have HN := Lib.hid (fun n hn => Int.le_trans (hbd n hn).2 (by omega : (1099511627776 : Int) ≤ 9223372036854775807))
  have hwr : IntKind.i64.wrap (y - x) = y - x := by rw [IntKind.wrap_i64]; omega
  have hl6 : ns.length ≤ 6 := by rw [hnv]; simp
  have HLE := Lib.hid (encNs_len ns HN.out)
  have HTS := Lib.hid (show ∀ t ∈ [k, u], t.size ≤ 1000000 from by intro t ht; simp at ht; rcases ht with rfl | rfl <;> omega)
  have HNV := Lib.hid hnv
  clear hbd hnv FACTS
  have B := Lib.hid (show Box w1.drew w.heap.size #[.string k, .int .i64 b, .int .i64 e, .int .i64 s, .int .i64 x, .int .i64 y, .string u, .bool g] 27 from B.out)
  have G := Lib.hid G.out.drew
  go_wp2_with fail
-- REGION A
  refine reg_start (by kernel_rfl) ?_
  refine reg_take2 0 8 (v := ?_) (T' := ?_) (Later.refl _) (by kernel_rfl) (by kernel_rfl) (by kernel_rfl) (fun _ _ _ h => h) (fun o ho => ?_) ?_ ?_
  rotate_left 2
  · cases ho
    refine ⟨rfl, rfl, fun W hW => ?_⟩
    go_simp; (try with_reducible rfl)
  · simp only [List.setIfInBounds_toArray, List.set_cons_succ, List.set_cons_zero]; exact rfl
  refine reg_take2 1 9 (v := ?_) (T' := ?_) (Later.refl _) (by kernel_rfl) (by kernel_rfl) (by kernel_rfl) (fun _ _ _ h => h) (fun o ho => ?_) ?_ ?_
  rotate_left 2
  · cases ho
    refine ⟨rfl, rfl, fun W hW => ?_⟩
    go_simp; (try with_reducible rfl)
  · simp only [List.setIfInBounds_toArray, List.set_cons_succ, List.set_cons_zero]; exact rfl
  refine reg_take2 2 10 (v := ?_) (T' := ?_) (Later.refl _) (by kernel_rfl) (by kernel_rfl) (by kernel_rfl) (fun _ _ _ h => h) (fun o ho => ?_) ?_ ?_
  rotate_left 2
  · cases ho
    refine ⟨rfl, rfl, fun W hW => ?_⟩
    have BW := B.out.later hW
    have c := BW.cell 1 (.int .i64 b) rfl
    go_simp; (try with_reducible rfl)
  · simp only [List.setIfInBounds_toArray, List.set_cons_succ, List.set_cons_zero]; exact rfl
  refine reg_take2 3 11 (v := ?_) (T' := ?_) (Later.refl _) (by kernel_rfl) (by kernel_rfl) (by kernel_rfl) (fun _ _ _ h => h) (fun o ho => ?_) ?_ ?_
  rotate_left 2
  · cases ho
    refine ⟨rfl, rfl, fun W hW => ?_⟩
    go_simp; (try with_reducible rfl)
  · simp only [List.setIfInBounds_toArray, List.set_cons_succ, List.set_cons_zero]; exact rfl
  refine reg_take2 4 12 (v := ?_) (T' := ?_) (Later.refl _) (by kernel_rfl) (by kernel_rfl) (by kernel_rfl) (fun _ _ _ h => h) (fun o ho => ?_) ?_ ?_
  rotate_left 2
  · cases ho
    refine ⟨rfl, rfl, fun W hW => ?_⟩
    go_simp; (try with_reducible rfl)
  · simp only [List.setIfInBounds_toArray, List.set_cons_succ, List.set_cons_zero]; exact rfl
  refine reg_take2 5 13 (v := ?_) (T' := ?_) (Later.refl _) (by kernel_rfl) (by kernel_rfl) (by kernel_rfl) (fun _ _ _ h => h) (fun o ho => ?_) ?_ ?_
  rotate_left 2
  · cases ho
    refine ⟨rfl, rfl, fun W hW => ?_⟩
    have BW := B.out.later hW
    have c := BW.cell 2 (.int .i64 e) rfl
    go_simp; (try with_reducible rfl)
  · simp only [List.setIfInBounds_toArray, List.set_cons_succ, List.set_cons_zero]; exact rfl
  refine reg_take2 6 14 (v := ?_) (T' := ?_) (Later.refl _) (by kernel_rfl) (by kernel_rfl) (by kernel_rfl) (fun _ _ _ h => h) (fun o ho => ?_) ?_ ?_
  rotate_left 2
  · cases ho
    refine ⟨rfl, rfl, fun W hW => ?_⟩
    go_simp; (try with_reducible rfl)
  · simp only [List.setIfInBounds_toArray, List.set_cons_succ, List.set_cons_zero]; exact rfl
  refine reg_take2 7 15 (v := ?_) (T' := ?_) (Later.refl _) (by kernel_rfl) (by kernel_rfl) (by kernel_rfl) (fun _ _ _ h => h) (fun o ho => ?_) ?_ ?_
  rotate_left 2
  · cases ho
    refine ⟨rfl, rfl, fun W hW => ?_⟩
    go_simp; (try with_reducible rfl)
  · simp only [List.setIfInBounds_toArray, List.set_cons_succ, List.set_cons_zero]; exact rfl
  refine reg_take2 8 16 (v := ?_) (T' := ?_) (Later.refl _) (by kernel_rfl) (by kernel_rfl) (by kernel_rfl) (fun _ _ _ h => h) (fun o ho => ?_) ?_ ?_
  rotate_left 2
  · cases ho
    refine ⟨rfl, rfl, fun W hW => ?_⟩
    have BW := B.out.later hW
    have c := BW.cell 3 (.int .i64 s) rfl
    go_simp; (try with_reducible rfl)
  · simp only [List.setIfInBounds_toArray, List.set_cons_succ, List.set_cons_zero]; exact rfl
  refine reg_take2 9 17 (v := ?_) (T' := ?_) (Later.refl _) (by kernel_rfl) (by kernel_rfl) (by kernel_rfl) (fun _ _ _ h => h) (fun o ho => ?_) ?_ ?_
  rotate_left 2
  · cases ho
    refine ⟨rfl, rfl, fun W hW => ?_⟩
    go_simp; (try with_reducible rfl)
  · simp only [List.setIfInBounds_toArray, List.set_cons_succ, List.set_cons_zero]; exact rfl
  refine reg_take2 10 18 (v := ?_) (T' := ?_) (Later.refl _) (by kernel_rfl) (by kernel_rfl) (by kernel_rfl) (fun _ _ _ h => h) (fun o ho => ?_) ?_ ?_
  rotate_left 2
  · cases ho
    refine ⟨rfl, rfl, fun W hW => ?_⟩
    go_simp; (try with_reducible rfl)
  · simp only [List.setIfInBounds_toArray, List.set_cons_succ, List.set_cons_zero]; exact rfl
  refine reg_take2 11 19 (v := ?_) (T' := ?_) (Later.refl _) (by kernel_rfl) (by kernel_rfl) (by kernel_rfl) (fun _ _ _ h => h) (fun o ho => ?_) ?_ ?_
  rotate_left 2
  · cases ho
    refine ⟨rfl, rfl, fun W hW => ?_⟩
    have BW := B.out.later hW
    have c := BW.cell 4 (.int .i64 x) rfl
    go_simp; (try with_reducible rfl)
  · simp only [List.setIfInBounds_toArray, List.set_cons_succ, List.set_cons_zero]; exact rfl
  refine reg_take2 12 20 (v := ?_) (T' := ?_) (Later.refl _) (by kernel_rfl) (by kernel_rfl) (by kernel_rfl) (fun _ _ _ h => h) (fun o ho => ?_) ?_ ?_
  rotate_left 2
  · cases ho
    refine ⟨rfl, rfl, fun W hW => ?_⟩
    go_simp; (try with_reducible rfl)
  · simp only [List.setIfInBounds_toArray, List.set_cons_succ, List.set_cons_zero]; exact rfl
  refine reg_take2 13 21 (v := ?_) (T' := ?_) (Later.refl _) (by kernel_rfl) (by kernel_rfl) (by kernel_rfl) (fun _ _ _ h => h) (fun o ho => ?_) ?_ ?_
  rotate_left 2
  · cases ho
    refine ⟨rfl, rfl, fun W hW => ?_⟩
    go_simp; (try with_reducible rfl)
  · simp only [List.setIfInBounds_toArray, List.set_cons_succ, List.set_cons_zero]; exact rfl
  refine reg_take2 14 22 (v := ?_) (T' := ?_) (Later.refl _) (by kernel_rfl) (by kernel_rfl) (by kernel_rfl) (fun _ _ _ h => h) (fun o ho => ?_) ?_ ?_
  rotate_left 2
  · cases ho
    refine ⟨rfl, rfl, fun W hW => ?_⟩
    have BW := B.out.later hW
    have c := BW.cell 5 (.int .i64 y) rfl
    go_simp; (try with_reducible rfl)
  · simp only [List.setIfInBounds_toArray, List.set_cons_succ, List.set_cons_zero]; exact rfl
  refine reg_take2 15 23 (v := ?_) (T' := ?_) (Later.refl _) (by kernel_rfl) (by kernel_rfl) (by kernel_rfl) (fun _ _ _ h => h) (fun o ho => ?_) ?_ ?_
  rotate_left 2
  · cases ho
    refine ⟨rfl, rfl, fun W hW => ?_⟩
    go_simp; (try with_reducible rfl)
  · simp only [List.setIfInBounds_toArray, List.set_cons_succ, List.set_cons_zero]; exact rfl
  refine reg_take2 16 24 (v := ?_) (T' := ?_) (Later.refl _) (by kernel_rfl) (by kernel_rfl) (by kernel_rfl) (fun _ _ _ h => h) (fun o ho => ?_) ?_ ?_
  rotate_left 2
  · cases ho
    refine ⟨rfl, rfl, fun W hW => ?_⟩
    go_simp; (try with_reducible rfl)
  · simp only [List.setIfInBounds_toArray, List.set_cons_succ, List.set_cons_zero]; exact rfl
  refine reg_take2 17 25 (v := ?_) (T' := ?_) (Later.refl _) (by kernel_rfl) (by kernel_rfl) (by kernel_rfl) (fun _ _ _ h => h) (fun o ho => ?_) ?_ ?_
  rotate_left 2
  · cases ho
    refine ⟨rfl, rfl, fun W hW => ?_⟩
    have BW := B.out.later hW
    have c := BW.cell 4 (.int .i64 x) rfl
    go_simp; (try with_reducible rfl)
  · simp only [List.setIfInBounds_toArray, List.set_cons_succ, List.set_cons_zero]; exact rfl
  refine reg_take2 18 26 (v := ?_) (T' := ?_) (Later.refl _) (by kernel_rfl) (by kernel_rfl) (by kernel_rfl) (fun _ _ _ h => h) (fun o ho => ?_) ?_ ?_
  rotate_left 2
  · cases ho
    refine ⟨rfl, rfl, fun W hW => ?_⟩
    go_simp; (try with_reducible rfl)
  · simp only [List.setIfInBounds_toArray, List.set_cons_succ, List.set_cons_zero]; exact rfl
  refine reg_take2 19 27 (v := ?_) (T' := ?_) (Later.refl _) (by kernel_rfl) (by kernel_rfl) (by kernel_rfl) (fun _ _ _ h => h) (fun o ho => ?_) ?_ ?_
  rotate_left 2
  · cases ho
    refine ⟨rfl, rfl, fun W hW => ?_⟩
    have BW := B.out.later hW
    have c0 := BW.cell 0 (.string k) rfl
    have c1 := BW.cell 1 (.int .i64 b) rfl
    have c2 := BW.cell 2 (.int .i64 e) rfl
    have c3 := BW.cell 3 (.int .i64 s) rfl
    have c4 := BW.cell 4 (.int .i64 x) rfl
    have c5 := BW.cell 5 (.int .i64 y) rfl
    have c6 := BW.cell 6 (.string u) rfl
    have c7 := BW.cell 7 (.bool g) rfl
    go_simp; (try with_reducible rfl)
  · simp only [List.setIfInBounds_toArray, List.set_cons_succ, List.set_cons_zero]; exact rfl
  refine reg_call2 20 28 (Later.refl _) (by kernel_rfl) 27 #[.agg #[.string k, .int .i64 b, .int .i64 e, .int .i64 s, .int .i64 x, .int .i64 y, .string u, .bool g]] (fun o ho => by cases ho; exact ⟨rfl, rfl, fun W => by go_simp⟩) ?_
  refine (MK.out _).mono ?_
  rintro z x1 ⟨rfl, hb1⟩
  have B := Lib.hid (B.out.later hb1)
  have G := Lib.hid (G.out.trans (hb1.mono G.out.size))
  refine ⟨_, _, rfl, hb1, (by simp only [List.setIfInBounds_toArray, List.set_cons_succ, List.set_cons_zero]; exact rfl), ?_⟩
  clear hb1
  refine reg_make2 21 29 (v := ?_) (w' := ?_) (T' := ?_) (Later.refl _) (by kernel_rfl) (fun o ho => ?_) ?_ ?_ ?_
  rotate_left 3
  · cases ho
    refine ⟨rfl, rfl, ?_⟩
    go_simp; constructor <;> with_reducible rfl
  · exact Later.alloc _ _
  · simp only [List.setIfInBounds_toArray, List.set_cons_succ, List.set_cons_zero]; exact rfl
  refine reg_call2 22 30 (Later.refl _) (by kernel_rfl) 26 #[.slice none 0 0, .slice (some ⟨x1.heap.size, 0, none⟩) 6 6] (fun o ho => by cases ho; exact ⟨rfl, rfl, fun W => by go_simp⟩) ?_
  refine (vary_put _ _ [] ns _ (RdB.nil _ _) (RdV.lit x1 _ _ ns 6 _ (by rw [HNV.out]; rfl) (by rw [HNV.out]; rfl) (by simp) (by omega)) (by simp) HN.out (by omega)).mono ?_
  rintro z x3 ⟨v3, rfl, O3, hb3⟩
  have hb5 := (alloc_below x1 (.cells #[.int .i64 b, .int .i64 e, .int .i64 s, .int .i64 x, .int .i64 (y - x), .int .i64 gn] 3)).trans (hb3.mono (by simp))
  have B := Lib.hid (B.out.later hb5)
  have G := Lib.hid (G.out.trans (hb5.mono G.out.size))
  rw [List.nil_append] at O3
  have R3 := Lib.hid O3.rd
  refine ⟨_, _, rfl, hb3, (by simp only [List.setIfInBounds_toArray, List.set_cons_succ, List.set_cons_zero]; exact rfl), ?_⟩
  clear hb3 hb5 O3
  refine reg_take2 23 4 (v := ?_) (T' := ?_) (Later.refl _) (by kernel_rfl) (by kernel_rfl) (by kernel_rfl) (fun _ _ _ h => h) (fun o ho => ?_) ?_ ?_
  rotate_left 2
  · cases ho
    refine ⟨rfl, rfl, fun W hW => ?_⟩
    go_simp; (try with_reducible rfl)
  · simp only [List.setIfInBounds_toArray, List.set_cons_succ, List.set_cons_zero]; exact rfl
  refine reg_done (by kernel_rfl) ?_
-- DONE A
  have k0 := B.out.cell 0 (.string k) rfl
  have k6 := B.out.cell 6 (.string u) rfl
  go_wp2_with fail
  have hle := HLE.out
  refine (vary_text _ _ (encNs ns) [k, u] _ (R3.out.on (alloc_below x3 _)) (RdV.lit x3 _ _ [k, u] 2 _ rfl rfl (by simp) (by simp)) (by omega) HTS.out (by simp)).mono ?_
  rintro z x4 ⟨v4, rfl, ho4, hb4⟩
  have G4 := (G.out.trans ((alloc_below x3 _).mono G.out.size)).trans (hb4.mono (Nat.le_trans G.out.size (by simp)))
  go_wp2_with fail
  go_ret2
  refine ⟨_, rfl, ?_, G4⟩
  have := ownB_mono ho4 (Nat.le_trans G.out.size (by simp))
  simpa [hen.out, encTs] using this
end Go.Proofs.Ytmchiebpijnpiaa
