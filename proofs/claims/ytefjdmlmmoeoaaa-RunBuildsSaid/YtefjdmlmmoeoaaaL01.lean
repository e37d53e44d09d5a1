/- RunBuilds: a run's bytes are just the document's, and are opened as they were built: any versions (the first 40 that may be, in order, unlike one another). No conditions. -/
import Derived.Test.YtefjdmlmmoeoaaaTd
import Derived.Test.YtefjdmlmmoeoaaaWr
import Derived.Test.YtefjdmlmmoeoaaaWp
import Derived.Test.YtefjdmlmmoeoaaaWc
import Derived.Test.YtefjdmlmmoeoaaaRR
import Derived.ChangeMaps5
namespace Go.Proofs.Ytefjdmlmmoeoaaa.L01
open Go.RowKit Go.ChangeShapes Go.WideShapes Go.ChangeAt
set_option linter.unusedVariables false

set_option maxHeartbeats 8000000 in
set_option maxRecDepth 100000 in
theorem walk (v : Value) (l : List Ver) (w : World) (h : RdVr w w.heap.size v l) :
    Calls Try.prog 3 #[v] w fun e w' => e = .returned (.bool true) ∧ Below w.heap.size w w' := by
  have HA := Lib.hid h
  obtain ⟨A, ca, rfl, -⟩ := h
  go_enter Try.func3, Try.ntmps3
  go_wp2_with fail
  refine (ref8_block _ l 40 _ HA.out (by omega)).mono ?_
  rintro z w1 ⟨v1, own, rfl, ho1, hlm, hok, hb1⟩
  have O1 := Lib.hid ho1
  have G := Lib.hid hb1
  have hmv := blk_may hok
  have HM := Lib.hid hmv
  have HKY := Lib.hid (show ∀ v ∈ own, v.key.size ≤ 1000000 from fun v hv => Nat.le_trans (may_key (hmv v hv)) (by omega))
  have hl40 : own.length ≤ 40 := by omega
  have BU := Lib.hid (fun va w h => run_build va own w h (by omega) HKY.out)
  rw [if_pos hok, if_pos hok] at BU
  have hle : (encRun own).length ≤ 20000 ∧ 16 ≤ (encRun own).length := by
    have h := encRun_len hok (by omega)
    have h2 : many8 own = (own.length + 7) / 8 := rfl
    refine ⟨by omega, ?_⟩
    unfold encRun
    rw [List.length_append, List.length_append, frm_length, frm_length]
    omega
  obtain ⟨hle, hge⟩ := hle
  have OP := Lib.hid (fun va w h => run_open va (encRun own) w h hle)
  have HYES := Lib.hid (show IsRun (encRun own) own from ⟨hok, rfl⟩)
  have HIN := Lib.hid (fun l (h : IsRun (encRun own) l) => IsRun.inj h HYES.out (by omega))
  have AL := Lib.hid (fun p base w h => run_all p own base w h (by omega))
  have LN := Lib.hid (fun p base w h => run_len p own base w h (by omega))
  have RB := Lib.hid (fun va w h => ref9_build va own w h HM.out (by omega))
  obtain ⟨A1, c1, e1, -⟩ := ho1.rd
  subst e1
  clear ho1 hb1 hmv hlm hok
  generalize encRun own = eb at *
  go_wp2_with fail
  refine (BU.out _ _ O1.out.rd).mono ?_
  rintro z w2 ⟨v2, rfl, ho2, hb2⟩
  have O1 := Lib.hid (O1.out.on hb2)
  have G := Lib.hid (G.out.trans (hb2.mono G.out.size))
  have E2 := Lib.hid ho2
  obtain ⟨A2, c2, e2, -⟩ := own_cap ho2
  subst e2
  clear ho2 hb2
  go_wp2_with fail
  refine (OP.out _ _ E2.out.rd).mono ?_
  rintro z w3 ⟨p, e, rfl, hb3, hor⟩
  have O1 := Lib.hid (O1.out.on hb3)
  have E2 := Lib.hid (E2.out.on hb3)
  have G := Lib.hid (G.out.trans (hb3.mono G.out.size))
  clear hb3
  rcases hor with ⟨l', rfl, hr, -, hat⟩ | ⟨-, -, hno⟩
  case inr => exact absurd HYES.out (hno _)
  obtain rfl : own = l' := (HIN.out _ hr).symm
  have RA := Lib.hid hat
  obtain ⟨nr, vb, rfl, -⟩ := hat
  clear hr
  go_wp2_with fail
  refine (AL.out _ _ _ RA.out).mono ?_
  rintro z w4 ⟨v4, rfl, ho4, hb4⟩
  have O1 := Lib.hid (O1.out.on hb4)
  have E2 := Lib.hid (E2.out.on hb4)
  have RA := Lib.hid (RA.out.on hb4)
  have G := Lib.hid (G.out.trans (hb4.mono G.out.size))
  have O4 := Lib.hid ho4
  obtain ⟨A4, c4, e4, -⟩ := ho4.rd
  subst e4
  clear ho4 hb4
  go_wp2_with fail
  refine (ref6_same _ _ own own _ O4.out.rd O1.out.rd).mono ?_
  rintro z w5 ⟨r, rfl, hr, hb5⟩
  have E4 := Lib.hid (show RdB w5.drew w5.drew.heap.size _ eb from (show RdB w5 w5.heap.size _ eb from (E2.out.on hb5).rd).drew)
  have G := Lib.hid (show Below w.heap.size w w5.drew from (G.out.trans (hb5.mono G.out.size)).drew)
  have B5 := Lib.hid (show Below w5.heap.size w5 w5.drew from (Below.refl _ w5).drewN 1)
  have O1 := Lib.hid (show OwnVr w5.drew _ _ own from (O1.out.on hb5).on B5.out)
  have RA := Lib.hid (show RunAt w5.drew _ _ own from (RA.out.on hb5).on B5.out)
  obtain rfl : r = true := hr.2 rfl
  have z9 : (eb == eb) = true := by simp
  clear hr hb5
  go_wp2_with fail
  refine reg_start (by kernel_rfl) ?_
  refine reg_take2 0 35 (v := ?_) (T' := ?_) (Later.refl _) (by kernel_rfl) (by kernel_rfl) (by kernel_rfl) (fun _ _ _ h => h) (fun o ho => ?_) ?_ ?_
  rotate_left 2
  · cases ho
    refine ⟨rfl, rfl, fun W hW => ?_⟩
    go_simp; (try with_reducible rfl)
  · simp only [List.setIfInBounds_toArray, List.set_cons_succ, List.set_cons_zero]; exact rfl
  refine reg_take2 1 36 (v := ?_) (T' := ?_) (Later.refl _) (by kernel_rfl) (by kernel_rfl) (by kernel_rfl) (fun _ _ _ h => h) (fun o ho => ?_) ?_ ?_
  rotate_left 2
  · cases ho
    refine ⟨rfl, rfl, fun W hW => ?_⟩
    have hcv := RdB.str (RdB.below E4.out hW)
    go_simp; (try with_reducible rfl)
  · simp only [List.setIfInBounds_toArray, List.set_cons_succ, List.set_cons_zero]; exact rfl
  refine reg_take2 2 37 (v := ?_) (T' := ?_) (Later.refl _) (by kernel_rfl) (by kernel_rfl) (by kernel_rfl) (fun _ _ _ h => h) (fun o ho => ?_) ?_ ?_
  rotate_left 2
  · cases ho
    refine ⟨rfl, rfl, fun W hW => ?_⟩
    go_simp; (try with_reducible rfl)
  · simp only [List.setIfInBounds_toArray, List.set_cons_succ, List.set_cons_zero]; exact rfl
  refine reg_call2 3 38 (Later.refl _) (by kernel_rfl) 14 #[.slice A1 own.length c1] (fun o ho => by cases ho; exact ⟨rfl, rfl, fun W => by go_simp⟩) ?_
  refine (RB.out _ _ O1.out.rd).mono ?_
  rintro z x1 ⟨v6, rfl, ho6, hb6⟩
  have Y := Lib.hid ho6.rd
  have RA := Lib.hid (RA.out.on hb6)
  have G := Lib.hid (G.out.trans (hb6.mono G.out.size))
  refine ⟨_, _, rfl, hb6, (by simp only [List.setIfInBounds_toArray, List.set_cons_succ, List.set_cons_zero]; exact rfl), ?_⟩
  clear ho6 hb6
  refine reg_take2 4 39 (v := ?_) (T' := ?_) (Later.refl _) (by kernel_rfl) (by kernel_rfl) (by kernel_rfl) (fun _ _ _ h => h) (fun o ho => ?_) ?_ ?_
  rotate_left 2
  · cases ho
    refine ⟨rfl, rfl, fun W hW => ?_⟩
    have hcv := RdB.str (RdB.below Y.out hW)
    go_simp; (try with_reducible rfl)
  · simp only [List.setIfInBounds_toArray, List.set_cons_succ, List.set_cons_zero]; exact rfl
  refine reg_take2 5 40 (v := ?_) (T' := ?_) (Later.refl _) (by kernel_rfl) (by kernel_rfl) (by kernel_rfl) (fun _ _ _ h => h) (fun o ho => ?_) ?_ ?_
  rotate_left 2
  · cases ho
    refine ⟨rfl, rfl, fun W hW => ?_⟩
    go_simp; (try with_reducible rfl)
  · simp only [List.setIfInBounds_toArray, List.set_cons_succ, List.set_cons_zero]; exact rfl
  refine reg_take2 6 41 (v := ?_) (T' := ?_) (Later.refl _) (by kernel_rfl) (by kernel_rfl) (by kernel_rfl) (fun _ _ _ h => h) (fun o ho => ?_) ?_ ?_
  rotate_left 2
  · cases ho
    refine ⟨rfl, rfl, fun W hW => ?_⟩
    go_simp; (try with_reducible rfl)
  · simp only [List.setIfInBounds_toArray, List.set_cons_succ, List.set_cons_zero]; exact rfl
  refine reg_take2 7 42 (v := ?_) (T' := ?_) (Later.refl _) (by kernel_rfl) (by kernel_rfl) (by kernel_rfl) (fun _ _ _ h => h) (fun o ho => ?_) ?_ ?_
  rotate_left 2
  · cases ho
    refine ⟨rfl, rfl, fun W hW => ?_⟩
    go_simp; (try with_reducible rfl)
  · simp only [List.setIfInBounds_toArray, List.set_cons_succ, List.set_cons_zero]; exact rfl
  refine reg_take2 8 43 (v := ?_) (T' := ?_) (Later.refl _) (by kernel_rfl) (by kernel_rfl) (by kernel_rfl) (fun _ _ _ h => h) (fun o ho => ?_) ?_ ?_
  rotate_left 2
  · cases ho
    refine ⟨rfl, rfl, fun W hW => ?_⟩
    go_simp; (try with_reducible rfl)
  · simp only [List.setIfInBounds_toArray, List.set_cons_succ, List.set_cons_zero]; exact rfl
  refine reg_take2 9 44 (v := ?_) (T' := ?_) (Later.refl _) (by kernel_rfl) (by kernel_rfl) (by kernel_rfl) (fun _ _ _ h => h) (fun o ho => ?_) ?_ ?_
  rotate_left 2
  · cases ho
    refine ⟨rfl, rfl, fun W hW => ?_⟩
    go_simp; (try with_reducible rfl)
  · simp only [List.setIfInBounds_toArray, List.set_cons_succ, List.set_cons_zero]; exact rfl
  refine reg_take2 10 45 (v := ?_) (T' := ?_) (Later.refl _) (by kernel_rfl) (by kernel_rfl) (by kernel_rfl) (fun _ _ _ h => h) (fun o ho => ?_) ?_ ?_
  rotate_left 2
  · cases ho
    refine ⟨rfl, rfl, fun W hW => ?_⟩
    go_simp; (try with_reducible rfl)
  · simp only [List.setIfInBounds_toArray, List.set_cons_succ, List.set_cons_zero]; exact rfl
  refine reg_take2 12 47 (v := ?_) (T' := ?_) (Later.refl _) (by kernel_rfl) (by kernel_rfl) (by kernel_rfl) (fun _ _ _ h => h) (fun o ho => ?_) ?_ ?_
  rotate_left 2
  · cases ho
    refine ⟨rfl, rfl, fun W hW => ?_⟩
    go_simp; (try with_reducible rfl)
  · simp only [List.setIfInBounds_toArray, List.set_cons_succ, List.set_cons_zero]; exact rfl
  refine reg_take2 13 48 (v := ?_) (T' := ?_) (Later.refl _) (by kernel_rfl) (by kernel_rfl) (by kernel_rfl) (fun _ _ _ h => h) (fun o ho => ?_) ?_ ?_
  rotate_left 2
  · cases ho
    refine ⟨rfl, rfl, fun W hW => ?_⟩
    go_simp; (try with_reducible rfl)
  · simp only [List.setIfInBounds_toArray, List.set_cons_succ, List.set_cons_zero]; exact rfl
  refine reg_call2 11 46 (Later.refl _) (by kernel_rfl) 15 #[.pointer (some ⟨nr, 0, none⟩)] (fun o ho => by cases ho; exact ⟨rfl, rfl, fun W => by go_simp⟩) ?_
  refine (LN.out _ _ _ RA.out).mono ?_
  rintro z x2 ⟨rfl, hb7⟩
  have G := Lib.hid (G.out.trans (hb7.mono G.out.size))
  refine ⟨_, _, rfl, hb7, (by simp only [List.setIfInBounds_toArray, List.set_cons_succ, List.set_cons_zero]; exact rfl), ?_⟩
  clear hb7
  refine reg_take2 14 49 (v := ?_) (T' := ?_) (Later.refl _) (by kernel_rfl) (by kernel_rfl) (by kernel_rfl) (fun _ _ _ h => h) (fun o ho => ?_) ?_ ?_
  rotate_left 2
  · cases ho
    refine ⟨rfl, rfl, fun W hW => ?_⟩
    go_simp; (try with_reducible rfl)
  · simp only [List.setIfInBounds_toArray, List.set_cons_succ, List.set_cons_zero]; exact rfl
  refine reg_take2 15 50 (v := ?_) (T' := ?_) (Later.refl _) (by kernel_rfl) (by kernel_rfl) (by kernel_rfl) (fun _ _ _ h => h) (fun o ho => ?_) ?_ ?_
  rotate_left 2
  · cases ho
    refine ⟨rfl, rfl, fun W hW => ?_⟩
    go_simp; (try with_reducible rfl)
  · simp only [List.setIfInBounds_toArray, List.set_cons_succ, List.set_cons_zero]; exact rfl
  refine reg_take2 16 51 (v := ?_) (T' := ?_) (Later.refl _) (by kernel_rfl) (by kernel_rfl) (by kernel_rfl) (fun _ _ _ h => h) (fun o ho => ?_) ?_ ?_
  rotate_left 2
  · cases ho
    refine ⟨rfl, rfl, fun W hW => ?_⟩
    go_simp; (try with_reducible rfl)
  · simp only [List.setIfInBounds_toArray, List.set_cons_succ, List.set_cons_zero]; exact rfl
  refine reg_call2 17 52 (Later.refl _) (by kernel_rfl) 16 #[] (fun o ho => by cases ho; exact ⟨rfl, rfl, fun W => by go_simp⟩) ?_
  refine (lives_any9 _).mono ?_
  rintro z x3 ⟨rfl, hb8⟩
  have G := Lib.hid (G.out.trans (hb8.mono G.out.size))
  refine ⟨_, _, rfl, hb8, (by simp only [List.setIfInBounds_toArray, List.set_cons_succ, List.set_cons_zero]; exact rfl), ?_⟩
  clear hb8
  refine reg_take2 18 53 (v := ?_) (T' := ?_) (Later.refl _) (by kernel_rfl) (by kernel_rfl) (by kernel_rfl) (fun _ _ _ h => h) (fun o ho => ?_) ?_ ?_
  rotate_left 2
  · cases ho
    refine ⟨rfl, rfl, fun W hW => ?_⟩
    go_simp; (try with_reducible rfl)
  · simp only [List.setIfInBounds_toArray, List.set_cons_succ, List.set_cons_zero]; exact rfl
  refine reg_take2 19 2 (v := ?_) (T' := ?_) (Later.refl _) (by kernel_rfl) (by kernel_rfl) (by kernel_rfl) (fun _ _ _ h => h) (fun o ho => ?_) ?_ ?_
  rotate_left 2
  · cases ho
    refine ⟨rfl, rfl, fun W hW => ?_⟩
    go_simp; (try with_reducible rfl)
  · simp only [List.setIfInBounds_toArray, List.set_cons_succ, List.set_cons_zero]; exact rfl
  refine reg_done (by kernel_rfl) ?_
  go_wp2_with fail
  go_ret
  exact ⟨rfl, G.out⟩
-- END
set_option maxRecDepth 100000 in
theorem lifted (os : Os) (started : os.Started) (H : Type) (enc : TypeId × Value → H) :
    ReturnsInHanded {} Try.checked os 3 .any (Rows.runBuildsSpec.pre6 enc Try.prog Try.f3 Rows.runBuildsRow.domain false) (Rows.runBuildsSpec.post enc Try.prog Try.f3 false true false false) := by
  refine returnsInHanded_of_change (C := Try.checked) Try.own started (by kernel_rfl) Try.func3
    (ChangeSpec.witness6 (enc := enc) (C := Try.checked) false ⟨#[], #[.slice none 0 0], []⟩ 8 (by kernel_rfl) (by kernel_rfl) (by kernel_rfl) (by kernel_rfl)) ?_
  intro W base args ds gs before hval0 hW _ _
  have hval : ∀ (j : Nat) t v, Try.f3.params[j]? = some t → args[j]? = some v → Value.okWide Try.prog W .any base t v := hval0
  have hW' := hW
  obtain ⟨p, q, hA0, hV, rfl, _, _⟩ := hW
  have hA : DataW.TrodAll enc Try.prog W 0 (fun _ => true) true Try.f3.params.toList args.toList ds p := hA0
  rw [Try.params3] at hA hval
  obtain ⟨v0, d0, rfl, rfl, h0⟩ := trodAll_one hA
  obtain ⟨rfl, rfl⟩ := trodVars_none hV
  have hlt : ∀ x ∈ p, x.block < W.heap.size := fun x hx => by simpa using hW'.lt x (by simpa using hx)
  obtain ⟨a0, r0, b0⟩ := open_vers (hval 0 _ v0 rfl rfl) h0 (fun x hx => by simpa using hlt x (by simp [hx]))
  refine (walk v0 a0 _ r0).mono fun e W' ⟨he, hb⟩ => ⟨_, he, ?_⟩
  exact law_post Try.laidOut (by decide +kernel) rfl Try.underlying4 rfl hW' rfl hb

theorem holds : Rows.RunBuildsSaid :=
  OpenClaim.holds_of_wide 3 Try.f3 rfl rfl rfl rfl rfl rfl rfl ⟨rfl, rfl, rfl, rfl, rfl⟩ rfl rfl rfl rfl rfl (by kernel_rfl) Try.func3 (by kernel_rfl)
    (of_decide_eq_true (by kernel_rfl)) (by unfold Func.isWrapper; first | (rw [if_pos (by decide +kernel)]; kernel_rfl) | (rw [if_neg (by decide +kernel)]; exact ⟨rfl, rfl⟩))
    (fun os started H enc _ => lifted os started H enc)
end Go.Proofs.Ytefjdmlmmoeoaaa.L01
