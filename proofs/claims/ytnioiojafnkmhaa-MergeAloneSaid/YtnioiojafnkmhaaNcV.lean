/- Layer 10, the project's: what a merging's methods do (versions). -/
import Derived.Test.YtnioiojafnkmhaaNa
import Derived.Test.YtnioiojafnkmhaaNb
import Derived.Test.YtnioiojafnkmhaaHc
namespace Go.Proofs.Ytnioiojafnkmhaa
open Go.RowKit
set_option linter.unusedVariables false

section
variable {β : Type} {T : TypeId → Bool} {Kp : Nat → Prop} {B M : Nat} {pool : List (Rst Ver)} {J : β → World → Prop}
set_option maxHeartbeats 4000000 in
set_option maxRecDepth 100000 in
theorem less_ver (hJ : OwnT T B J) (s : β) (xs : List (Rst Ver)) (i j : Nat) (r1 r2 : Rst Ver) (hi : xs[i]? = some r1) (hj : xs[j]? = some r2) (U : World) (h : St verL 79 81 83 cmpF Kp B M pool U xs) (hs : J s U) :
    Calls Try.prog 76 #[.pointer (some ⟨M, 0, none⟩), .int .i64 i, .int .i64 j] U fun e W' => e = .returned (.bool (ltR lessV r1 r2)) ∧ St verL 79 81 83 cmpF Kp B M pool W' xs ∧ J s W' := by
  have hil := (List.getElem?_eq_some_iff.1 hi).1
  have hjl := (List.getElem?_eq_some_iff.1 hj).1
  obtain ⟨g, c, hb, ho, hc⟩ := h.row (by omega)
  have hmi : r1 ∈ xs := List.mem_of_getElem? hi
  have hmj : r2 ∈ xs := List.mem_of_getElem? hj
  obtain ⟨sa, ba, ra⟩ := h.rest hmi
  obtain ⟨sb, bb0, rb⟩ := h.rest hmj
  obtain ⟨b1, o1, c1, rfl, -, -, ea⟩ := ra.pos
  obtain ⟨b2, o2, c2, rfl, -, -, eb⟩ := rb.pos
  have ci := hc i hil
  have cj := hc j hjl
  rw [(List.getElem?_eq_some_iff.1 hi).2] at ci
  rw [(List.getElem?_eq_some_iff.1 hj).2] at cj
  have HS := Lib.hid h
  have HJ := Lib.hid hs
  have m0 := hb.cell 0 _ rfl
  have m1 := hb.cell 1 _ rfl
  have p0 := ba.cell 0 _ rfl
  have p1 := ba.cell 1 _ rfl
  have q0 := bb0.cell 0 _ rfl
  have q1 := bb0.cell 1 _ rfl
  have hlen : ((xs.length : Nat) : Int) = (xs.length : Int) := rfl
  have hiz : ((i : Nat) : Int) < (xs.length : Int) := by omega
  have hjz : ((j : Nat) : Int) < (xs.length : Int) := by omega
  obtain ⟨n1, k1, x, t1⟩ := r1
  obtain ⟨n2, k2, y, t2⟩ := r2
  have AK := Lib.hid (ask_ver x y)
  have HR := Lib.hid (show ltR lessV ⟨n1, k1, x, t1⟩ ⟨n2, k2, y, t2⟩ = (decide (cmpV x y < 0) || ((cmpV x y == 0) && decide (k1 < k2))) from by
    rw [ver_cmp.neg, ver_cmp.zero]; unfold ltR; simp only)
  simp only at *
  generalize ltR lessV ⟨n1, k1, x, t1⟩ ⟨n2, k2, y, t2⟩ = res at *
  generalize cmpV x y = n at *
  obtain ⟨kk, bb, ee, ss, ⟨xx, yy⟩, uu, gg⟩ := x
  obtain ⟨kk', bb', ee', ss', ⟨xx', yy'⟩, uu', gg'⟩ := y
  have e0 := ea 0 _ rfl
  have e1 := ea 1 _ rfl
  have e2 := ea 2 _ rfl
  have e3 := ea 3 _ rfl
  have e4 := ea 4 _ rfl
  have e5 := ea 5 _ rfl
  have e6 := ea 6 _ rfl
  have e7 := ea 7 _ rfl
  simp only [Nat.add_zero] at e0
  have f0 := eb 0 _ rfl
  have f1 := eb 1 _ rfl
  have f2 := eb 2 _ rfl
  have f3 := eb 3 _ rfl
  have f4 := eb 4 _ rfl
  have f5 := eb 5 _ rfl
  have f6 := eb 6 _ rfl
  have f7 := eb 7 _ rfl
  simp only [Nat.add_zero] at f0
  have P1 := Lib.hid ba.lt
  have P2 := Lib.hid bb0.lt
  clear hb ho hc h hs ba bb0 ra rb ea eb hmi hmj hi hj
  go_enter Try.func76, Try.ntmps76
  go_wp2_with fail
  go_quiet (fail)
  go_wp2_with fail
  have HI : (fun X => X = (U.drewN nq).drew) (U.drewN nq).drew := rfl
  refine regk_start [16] (fun X => X = (U.drewN nq).drew) (by kernel_rfl) ?_
  refine regk_free 0 24 (v := ?_) (T' := ?_) (fun _ => HI) (by kernel_rfl) (by kernel_rfl) (by kernel_rfl) (by kernel_rfl) (fun _ _ _ h => h) (fun o ho => ?_) ?_ ?_
  rotate_left 2
  · cases ho
    refine ⟨rfl, rfl, fun W => ?_⟩
    go_simp; (try with_reducible rfl)
  · simp only [List.setIfInBounds_toArray, List.set_cons_succ, List.set_cons_zero]; exact rfl
  refine regk_take 1 25 (v := ?_) (T' := ?_) HI (by kernel_rfl) (by kernel_rfl) (by kernel_rfl) (by kernel_rfl) (by kernel_rfl) (by kernel_rfl) (fun _ _ _ h => h) (fun o ho => ?_) ?_ ?_
  rotate_left 2
  · cases ho
    refine ⟨rfl, rfl, fun W hW => ?_⟩
    have hW := (show W = _ from hW); subst hW; go_simp; (try with_reducible rfl)
  · simp only [List.setIfInBounds_toArray, List.set_cons_succ, List.set_cons_zero]; exact rfl
  refine regk_free 2 26 (v := ?_) (T' := ?_) (fun _ => HI) (by kernel_rfl) (by kernel_rfl) (by kernel_rfl) (by kernel_rfl) (fun _ _ _ h => h) (fun o ho => ?_) ?_ ?_
  rotate_left 2
  · cases ho
    refine ⟨rfl, rfl, fun W => ?_⟩
    go_simp; (try with_reducible rfl)
  · simp only [List.setIfInBounds_toArray, List.set_cons_succ, List.set_cons_zero]; exact rfl
  refine regk_take 3 27 (v := ?_) (T' := ?_) HI (by kernel_rfl) (by kernel_rfl) (by kernel_rfl) (by kernel_rfl) (by kernel_rfl) (by kernel_rfl) (fun _ _ _ h => h) (fun o ho => ?_) ?_ ?_
  rotate_left 2
  · cases ho
    refine ⟨rfl, rfl, fun W hW => ?_⟩
    have hW := (show W = _ from hW); subst hW; go_simp; (try with_reducible rfl)
  · simp only [List.setIfInBounds_toArray, List.set_cons_succ, List.set_cons_zero]; exact rfl
  refine regk_free 4 28 (v := ?_) (T' := ?_) (fun _ => HI) (by kernel_rfl) (by kernel_rfl) (by kernel_rfl) (by kernel_rfl) (fun _ _ _ h => h) (fun o ho => ?_) ?_ ?_
  rotate_left 2
  · cases ho
    refine ⟨rfl, rfl, fun W => ?_⟩
    go_simp; (try with_reducible rfl)
  · simp only [List.setIfInBounds_toArray, List.set_cons_succ, List.set_cons_zero]; exact rfl
  refine regk_take 5 29 (v := ?_) (T' := ?_) HI (by kernel_rfl) (by kernel_rfl) (by kernel_rfl) (by kernel_rfl) (by kernel_rfl) (by kernel_rfl) (fun _ _ _ h => h) (fun o ho => ?_) ?_ ?_
  rotate_left 2
  · cases ho
    refine ⟨rfl, rfl, fun W hW => ?_⟩
    have hW := (show W = _ from hW); subst hW; go_simp; (try with_reducible rfl)
  · simp only [List.setIfInBounds_toArray, List.set_cons_succ, List.set_cons_zero]; exact rfl
  refine regk_free 6 30 (v := ?_) (T' := ?_) (fun _ => HI) (by kernel_rfl) (by kernel_rfl) (by kernel_rfl) (by kernel_rfl) (fun _ _ _ h => h) (fun o ho => ?_) ?_ ?_
  rotate_left 2
  · cases ho
    refine ⟨rfl, rfl, fun W => ?_⟩
    go_simp; (try with_reducible rfl)
  · simp only [List.setIfInBounds_toArray, List.set_cons_succ, List.set_cons_zero]; exact rfl
  refine regk_take 7 31 (v := ?_) (T' := ?_) HI (by kernel_rfl) (by kernel_rfl) (by kernel_rfl) (by kernel_rfl) (by kernel_rfl) (by kernel_rfl) (fun _ _ _ h => h) (fun o ho => ?_) ?_ ?_
  rotate_left 2
  · cases ho
    refine ⟨rfl, rfl, fun W hW => ?_⟩
    have hW := (show W = _ from hW); subst hW; go_simp; (try with_reducible rfl)
  · simp only [List.setIfInBounds_toArray, List.set_cons_succ, List.set_cons_zero]; exact rfl
  refine regk_free 8 32 (v := ?_) (T' := ?_) (fun _ => HI) (by kernel_rfl) (by kernel_rfl) (by kernel_rfl) (by kernel_rfl) (fun _ _ _ h => h) (fun o ho => ?_) ?_ ?_
  rotate_left 2
  · cases ho
    refine ⟨rfl, rfl, fun W => ?_⟩
    go_simp; (try with_reducible rfl)
  · simp only [List.setIfInBounds_toArray, List.set_cons_succ, List.set_cons_zero]; exact rfl
  refine regk_take 9 33 (v := ?_) (T' := ?_) HI (by kernel_rfl) (by kernel_rfl) (by kernel_rfl) (by kernel_rfl) (by kernel_rfl) (by kernel_rfl) (fun _ _ _ h => h) (fun o ho => ?_) ?_ ?_
  rotate_left 2
  · cases ho
    refine ⟨rfl, rfl, fun W hW => ?_⟩
    have hW := (show W = _ from hW); subst hW; go_simp; (try with_reducible rfl)
  · simp only [List.setIfInBounds_toArray, List.set_cons_succ, List.set_cons_zero]; exact rfl
  refine regk_free 10 34 (v := ?_) (T' := ?_) (fun _ => HI) (by kernel_rfl) (by kernel_rfl) (by kernel_rfl) (by kernel_rfl) (fun _ _ _ h => h) (fun o ho => ?_) ?_ ?_
  rotate_left 2
  · cases ho
    refine ⟨rfl, rfl, fun W => ?_⟩
    go_simp; (try with_reducible rfl)
  · simp only [List.setIfInBounds_toArray, List.set_cons_succ, List.set_cons_zero]; exact rfl
  refine regk_take 11 35 (v := ?_) (T' := ?_) HI (by kernel_rfl) (by kernel_rfl) (by kernel_rfl) (by kernel_rfl) (by kernel_rfl) (by kernel_rfl) (fun _ _ _ h => h) (fun o ho => ?_) ?_ ?_
  rotate_left 2
  · cases ho
    refine ⟨rfl, rfl, fun W hW => ?_⟩
    have hW := (show W = _ from hW); subst hW; go_simp; (try with_reducible rfl)
  · simp only [List.setIfInBounds_toArray, List.set_cons_succ, List.set_cons_zero]; exact rfl
  refine regk_free 12 36 (v := ?_) (T' := ?_) (fun _ => HI) (by kernel_rfl) (by kernel_rfl) (by kernel_rfl) (by kernel_rfl) (fun _ _ _ h => h) (fun o ho => ?_) ?_ ?_
  rotate_left 2
  · cases ho
    refine ⟨rfl, rfl, fun W => ?_⟩
    go_simp; (try with_reducible rfl)
  · simp only [List.setIfInBounds_toArray, List.set_cons_succ, List.set_cons_zero]; exact rfl
  refine regk_take 13 37 (v := ?_) (T' := ?_) HI (by kernel_rfl) (by kernel_rfl) (by kernel_rfl) (by kernel_rfl) (by kernel_rfl) (by kernel_rfl) (fun _ _ _ h => h) (fun o ho => ?_) ?_ ?_
  rotate_left 2
  · cases ho
    refine ⟨rfl, rfl, fun W hW => ?_⟩
    have hW := (show W = _ from hW); subst hW; go_simp; (try with_reducible rfl)
  · simp only [List.setIfInBounds_toArray, List.set_cons_succ, List.set_cons_zero]; exact rfl
  refine regk_free 14 38 (v := ?_) (T' := ?_) (fun _ => HI) (by kernel_rfl) (by kernel_rfl) (by kernel_rfl) (by kernel_rfl) (fun _ _ _ h => h) (fun o ho => ?_) ?_ ?_
  rotate_left 2
  · cases ho
    refine ⟨rfl, rfl, fun W => ?_⟩
    go_simp; (try with_reducible rfl)
  · simp only [List.setIfInBounds_toArray, List.set_cons_succ, List.set_cons_zero]; exact rfl
  refine regk_take 15 39 (v := ?_) (T' := ?_) HI (by kernel_rfl) (by kernel_rfl) (by kernel_rfl) (by kernel_rfl) (by kernel_rfl) (by kernel_rfl) (fun _ _ _ h => h) (fun o ho => ?_) ?_ ?_
  rotate_left 2
  · cases ho
    refine ⟨rfl, rfl, fun W hW => ?_⟩
    have hW := (show W = _ from hW); subst hW; go_simp; (try with_reducible rfl)
  · simp only [List.setIfInBounds_toArray, List.set_cons_succ, List.set_cons_zero]; exact rfl
  refine regk_call (I' := (fun X => X = (U.drewN nq).drew)) (fun _ h => h) 16 40 (by kernel_rfl) 33 #[cmpF, .agg #[.string kk, .int .i64 bb, .int .i64 ee, .int .i64 ss, .int .i64 xx, .int .i64 yy, .string uu, .bool gg], .agg #[.string kk', .int .i64 bb', .int .i64 ee', .int .i64 ss', .int .i64 xx', .int .i64 yy', .string uu', .bool gg']] (fun o ho => by cases ho; exact ⟨rfl, rfl, fun W => by go_simp⟩) ?_
  refine (AK.out _).mono ?_
  rintro e y1 ⟨rfl, hb1⟩
  refine ⟨_, _, rfl, (noB_no (by kernel_rfl)), (by simp only [List.setIfInBounds_toArray, List.set_cons_succ, List.set_cons_zero]; rfl), ?_⟩
  refine regk_free 17 9 (v := ?_) (T' := ?_) (noB_no (by kernel_rfl)) (by kernel_rfl) (by kernel_rfl) (by kernel_rfl) (by kernel_rfl) (fun _ _ _ h => h) (fun o ho => ?_) ?_ ?_
  rotate_left 2
  · cases ho
    refine ⟨rfl, rfl, fun W => ?_⟩
    go_simp; (try with_reducible rfl)
  · simp only [List.setIfInBounds_toArray, List.set_cons_succ, List.set_cons_zero]; exact rfl
  refine regk_done (by kernel_rfl) ?_
  have HS := Lib.hid (HS.out.later ((((Below.refl _ U).drewN nq).drewN 1).trans (hb1.mono (Nat.le_refl _))))
  have HJ := Lib.hid (hJ.on HJ.out ((((Below.refl _ U).drewN nq).drewN 1).trans (hb1.mono (Nat.le_refl _))))
  have p1 := (Below.cell (p := ⟨n1, 1, none⟩) hb1 P1.out).trans p1
  have q1 := (Below.cell (p := ⟨n2, 1, none⟩) hb1 P2.out).trans q1
  clear hb1 m0 m1 p0 q0 ci cj
  go_wp2_with fail
  cases hn : decide (n < 0)
  · cases hz : (n == 0)
    · have HZ := Lib.hid (show res = false from by rw [HR.out, hn, hz]; rfl)
      go_quiet (fail)
      go_wp2_with fail
      go_ret
      exact ⟨ret_bool HZ.out.symm, HS.out.later ((Below.refl _ y1).drewN _), hJ.on HJ.out ((Below.refl _ y1).drewN _)⟩
    · have HZ := Lib.hid (show res = decide (k1 < k2) from by rw [HR.out, hn, hz]; rfl)
      go_quiet (fail)
      go_wp2_with fail
      go_ret
      exact ⟨ret_bool HZ.out.symm, HS.out.later ((Below.refl _ y1).drewN _), hJ.on HJ.out ((Below.refl _ y1).drewN _)⟩
  · have HZ := Lib.hid (show res = true from by rw [HR.out, hn]; rfl)
    go_quiet (fail)
    go_wp2_with fail
    go_ret
    exact ⟨ret_bool HZ.out.symm, HS.out.later ((Below.refl _ y1).drewN _), hJ.on HJ.out ((Below.refl _ y1).drewN _)⟩
theorem len_ver (s : β) (hJ : OwnT T B J) (xs : List (Rst Ver)) (U : World) (h : St verL 79 81 83 cmpF Kp B M pool U xs) (hs : J s U) :
    Calls Try.prog 36 #[.pointer (some ⟨M, 0, none⟩)] U fun e W' => e = .returned (.int .i64 xs.length) ∧ St verL 79 81 83 cmpF Kp B M pool W' xs ∧ J s W' := by
  obtain ⟨v, hb, ho⟩ := h.box
  obtain ⟨A, c, ev, -⟩ := ho.rd
  rw [List.length_map] at ev
  subst ev
  have HS := Lib.hid h
  have HJ := Lib.hid hs
  have m1 := hb.cell 1 _ rfl
  clear h hs hb ho
  go_enter Try.func36, Try.ntmps36
  go_wp2_with fail
  go_ret
  exact ⟨rfl, HS.out, HJ.out⟩
set_option maxHeartbeats 4000000 in
set_option maxRecDepth 100000 in
theorem swap_ver (hJ : OwnT T B J) (hT : T 81 = false) (s : β) (xs : List (Rst Ver)) (i j : Nat) (hi : i < xs.length) (hj : j < xs.length) (U : World) (h : St verL 79 81 83 cmpF Kp B M pool U xs) (hs : J s U) :
    Calls Try.prog 79 #[.pointer (some ⟨M, 0, none⟩), .int .i64 i, .int .i64 j] U fun e W' => (∃ v, e = .returned v) ∧ St verL 79 81 83 cmpF Kp B M pool W' (swapL xs i j) ∧ J s W' := by
  obtain ⟨g, c, hb, ho, hc⟩ := h.row (by omega)
  have ci := hc i hi
  have cj := hc j hj
  have m1 := hb.cell 1 _ rfl
  have fz : ∀ k, U.frozen? ⟨g, k, none⟩ = false := fun k => ho.frozen k
  have fi := fz i
  have fj := fz j
  have hiz : ((i : Nat) : Int) < (xs.length : Int) := by omega
  have hjz : ((j : Nat) : Int) < (xs.length : Int) := by omega
  have h2 := ho.swap_cell i j hi hj
  have f2 := h2.2
  obtain ⟨⟨n3, h2⟩, -⟩ := h2
  have PW := Lib.hid ((h.on (Y := U.drew) ((Below.refl _ U).drewN 1) (by have := h.size; have := h.low; omega)).swapped (by decide) (by decide) hb ho i j hi hj)
  have PO := Lib.hid (show OwnX ptrL 81 U.drew (M + 1) _ _ from ho)
  have PJ := Lib.hid (hJ.on (W' := U.drew) hs ((Below.refl _ U).drewN 1))
  have PL := Lib.hid h.low
  clear hc h hs hb ho fz
  generalize xs[i].at_ = n1 at *
  generalize xs[j].at_ = n2 at *
  go_enter Try.func79, Try.ntmps79
  go_wp2_with fail
  have HI : (fun X => X = U.drew) U.drew := rfl
  refine regk_start [25, 27] (fun X => X = U.drew) (by kernel_rfl) ?_
  refine regk_free 0 6 (v := ?_) (T' := ?_) (fun _ => HI) (by kernel_rfl) (by kernel_rfl) (by kernel_rfl) (by kernel_rfl) (fun _ _ _ h => h) (fun o ho => ?_) ?_ ?_
  rotate_left 2
  · cases ho
    refine ⟨rfl, rfl, fun W => ?_⟩
    go_simp; (try with_reducible rfl)
  · simp only [List.setIfInBounds_toArray, List.set_cons_succ, List.set_cons_zero]; exact rfl
  refine regk_take 1 7 (v := ?_) (T' := ?_) HI (by kernel_rfl) (by kernel_rfl) (by kernel_rfl) (by kernel_rfl) (by kernel_rfl) (by kernel_rfl) (fun _ _ _ h => h) (fun o ho => ?_) ?_ ?_
  rotate_left 2
  · cases ho
    refine ⟨rfl, rfl, fun W hW => ?_⟩
    have hW := (show W = _ from hW); subst hW; go_simp; (try with_reducible rfl)
  · simp only [List.setIfInBounds_toArray, List.set_cons_succ, List.set_cons_zero]; exact rfl
  refine regk_free 2 8 (v := ?_) (T' := ?_) (fun _ => HI) (by kernel_rfl) (by kernel_rfl) (by kernel_rfl) (by kernel_rfl) (fun _ _ _ h => h) (fun o ho => ?_) ?_ ?_
  rotate_left 2
  · cases ho
    refine ⟨rfl, rfl, fun W => ?_⟩
    go_simp; (try with_reducible rfl)
  · simp only [List.setIfInBounds_toArray, List.set_cons_succ, List.set_cons_zero]; exact rfl
  refine regk_take 3 9 (v := ?_) (T' := ?_) HI (by kernel_rfl) (by kernel_rfl) (by kernel_rfl) (by kernel_rfl) (by kernel_rfl) (by kernel_rfl) (fun _ _ _ h => h) (fun o ho => ?_) ?_ ?_
  rotate_left 2
  · cases ho
    refine ⟨rfl, rfl, fun W hW => ?_⟩
    have hW := (show W = _ from hW); subst hW; go_simp; (try with_reducible rfl)
  · simp only [List.setIfInBounds_toArray, List.set_cons_succ, List.set_cons_zero]; exact rfl
  refine regk_free 4 10 (v := ?_) (T' := ?_) (fun _ => HI) (by kernel_rfl) (by kernel_rfl) (by kernel_rfl) (by kernel_rfl) (fun _ _ _ h => h) (fun o ho => ?_) ?_ ?_
  rotate_left 2
  · cases ho
    refine ⟨rfl, rfl, fun W => ?_⟩
    go_simp; (try with_reducible rfl)
  · simp only [List.setIfInBounds_toArray, List.set_cons_succ, List.set_cons_zero]; exact rfl
  refine regk_free 5 11 (v := ?_) (T' := ?_) (fun _ => HI) (by kernel_rfl) (by kernel_rfl) (by kernel_rfl) (by kernel_rfl) (fun _ _ _ h => h) (fun o ho => ?_) ?_ ?_
  rotate_left 2
  · cases ho
    refine ⟨rfl, rfl, fun W => ?_⟩
    go_simp; (try with_reducible rfl)
  · simp only [List.setIfInBounds_toArray, List.set_cons_succ, List.set_cons_zero]; exact rfl
  refine regk_take 6 12 (v := ?_) (T' := ?_) HI (by kernel_rfl) (by kernel_rfl) (by kernel_rfl) (by kernel_rfl) (by kernel_rfl) (by kernel_rfl) (fun _ _ _ h => h) (fun o ho => ?_) ?_ ?_
  rotate_left 2
  · cases ho
    refine ⟨rfl, rfl, fun W hW => ?_⟩
    have hW := (show W = _ from hW); subst hW; go_simp; (try with_reducible rfl)
  · simp only [List.setIfInBounds_toArray, List.set_cons_succ, List.set_cons_zero]; exact rfl
  refine regk_free 7 13 (v := ?_) (T' := ?_) (fun _ => HI) (by kernel_rfl) (by kernel_rfl) (by kernel_rfl) (by kernel_rfl) (fun _ _ _ h => h) (fun o ho => ?_) ?_ ?_
  rotate_left 2
  · cases ho
    refine ⟨rfl, rfl, fun W => ?_⟩
    go_simp; (try with_reducible rfl)
  · simp only [List.setIfInBounds_toArray, List.set_cons_succ, List.set_cons_zero]; exact rfl
  refine regk_take 8 14 (v := ?_) (T' := ?_) HI (by kernel_rfl) (by kernel_rfl) (by kernel_rfl) (by kernel_rfl) (by kernel_rfl) (by kernel_rfl) (fun _ _ _ h => h) (fun o ho => ?_) ?_ ?_
  rotate_left 2
  · cases ho
    refine ⟨rfl, rfl, fun W hW => ?_⟩
    have hW := (show W = _ from hW); subst hW; go_simp; (try with_reducible rfl)
  · simp only [List.setIfInBounds_toArray, List.set_cons_succ, List.set_cons_zero]; exact rfl
  refine regk_free 9 15 (v := ?_) (T' := ?_) (fun _ => HI) (by kernel_rfl) (by kernel_rfl) (by kernel_rfl) (by kernel_rfl) (fun _ _ _ h => h) (fun o ho => ?_) ?_ ?_
  rotate_left 2
  · cases ho
    refine ⟨rfl, rfl, fun W => ?_⟩
    go_simp; (try with_reducible rfl)
  · simp only [List.setIfInBounds_toArray, List.set_cons_succ, List.set_cons_zero]; exact rfl
  refine regk_free 10 16 (v := ?_) (T' := ?_) (fun _ => HI) (by kernel_rfl) (by kernel_rfl) (by kernel_rfl) (by kernel_rfl) (fun _ _ _ h => h) (fun o ho => ?_) ?_ ?_
  rotate_left 2
  · cases ho
    refine ⟨rfl, rfl, fun W => ?_⟩
    go_simp; (try with_reducible rfl)
  · simp only [List.setIfInBounds_toArray, List.set_cons_succ, List.set_cons_zero]; exact rfl
  refine regk_take 11 17 (v := ?_) (T' := ?_) HI (by kernel_rfl) (by kernel_rfl) (by kernel_rfl) (by kernel_rfl) (by kernel_rfl) (by kernel_rfl) (fun _ _ _ h => h) (fun o ho => ?_) ?_ ?_
  rotate_left 2
  · cases ho
    refine ⟨rfl, rfl, fun W hW => ?_⟩
    have hW := (show W = _ from hW); subst hW; go_simp; (try with_reducible rfl)
  · simp only [List.setIfInBounds_toArray, List.set_cons_succ, List.set_cons_zero]; exact rfl
  refine regk_free 12 18 (v := ?_) (T' := ?_) (fun _ => HI) (by kernel_rfl) (by kernel_rfl) (by kernel_rfl) (by kernel_rfl) (fun _ _ _ h => h) (fun o ho => ?_) ?_ ?_
  rotate_left 2
  · cases ho
    refine ⟨rfl, rfl, fun W => ?_⟩
    go_simp; (try with_reducible rfl)
  · simp only [List.setIfInBounds_toArray, List.set_cons_succ, List.set_cons_zero]; exact rfl
  refine regk_take 13 19 (v := ?_) (T' := ?_) HI (by kernel_rfl) (by kernel_rfl) (by kernel_rfl) (by kernel_rfl) (by kernel_rfl) (by kernel_rfl) (fun _ _ _ h => h) (fun o ho => ?_) ?_ ?_
  rotate_left 2
  · cases ho
    refine ⟨rfl, rfl, fun W hW => ?_⟩
    have hW := (show W = _ from hW); subst hW; go_simp; (try with_reducible rfl)
  · simp only [List.setIfInBounds_toArray, List.set_cons_succ, List.set_cons_zero]; exact rfl
  refine regk_free 14 20 (v := ?_) (T' := ?_) (fun _ => HI) (by kernel_rfl) (by kernel_rfl) (by kernel_rfl) (by kernel_rfl) (fun _ _ _ h => h) (fun o ho => ?_) ?_ ?_
  rotate_left 2
  · cases ho
    refine ⟨rfl, rfl, fun W => ?_⟩
    go_simp; (try with_reducible rfl)
  · simp only [List.setIfInBounds_toArray, List.set_cons_succ, List.set_cons_zero]; exact rfl
  refine regk_free 15 21 (v := ?_) (T' := ?_) (fun _ => HI) (by kernel_rfl) (by kernel_rfl) (by kernel_rfl) (by kernel_rfl) (fun _ _ _ h => h) (fun o ho => ?_) ?_ ?_
  rotate_left 2
  · cases ho
    refine ⟨rfl, rfl, fun W => ?_⟩
    go_simp; (try with_reducible rfl)
  · simp only [List.setIfInBounds_toArray, List.set_cons_succ, List.set_cons_zero]; exact rfl
  refine regk_take 16 22 (v := ?_) (T' := ?_) HI (by kernel_rfl) (by kernel_rfl) (by kernel_rfl) (by kernel_rfl) (by kernel_rfl) (by kernel_rfl) (fun _ _ _ h => h) (fun o ho => ?_) ?_ ?_
  rotate_left 2
  · cases ho
    refine ⟨rfl, rfl, fun W hW => ?_⟩
    have hW := (show W = _ from hW); subst hW; go_simp; (try with_reducible rfl)
  · simp only [List.setIfInBounds_toArray, List.set_cons_succ, List.set_cons_zero]; exact rfl
  refine regk_free 17 23 (v := ?_) (T' := ?_) (fun _ => HI) (by kernel_rfl) (by kernel_rfl) (by kernel_rfl) (by kernel_rfl) (fun _ _ _ h => h) (fun o ho => ?_) ?_ ?_
  rotate_left 2
  · cases ho
    refine ⟨rfl, rfl, fun W => ?_⟩
    go_simp; (try with_reducible rfl)
  · simp only [List.setIfInBounds_toArray, List.set_cons_succ, List.set_cons_zero]; exact rfl
  refine regk_take 18 24 (v := ?_) (T' := ?_) HI (by kernel_rfl) (by kernel_rfl) (by kernel_rfl) (by kernel_rfl) (by kernel_rfl) (by kernel_rfl) (fun _ _ _ h => h) (fun o ho => ?_) ?_ ?_
  rotate_left 2
  · cases ho
    refine ⟨rfl, rfl, fun W hW => ?_⟩
    have hW := (show W = _ from hW); subst hW; go_simp; (try with_reducible rfl)
  · simp only [List.setIfInBounds_toArray, List.set_cons_succ, List.set_cons_zero]; exact rfl
  refine regk_free 19 25 (v := ?_) (T' := ?_) (fun _ => HI) (by kernel_rfl) (by kernel_rfl) (by kernel_rfl) (by kernel_rfl) (fun _ _ _ h => h) (fun o ho => ?_) ?_ ?_
  rotate_left 2
  · cases ho
    refine ⟨rfl, rfl, fun W => ?_⟩
    go_simp; (try with_reducible rfl)
  · simp only [List.setIfInBounds_toArray, List.set_cons_succ, List.set_cons_zero]; exact rfl
  refine regk_take 20 26 (v := ?_) (T' := ?_) HI (by kernel_rfl) (by kernel_rfl) (by kernel_rfl) (by kernel_rfl) (by kernel_rfl) (by kernel_rfl) (fun _ _ _ h => h) (fun o ho => ?_) ?_ ?_
  rotate_left 2
  · cases ho
    refine ⟨rfl, rfl, fun W hW => ?_⟩
    have hW := (show W = _ from hW); subst hW; go_simp; (try with_reducible rfl)
  · simp only [List.setIfInBounds_toArray, List.set_cons_succ, List.set_cons_zero]; exact rfl
  refine regk_free 21 27 (v := ?_) (T' := ?_) (fun _ => HI) (by kernel_rfl) (by kernel_rfl) (by kernel_rfl) (by kernel_rfl) (fun _ _ _ h => h) (fun o ho => ?_) ?_ ?_
  rotate_left 2
  · cases ho
    refine ⟨rfl, rfl, fun W => ?_⟩
    go_simp; (try with_reducible rfl)
  · simp only [List.setIfInBounds_toArray, List.set_cons_succ, List.set_cons_zero]; exact rfl
  refine regk_free 22 28 (v := ?_) (T' := ?_) (fun _ => HI) (by kernel_rfl) (by kernel_rfl) (by kernel_rfl) (by kernel_rfl) (fun _ _ _ h => h) (fun o ho => ?_) ?_ ?_
  rotate_left 2
  · cases ho
    refine ⟨rfl, rfl, fun W => ?_⟩
    go_simp; (try with_reducible rfl)
  · simp only [List.setIfInBounds_toArray, List.set_cons_succ, List.set_cons_zero]; exact rfl
  refine regk_take 23 29 (v := ?_) (T' := ?_) HI (by kernel_rfl) (by kernel_rfl) (by kernel_rfl) (by kernel_rfl) (by kernel_rfl) (by kernel_rfl) (fun _ _ _ h => h) (fun o ho => ?_) ?_ ?_
  rotate_left 2
  · cases ho
    refine ⟨rfl, rfl, fun W hW => ?_⟩
    have hW := (show W = _ from hW); subst hW; go_simp; (try with_reducible rfl)
  · simp only [List.setIfInBounds_toArray, List.set_cons_succ, List.set_cons_zero]; exact rfl
  refine regk_free 24 30 (v := ?_) (T' := ?_) (fun _ => HI) (by kernel_rfl) (by kernel_rfl) (by kernel_rfl) (by kernel_rfl) (fun _ _ _ h => h) (fun o ho => ?_) ?_ ?_
  rotate_left 2
  · cases ho
    refine ⟨rfl, rfl, fun W => ?_⟩
    go_simp; (try with_reducible rfl)
  · simp only [List.setIfInBounds_toArray, List.set_cons_succ, List.set_cons_zero]; exact rfl
  refine regk_store (I' := (fun X => X = U.drew)) (fun _ h => h) 25 (w' := (U.drew.setCell ⟨g, i, none⟩ (.pointer (some ⟨n2, 0, none⟩)))) (by kernel_rfl) (fun o ho => ?_) (noB_no (by kernel_rfl)) ?_
  · cases ho
    refine ⟨rfl, rfl, ?_⟩
    go_simp; (try with_reducible rfl)
  refine regk_free 26 31 (v := ?_) (T' := ?_) (noB_no (by kernel_rfl)) (by kernel_rfl) (by kernel_rfl) (by kernel_rfl) (by kernel_rfl) (fun _ _ _ h => h) (fun o ho => ?_) ?_ ?_
  rotate_left 2
  · cases ho
    refine ⟨rfl, rfl, fun W => ?_⟩
    go_simp; (try with_reducible rfl)
  · simp only [List.setIfInBounds_toArray, List.set_cons_succ, List.set_cons_zero]; exact rfl
  refine regk_store (I' := (fun X => X = U.drew)) (fun _ h => h) 27 (w' := ((U.drew.setCell ⟨g, i, none⟩ (.pointer (some ⟨n2, 0, none⟩))).setCell ⟨g, j, none⟩ (.pointer (some ⟨n1, 0, none⟩)))) (by kernel_rfl) (fun o ho => ?_) (noB_no (by kernel_rfl)) ?_
  · cases ho
    refine ⟨rfl, rfl, ?_⟩
    go_simp; (try with_reducible rfl)
  refine regk_done (by kernel_rfl) ?_
  clear m1 ci cj fi fj h2 f2
  go_wp2_with fail
  refine bodyPost_end (v := .tuple #[]) (results_none rfl _ _ _) rfl ?_
  exact ⟨⟨_, rfl⟩, PW.out.1, hJ.row PJ.out PO.out hT (by have := PL.out; omega) PW.out.2⟩
theorem ptr_infover : (Try.prog.info? 81).map (fun i => (i.zero, i.size, i.bytes)) = some (some (.pointer none), ptrL.sz, 8) := by kernel_rfl
set_option maxHeartbeats 4000000 in
set_option maxRecDepth 100000 in
theorem push_ver (hJ : OwnT T B J) (hT : T 81 = false) (hT2 : T 79 = false) (s : β) (xs : List (Rst Ver)) (a : Rst Ver) (ha : a ∈ pool) (hl : xs.length ≤ 100000) (U : World) (h : St verL 79 81 83 cmpF Kp B M pool U xs) (hs : J s U) :
    Calls Try.prog 78 #[.pointer (some ⟨M, 0, none⟩), .iface 81 (.pointer (some ⟨a.at_, 0, none⟩))] U fun e W' => (∃ v, e = .returned v) ∧ St verL 79 81 83 cmpF Kp B M pool W' (xs ++ [a]) ∧ J s W' := by
  obtain ⟨v, hb, ho⟩ := h.box
  have hML := hb.lt
  have hsz : U.drew.heap.size = U.heap.size := rfl
  have hb1 := alloc_below U.drew (.cells #[.pointer (some ⟨a.at_, 0, none⟩)] 81)
  have OX := Lib.hid (show OwnX ptrL 81 U.drew (M + 1) v (xs.map Rst.at_) from ho)
  obtain ⟨v', w', hrun, ho', hg', -⟩ := appX_run (P := Try.prog) (L := ptrL) (ty := 77) (W := U.drew.alloc (.cells #[.pointer (some ⟨a.at_, 0, none⟩)] 81)) (g := U.drew.heap.size) (c := 1) (m := 1) (r := [a.at_]) Try.underlying77 ptr_infover rfl (OX.out.on hb1) (heap_alloc_new U.drew _) rfl (Nat.le_trans (show M + 1 ≤ U.drew.heap.size by omega) hb1.size) (by rw [List.length_map]; simp; omega) (by decide)
  have HP := Lib.hid ((h.on (Y := U.drew) ((Below.refl _ U).drewN 1) (by have := h.low; omega)).pushed (by decide) (by decide) (by decide) (show Box U.drew M _ _ from hb) ho hb1 ha ho' hg')
  have HJ := Lib.hid (hJ.set (hJ.row (hJ.alloc (.cells #[.pointer (some ⟨a.at_, 0, none⟩)] 81) (hJ.on (W' := U.drew) hs ((Below.refl _ U).drewN 1))) (OX.out.on hb1) hT (by have := h.low; omega) hg'.grown) HP.out.1 h.low hT2 1 v')
  have HR := Lib.hid hrun
  have hta := run_assert (P := Try.prog) Try.underlying81 (.pointer (some ⟨a.at_, 0, none⟩))
  have BM1 := Lib.hid (show Box U.drew M #[cmpF, v] _ from hb)
  obtain ⟨A, c, ev, -⟩ := ho'.rd
  obtain ⟨A0, c0, ev0, -⟩ := ho.rd
  rw [List.length_map] at ev0
  rw [List.length_append, List.length_map, List.length_singleton] at ev
  subst ev ev0
  clear h hs hb ho ho' hg' hrun hb1 hsz hJ
  go_enter Try.func78, Try.ntmps78
  go_wp2_with fail
  have HI : (fun X => Box X M #[cmpF, .slice A0 xs.length c0] 79) U.drew := BM1.out
  refine regk_start [11] (fun X => Box X M #[cmpF, .slice A0 xs.length c0] 79) (by kernel_rfl) ?_
  refine regk_free 0 4 (v := ?_) (T' := ?_) (fun _ => HI) (by kernel_rfl) (by kernel_rfl) (by kernel_rfl) (by kernel_rfl) (fun _ _ _ h => h) (fun o ho => ?_) ?_ ?_
  rotate_left 2
  · cases ho
    refine ⟨rfl, rfl, fun W => ?_⟩
    go_simp; (try with_reducible rfl)
  · simp only [List.setIfInBounds_toArray, List.set_cons_succ, List.set_cons_zero]; exact rfl
  refine regk_free 1 5 (v := ?_) (T' := ?_) (fun _ => HI) (by kernel_rfl) (by kernel_rfl) (by kernel_rfl) (by kernel_rfl) (fun _ _ _ h => h) (fun o ho => ?_) ?_ ?_
  rotate_left 2
  · cases ho
    refine ⟨rfl, rfl, fun W => ?_⟩
    go_simp; (try with_reducible rfl)
  · simp only [List.setIfInBounds_toArray, List.set_cons_succ, List.set_cons_zero]; exact rfl
  refine regk_take 2 6 (v := ?_) (T' := ?_) HI (by kernel_rfl) (by kernel_rfl) (by kernel_rfl) (by kernel_rfl) (by kernel_rfl) (by kernel_rfl) (fun _ _ _ h => h) (fun o ho => ?_) ?_ ?_
  rotate_left 2
  · cases ho
    refine ⟨rfl, rfl, fun W hW => ?_⟩
    have hBX := (show Box W M #[cmpF, .slice A0 xs.length c0] 79 from hW)
    have m1 := hBX.cell 1 _ rfl
    go_simp; (try with_reducible rfl)
  · simp only [List.setIfInBounds_toArray, List.set_cons_succ, List.set_cons_zero]; exact rfl
  refine regk_free 3 7 (v := ?_) (T' := ?_) (fun _ => HI) (by kernel_rfl) (by kernel_rfl) (by kernel_rfl) (by kernel_rfl) (fun _ _ _ h => h) (fun o ho => ?_) ?_ ?_
  rotate_left 2
  · cases ho
    refine ⟨rfl, rfl, fun W => ?_⟩
    go_simp; (try with_reducible rfl)
  · simp only [List.setIfInBounds_toArray, List.set_cons_succ, List.set_cons_zero]; exact rfl
  refine regk_take 4 8 (v := ?_) (T' := ?_) HI (by kernel_rfl) (by kernel_rfl) (by kernel_rfl) (by kernel_rfl) (by kernel_rfl) (by kernel_rfl) (fun _ _ _ h => h) (fun o ho => ?_) ?_ ?_
  rotate_left 2
  · cases ho
    refine ⟨rfl, rfl, fun W hW => ?_⟩
    have hBX := (show Box W M #[cmpF, .slice A0 xs.length c0] 79 from hW)
    have m1 := hBX.cell 1 _ rfl
    go_simp; (try with_reducible rfl)
  · simp only [List.setIfInBounds_toArray, List.set_cons_succ, List.set_cons_zero]; exact rfl
  refine regk_free 5 9 (v := ?_) (T' := ?_) (fun _ => HI) (by kernel_rfl) (by kernel_rfl) (by kernel_rfl) (by kernel_rfl) (fun _ _ _ h => h) (fun o ho => ?_) ?_ ?_
  rotate_left 2
  · cases ho
    refine ⟨rfl, rfl, fun W => ?_⟩
    go_simp; (try with_reducible rfl)
  · simp only [List.setIfInBounds_toArray, List.set_cons_succ, List.set_cons_zero]; exact rfl
  refine regk_take 6 10 (v := ?_) (T' := ?_) HI (by kernel_rfl) (by kernel_rfl) (by kernel_rfl) (by kernel_rfl) (by kernel_rfl) (by kernel_rfl) (fun _ _ _ h => h) (fun o ho => ?_) ?_ ?_
  rotate_left 2
  · cases ho
    refine ⟨rfl, rfl, fun W hW => ?_⟩
    have hBX := (show Box W M #[cmpF, .slice A0 xs.length c0] 79 from hW)
    have m1 := hBX.cell 1 _ rfl
    go_simp; (try with_reducible rfl)
  · simp only [List.setIfInBounds_toArray, List.set_cons_succ, List.set_cons_zero]; exact rfl
  refine regk_make (I' := (fun X => Box X M #[cmpF, .slice A0 xs.length c0] 79)) (fun _ h => h) 7 11 (v := .slice (some ⟨U.drew.heap.size, 0, none⟩) 1 1) (w' := U.drew.alloc (.cells #[.pointer (some ⟨a.at_, 0, none⟩)] 81)) (T' := ?_) (by kernel_rfl) (fun o ho => ?_) (fun _ => BM1.out.alloc _) ?_ ?_
  rotate_left
  · cases ho
    refine ⟨rfl, rfl, ?_⟩
    go_simp; (try (constructor <;> with_reducible rfl)); (try with_reducible rfl)
  · simp only [List.setIfInBounds_toArray, List.set_cons_succ, List.set_cons_zero]; exact rfl
  refine regk_make (I' := (fun X => Box X M #[cmpF, .slice A0 xs.length c0] 79)) (fun _ h => h) 8 12 (v := .slice A (xs.length + 1) c) (w' := w') (T' := ?_) (by kernel_rfl) (fun o ho => ?_) (fun _ => HP.out.1) ?_ ?_
  rotate_left
  · cases ho
    exact ⟨rfl, rfl, exec_appK (.tmp 8) (.tmp 11) rfl rfl rfl HR.out⟩
  · simp only [List.setIfInBounds_toArray, List.set_cons_succ, List.set_cons_zero]; exact rfl
  have HI : (fun X => Box X M #[cmpF, .slice A0 xs.length c0] 79) w' := HP.out.1
  refine regk_take 9 13 (v := ?_) (T' := ?_) HI (by kernel_rfl) (by kernel_rfl) (by kernel_rfl) (by kernel_rfl) (by kernel_rfl) (by kernel_rfl) (fun _ _ _ h => h) (fun o ho => ?_) ?_ ?_
  rotate_left 2
  · cases ho
    refine ⟨rfl, rfl, fun W hW => ?_⟩
    have hBX := (show Box W M #[cmpF, .slice A0 xs.length c0] 79 from hW)
    have m1 := hBX.cell 1 _ rfl
    go_simp; (try with_reducible rfl)
  · simp only [List.setIfInBounds_toArray, List.set_cons_succ, List.set_cons_zero]; exact rfl
  refine regk_free 10 14 (v := ?_) (T' := ?_) (fun _ => HI) (by kernel_rfl) (by kernel_rfl) (by kernel_rfl) (by kernel_rfl) (fun _ _ _ h => h) (fun o ho => ?_) ?_ ?_
  rotate_left 2
  · cases ho
    refine ⟨rfl, rfl, fun W => ?_⟩
    go_simp; (try with_reducible rfl)
  · simp only [List.setIfInBounds_toArray, List.set_cons_succ, List.set_cons_zero]; exact rfl
  refine regk_store (I' := (fun X => Box X M #[cmpF, .slice A0 xs.length c0] 79)) (fun _ h => h) 11 (w' := (w'.setCell ⟨M, 1, none⟩ (.slice A (xs.length + 1) c))) (by kernel_rfl) (fun o ho => ?_) (noB_no (by kernel_rfl)) ?_
  · cases ho
    refine ⟨rfl, rfl, ?_⟩
    have m1 := HP.out.1.cell 1 _ rfl
    have f1 := HP.out.1.frozen 1
    go_simp; (try with_reducible rfl)
  refine regk_done (by kernel_rfl) ?_
  go_wp2_with fail
  refine bodyPost_end (v := .tuple #[]) (results_none rfl _ _ _) rfl ?_
  exact ⟨⟨_, rfl⟩, HP.out.2, HJ.out⟩
set_option maxHeartbeats 4000000 in
set_option maxRecDepth 100000 in
theorem pop_ver (hJ : OwnT T B J) (hT2 : T 79 = false) (s : β) (xs : List (Rst Ver)) (a : Rst Ver) (U : World) (h : St verL 79 81 83 cmpF Kp B M pool U (xs ++ [a])) (hs : J s U) :
    Calls Try.prog 77 #[.pointer (some ⟨M, 0, none⟩)] U fun e W' => e = .returned (.iface 81 (.pointer (some ⟨a.at_, 0, none⟩))) ∧ St verL 79 81 83 cmpF Kp B M pool W' xs ∧ J s W' := by
  obtain ⟨g, c, hb, ho, hc⟩ := h.row (by simp)
  have hlast := hc xs.length (by simp)
  rw [List.getElem_append_right (Nat.le_refl _)] at hlast
  simp only [Nat.sub_self, List.getElem_cons_zero] at hlast
  have hnc : xs.length + 1 ≤ c := by
    obtain ⟨A, c', e, h1, _⟩ := ho.rd
    injection e with _ _ e
    subst e
    simpa using h1
  have HS := Lib.hid (h.popped (by decide) (by decide) hb ho)
  have HJ := Lib.hid (hJ.set hs hb h.low hT2 1 (.slice (some ⟨g, 0, none⟩) xs.length c))
  have hlen : (((xs ++ [a]).length : Nat) : Int) = (xs.length : Int) + 1 := by simp
  have hln : (xs ++ [a]).length = xs.length + 1 := by simp
  rw [hln] at hb
  have m1 := hb.cell 1 (.slice (some ⟨g, 0, none⟩) (xs.length + 1) c) rfl
  have f1 := hb.frozen 1
  have hbd : (c : Int) ≤ 9223372036854775807 := by
    obtain ⟨A, c', e, _, h2, _⟩ := ho.rd
    injection e with _ _ e
    subst e
    omega
  have hnb : (xs.length : Int) ≤ 9223372036854775806 := by omega
  have hcut := run_head (P := Try.prog) (t := 77) (e := 81) Try.underlying77 (sz := 1) (fun w => by kernel_rfl) g (xs.length + 1) c xs.length (by omega) hnc
  have HC := Lib.hid hnc
  clear h hs hb ho hc hnc hlen hln hJ
  generalize xs.length = n at *
  go_enter Try.func77, Try.ntmps77
  go_wp2_with fail
  go_ret
  exact ⟨rfl, HS.out, HJ.out⟩
end
end Go.Proofs.Ytnioiojafnkmhaa
