/- Layer 12: what the law does of both lists. -/
import Derived.Test.YtlihiojdjcmggaaSk
namespace Go.Proofs.Ytlihiojdjcmggaa
open Go.RowKit
set_option linter.unusedVariables false

set_option maxHeartbeats 8000000 in
set_option maxRecDepth 100000 in
theorem law_doesK {Sk : Nat → World → Nat → Value → List It → Prop} {P : Obj → Bool} (K : SkOps Sk P) {n : Nat} (w : World) (B : Nat) (p va : Value) (l : List It) (d : DeedK) (hs : Sk n w B p l) (ho : OwnX itL 46 w B va l) (hB : B ≤ w.heap.size) (hn : n ≤ 900) (hl : l.length ≤ 900) (hd : OkDeedK d) :
    Calls Try.prog 10 #[p, va, .agg #[.int .i64 d.kind, .int .i64 d.level, .int .i64 d.v, .string d.key]] w fun z w' => ∃ v', z = .returned (.tuple #[v', .bool true]) ∧ Sk (n + 1) w' B p (doI l d) ∧ OwnX itL 46 w' B v' (doI l d) ∧ Keeps B P w w' := by
  obtain ⟨kd, lv, v, ky⟩ := d
  obtain ⟨hk1, hk2, hk3, hk4⟩ := hd
  simp only at hk1 hk2 hk3 hk4
  obtain ⟨W0, hW0⟩ : ∃ W0, w.alloc (.cells #[.int .i64 kd, .int .i64 lv, .int .i64 v, .string ky] 30) = W0 := ⟨_, rfl⟩
  have BX := Lib.hid (show Box W0 w.heap.size #[.int .i64 kd, .int .i64 lv, .int .i64 v, .string ky] 30 from by rw [← hW0]; exact Box.new w _ _ _ rfl)
  have GB := Lib.hid (show Below w.heap.size w W0 from by rw [← hW0]; exact alloc_below _ _)
  have S := Lib.hid (show Sk n W0 B p l from K.on hs GB.out)
  have O := Lib.hid (show OwnX itL 46 W0 B va l from ho.on GB.out)
  have HB := Lib.hid (show B ≤ W0.heap.size from Nat.le_trans hB GB.out.size)
  have G := Lib.hid (keepsOf (P := P) GB.out hB)
  have K := Lib.hid K
  have HLV := Lib.hid hk2
  have HV := Lib.hid hk3
  have HN := Lib.hid (show n ≤ 100000 from by omega)
  have HL := Lib.hid (show l.length ≤ 1000 from by omega)
  have HLL := Lib.hid (show l.length ≤ 100000 from by omega)
  have FS := Lib.hid (show (fewK ky).size ≤ 1000 from Nat.le_trans (fewK_size ky) (by decide))
  have c0 := BX.out.cell 0 (.int .i64 kd) rfl
  have c1 := BX.out.cell 1 (.int .i64 lv) rfl
  have c2 := BX.out.cell 2 (.int .i64 v) rfl
  have c3 := BX.out.cell 3 (.string ky) rfl
  obtain ⟨gp, ep⟩ := K.out.ptr hs
  subst ep
  obtain ⟨A, ca, rfl, -⟩ := ho.rd
  clear hs ho hB hl hk1 hk2 hk3 hk4
  by_cases k0 : kd = 0
  · subst k0
    have HR := Lib.hid (show doI l ⟨0, lv, v, ky⟩ = (putI l (fewK ky) lv v).1 from by unfold doI; rw [if_pos rfl])
    generalize doI l ⟨0, lv, v, ky⟩ = res at *
    go_enter Try.func10, Try.ntmps10
    go_wp2_with (first
      | (go_at_call 9; refine (law_fewK _ _).mono ?_; rintro e w' ⟨rfl, rfl⟩)
      | (go_at_call 21; refine (ref_put _ l (fewK ky) lv v _ O.out.rd HLL.out).mono ?_; rintro z w1 ⟨v1, rfl, ho1, hb1⟩; have O1 := Lib.hid (OwnX.mono ho1 HB.out); have S1 := Lib.hid (K.out.on S.out hb1); have BX1 := Lib.hid (BX.out.later hb1); have G1 := Lib.hid (G.out.trans (keepsOf hb1 HB.out)); have HB1 := Lib.hid (Nat.le_trans HB.out hb1.size); have d1 := BX1.out.cell 1 (.int .i64 lv) rfl; have d2 := BX1.out.cell 2 (.int .i64 v) rfl; clear ho1 hb1)
      | (go_at_call 22; refine (K.out.put _ B _ l (fewK ky) lv v S1.out HB1.out HN.out HL.out FS.out HLV.out HV.out).mono ?_; rintro z w2 ⟨rfl, hs2, hk2⟩; have S2 := Lib.hid hs2; have O2 := Lib.hid (hk2.own O1.out K.out.item); have G2 := Lib.hid (G1.out.trans hk2); clear hs2 hk2))
    go_ret2
    exact ⟨v1, rfl, by rw [HR.out]; exact K.out.more S2.out (by omega), by rw [HR.out]; exact O2.out, G2.out⟩
  have z0 : (kd == 0) = false := by rw [beq_eq_false_iff_ne]; exact k0
  by_cases k1 : kd = 1
  · subst k1
    have HR := Lib.hid (show doI l ⟨1, lv, v, ky⟩ = (dropI l (fewK ky)).1 from by unfold doI; rw [if_neg (by simp), if_pos rfl])
    generalize doI l ⟨1, lv, v, ky⟩ = res at *
    go_enter Try.func10, Try.ntmps10
    go_wp2_with (first
      | (go_at_call 9; refine (law_fewK _ _).mono ?_; rintro e w' ⟨rfl, rfl⟩)
      | (go_at_call 23; refine (ref_drop _ l (fewK ky) _ B O.out HB.out HLL.out).mono ?_; rintro z w1 ⟨v1, rfl, ho1, hb1⟩; have O1 := Lib.hid ho1; have S1 := Lib.hid (K.out.on S.out hb1); have G1 := Lib.hid (G.out.trans (keepsOf hb1 HB.out)); have HB1 := Lib.hid (Nat.le_trans HB.out hb1.size); clear ho1 hb1)
      | (go_at_call 24; refine (K.out.drop _ B _ l (fewK ky) S1.out HB1.out HL.out FS.out).mono ?_; rintro z w2 ⟨rfl, hs2, hk2⟩; have S2 := Lib.hid hs2; have O2 := Lib.hid (hk2.own O1.out K.out.item); have G2 := Lib.hid (G1.out.trans hk2); clear hs2 hk2))
    go_ret2
    exact ⟨v1, rfl, by rw [HR.out]; exact K.out.more S2.out (by omega), by rw [HR.out]; exact O2.out, G2.out⟩
  have z1 : (kd == 1) = false := by rw [beq_eq_false_iff_ne]; exact k1
  have HR := Lib.hid (show doI l ⟨kd, lv, v, ky⟩ = l from by unfold doI; rw [if_neg k0, if_neg k1])
  have FI := floor_is l (fewK ky)
  have HH := Lib.hid (fun h => here_lt (l := l) (key := fewK ky) h)
  have GV : hereI l (fewK ky) = false → getI l (fewK ky) = 0 := fun h => by rw [getI, h]; rfl
  have GT := Lib.hid (fun w1 h1 h2 => K.out.get (n := n) w1 B (.pointer (some ⟨gp, 0, none⟩)) l (fewK ky) h1 h2 HL.out FS.out)
  have FL := Lib.hid (fun w1 h1 => ref_floor (.slice A l.length ca) l (fewK ky) w1 h1 HLL.out)
  have HGV : ∀ hq : atI (fewK ky) l < l.length, hereI l (fewK ky) = true → getI l (fewK ky) = l[atI (fewK ky) l].v := fun hq h => by rw [getI, if_pos h, List.getElem?_eq_getElem hq]
  generalize doI l ⟨kd, lv, v, ky⟩ = res at *
  generalize floorI l (fewK ky) = fl at *
  obtain ⟨fs, fb⟩ := fl
  simp only at FI FL
  clear k0 k1
  cases hh : hereI l (fewK ky)
  · have GV := GV hh
    rw [hh] at FI GT
    rw [GV] at GT
    clear HGV
    cases fb
    case' true => have fe : (fs.toList == (fewK ky).toList) = false := by simpa using FI
    all_goals
      go_enter Try.func10, Try.ntmps10
      go_wp2_with (first
        | (go_at_call 9; refine (law_fewK _ _).mono ?_; rintro e w' ⟨rfl, rfl⟩)
        | (go_at_call 20; refine (GT.out _ S.out HB.out).mono ?_; rintro z w1 ⟨rfl, hb1⟩; have O1 := Lib.hid (O.out.on hb1); have S1 := Lib.hid (K.out.on S.out hb1); have G1 := Lib.hid (G.out.trans (keepsOf hb1 HB.out)); have HB1 := Lib.hid (Nat.le_trans HB.out hb1.size); clear hb1)
        | (go_at_call 25; refine (FL.out _ O1.out.rd).mono ?_; rintro z w2 ⟨rfl, hb2⟩; have O2 := Lib.hid (O1.out.on hb2); have S2 := Lib.hid (K.out.on S1.out hb2); have G2 := Lib.hid (G1.out.trans (keepsOf hb2 HB1.out)); have HB2 := Lib.hid (Nat.le_trans HB1.out hb2.size); clear hb2))
      go_ret2
      exact ⟨.slice A l.length ca, rfl, by rw [HR.out]; exact K.out.more S2.out (by omega), by rw [HR.out]; exact O2.out, G2.out⟩
  · obtain ⟨hq, -⟩ := HH.out hh
    have HGV := Lib.hid (HGV hq hh)
    obtain ⟨x, hx⟩ : ∃ x, l[atI (fewK ky) l] = x := ⟨_, rfl⟩
    rw [hh] at FI GT
    rw [hx] at HGV
    rw [HGV.out] at GT
    obtain ⟨xk, xl, xv⟩ := x
    simp only at GT
    have hf : fb = true ∧ (fs.toList == (fewK ky).toList) = true := by simpa using FI
    obtain ⟨rfl, fe⟩ := hf
    have hlen : (fromI l (fewK ky)).length = l.length - atI (fewK ky) l := by rw [fromI, List.length_drop]
    have HF0 : 0 < (fromI l (fewK ky)).length := by omega
    have HFX : (fromI l (fewK ky))[0] = ⟨xk, xl, xv⟩ := by rw [← hx]; simp [fromI]
    have HFI : (0 : Int) < ((fromI l (fewK ky)).length : Int) := by omega
    have HFK := Lib.hid HF0
    have HFX := Lib.hid HFX
    clear FI GV HH hx HGV hlen hh hq
    go_enter Try.func10, Try.ntmps10
    go_wp2_with (first
      | (go_at_call 9; refine (law_fewK _ _).mono ?_; rintro e w' ⟨rfl, rfl⟩)
      | (go_at_call 20; refine (GT.out _ S.out HB.out).mono ?_; rintro z w1 ⟨rfl, hb1⟩; have O1 := Lib.hid (O.out.on hb1); have S1 := Lib.hid (K.out.on S.out hb1); have G1 := Lib.hid (G.out.trans (keepsOf hb1 HB.out)); have HB1 := Lib.hid (Nat.le_trans HB.out hb1.size); clear hb1)
      | (go_at_call 25; refine (FL.out _ O1.out.rd).mono ?_; rintro z w2 ⟨rfl, hb2⟩; have O2 := Lib.hid (O1.out.on hb2); have S2 := Lib.hid (K.out.on S1.out hb2); have G2 := Lib.hid (G1.out.trans (keepsOf hb2 HB1.out)); have HB2 := Lib.hid (Nat.le_trans HB1.out hb2.size); clear hb2)
      | (go_at_call 18; refine (ref_from _ l (fewK ky) _ O2.out.rd HLL.out).mono ?_; rintro z w3 ⟨v3, rfl, hr3, hb3⟩; have S3 := Lib.hid (K.out.on S2.out hb3); have O3 := Lib.hid (O2.out.on hb3); have G3 := Lib.hid (G2.out.trans (keepsOf hb3 HB2.out)); have R3 := Lib.hid (hr3.more hb3.size); obtain ⟨A3, c3, rfl, -⟩ := id hr3; clear hr3 hb3))
    generalize fromI l (fewK ky) = fr at *
    obtain ⟨b3, o3, rfl, -, m0, m1, m2⟩ := RdX.it R3.out 0 HF0 HFX.out
    clear m0 m1 m2
    refine reg_start (by kernel_rfl) ?_
    refine reg_take2 0 90 (v := ?_) (T' := ?_) (Later.refl _) (by kernel_rfl) (by kernel_rfl) (by kernel_rfl) (fun _ _ _ h => h) (fun o ho => ?_) ?_ ?_
    rotate_left 2
    · cases ho
      refine ⟨rfl, rfl, fun W hW => ?_⟩
      go_simp; (try with_reducible rfl)
    · simp only [List.setIfInBounds_toArray, List.set_cons_succ, List.set_cons_zero]; exact rfl
    refine reg_take2 1 91 (v := ?_) (T' := ?_) (Later.refl _) (by kernel_rfl) (by kernel_rfl) (by kernel_rfl) (fun _ _ _ h => h) (fun o ho => ?_) ?_ ?_
    rotate_left 2
    · cases ho
      refine ⟨rfl, rfl, fun W hW => ?_⟩
      go_simp; (try with_reducible rfl)
    · simp only [List.setIfInBounds_toArray, List.set_cons_succ, List.set_cons_zero]; exact rfl
    refine reg_take2 2 92 (v := ?_) (T' := ?_) (Later.refl _) (by kernel_rfl) (by kernel_rfl) (by kernel_rfl) (fun _ _ _ h => h) (fun o ho => ?_) ?_ ?_
    rotate_left 2
    · cases ho
      refine ⟨rfl, rfl, fun W hW => ?_⟩
      go_simp; (try with_reducible rfl)
    · simp only [List.setIfInBounds_toArray, List.set_cons_succ, List.set_cons_zero]; exact rfl
    refine reg_take2 3 93 (v := ?_) (T' := ?_) (Later.refl _) (by kernel_rfl) (by kernel_rfl) (by kernel_rfl) (fun _ _ _ h => h) (fun o ho => ?_) ?_ ?_
    rotate_left 2
    · cases ho
      refine ⟨rfl, rfl, fun W hW => ?_⟩
      go_simp; (try with_reducible rfl)
    · simp only [List.setIfInBounds_toArray, List.set_cons_succ, List.set_cons_zero]; exact rfl
    refine reg_take2 4 94 (v := ?_) (T' := ?_) (Later.refl _) (by kernel_rfl) (by kernel_rfl) (by kernel_rfl) (fun _ _ _ h => h) (fun o ho => ?_) ?_ ?_
    rotate_left 2
    · cases ho
      refine ⟨rfl, rfl, fun W hW => ?_⟩
      go_simp; (try with_reducible rfl)
    · simp only [List.setIfInBounds_toArray, List.set_cons_succ, List.set_cons_zero]; exact rfl
    refine reg_take2 5 95 (v := ?_) (T' := ?_) (Later.refl _) (by kernel_rfl) (by kernel_rfl) (by kernel_rfl) (fun _ _ _ h => h) (fun o ho => ?_) ?_ ?_
    rotate_left 2
    · cases ho
      refine ⟨rfl, rfl, fun W hW => ?_⟩
      obtain ⟨bq, oq, hq9, -, n0, n1, n2⟩ := RdX.it (R3.out.drew.on hW) 0 HFK.out HFX.out
      cases hq9
      go_simp; (try with_reducible rfl)
    · simp only [List.setIfInBounds_toArray, List.set_cons_succ, List.set_cons_zero]; exact rfl
    refine reg_take2 6 96 (v := ?_) (T' := ?_) (Later.refl _) (by kernel_rfl) (by kernel_rfl) (by kernel_rfl) (fun _ _ _ h => h) (fun o ho => ?_) ?_ ?_
    rotate_left 2
    · cases ho
      refine ⟨rfl, rfl, fun W hW => ?_⟩
      go_simp; (try with_reducible rfl)
    · simp only [List.setIfInBounds_toArray, List.set_cons_succ, List.set_cons_zero]; exact rfl
    refine reg_take2 7 97 (v := ?_) (T' := ?_) (Later.refl _) (by kernel_rfl) (by kernel_rfl) (by kernel_rfl) (fun _ _ _ h => h) (fun o ho => ?_) ?_ ?_
    rotate_left 2
    · cases ho
      refine ⟨rfl, rfl, fun W hW => ?_⟩
      obtain ⟨bq, oq, hq9, -, n0, n1, n2⟩ := RdX.it (R3.out.drew.on hW) 0 HFK.out HFX.out
      cases hq9
      go_simp; (try with_reducible rfl)
    · simp only [List.setIfInBounds_toArray, List.set_cons_succ, List.set_cons_zero]; exact rfl
    refine reg_take2 8 98 (v := ?_) (T' := ?_) (Later.refl _) (by kernel_rfl) (by kernel_rfl) (by kernel_rfl) (fun _ _ _ h => h) (fun o ho => ?_) ?_ ?_
    rotate_left 2
    · cases ho
      refine ⟨rfl, rfl, fun W hW => ?_⟩
      go_simp; (try with_reducible rfl)
    · simp only [List.setIfInBounds_toArray, List.set_cons_succ, List.set_cons_zero]; exact rfl
    refine reg_take2 9 99 (v := ?_) (T' := ?_) (Later.refl _) (by kernel_rfl) (by kernel_rfl) (by kernel_rfl) (fun _ _ _ h => h) (fun o ho => ?_) ?_ ?_
    rotate_left 2
    · cases ho
      refine ⟨rfl, rfl, fun W hW => ?_⟩
      go_simp; (try with_reducible rfl)
    · simp only [List.setIfInBounds_toArray, List.set_cons_succ, List.set_cons_zero]; exact rfl
    refine reg_take2 10 6 (v := ?_) (T' := ?_) (Later.refl _) (by kernel_rfl) (by kernel_rfl) (by kernel_rfl) (fun _ _ _ h => h) (fun o ho => ?_) ?_ ?_
    rotate_left 2
    · cases ho
      refine ⟨rfl, rfl, fun W hW => ?_⟩
      go_simp; (try with_reducible rfl)
    · simp only [List.setIfInBounds_toArray, List.set_cons_succ, List.set_cons_zero]; exact rfl
    refine reg_take2 11 7 (v := ?_) (T' := ?_) (Later.refl _) (by kernel_rfl) (by kernel_rfl) (by kernel_rfl) (fun _ _ _ h => h) (fun o ho => ?_) ?_ ?_
    rotate_left 2
    · cases ho
      refine ⟨rfl, rfl, fun W hW => ?_⟩
      go_simp; (try with_reducible rfl)
    · simp only [List.setIfInBounds_toArray, List.set_cons_succ, List.set_cons_zero]; exact rfl
    refine reg_done (by kernel_rfl) ?_
    go_wp2_with fail
    go_ret2
    exact ⟨.slice A l.length ca, rfl, by rw [HR.out]; exact K.out.on (K.out.more S3.out (Nat.le_succ n)) (Below.refl _ _).drew, by rw [HR.out]; exact O3.out.drew, G3.out.drew⟩
end Go.Proofs.Ytlihiojdjcmggaa
