/- Layer 13: Add, by the document. -/
import Derived.Test.YtigdkflknhdbgaaCa
import Derived.BigQuiet
namespace Go.Proofs.Ytigdkflknhdbgaa
open Go.RowKit
set_option linter.unusedVariables false

theorem ret_ve {v v' : Value} {a b : Int} (h : v = v') (h2 : a = b) : Ending.returned (.tuple #[v, .int .i64 a]) = .returned (.tuple #[v', .int .i64 b]) := by rw [h, h2]
set_option maxHeartbeats 8000000 in
set_option maxRecDepth 100000 in
theorem ref13_add (va : Value) (l : List Ver) (v : Ver) (w : World) (B : Nat) (ho : OwnVr w B va l) (hB : B ≤ w.heap.size) (hl : l.length ≤ 1000) (hk : v.key.size ≤ 1000000) :
    Calls Try.prog 24 #[va, verV v] w fun z w' => ∃ v', z = .returned (.tuple #[v', .int .i64 (addV l v).2]) ∧ OwnVr w' B v' (addV l v).1 ∧ (v' = va ∨ ∀ k, v'.ownBlock = some k → w.heap.size ≤ k) ∧ Below w.heap.size w w' := by
  have MY := Lib.hid (fun w => ref6_may v w hk)
  have HD := Lib.hid (show addV l v = if mayV v = true then (if l.any (alikeV v) = true then (l, 9) else (insA v l, 0)) else (l, 1) from rfl)
  have STEP := Lib.hid (fun (k : Nat) (h : k < l.length) => insA_drop v h)
  have ANY := Lib.hid (fun (k : Nat) (h : k < l.length) => any_dropV (alikeV v) h)
  obtain ⟨kk, bb, ee, ss, ⟨xx, yy⟩, uu, gg⟩ := v
  obtain ⟨W0, hW0⟩ : ∃ W0, w.alloc (.cells #[.string kk, .int .i64 bb, .int .i64 ee, .int .i64 ss, .int .i64 xx, .int .i64 yy, .string uu, .bool gg] 47) = W0 := ⟨_, rfl⟩
  have hb0 : Below w.heap.size w W0 := by rw [← hW0]; exact alloc_below _ _
  have BX0 := Lib.hid (show Box W0 w.heap.size #[.string kk, .int .i64 bb, .int .i64 ee, .int .i64 ss, .int .i64 xx, .int .i64 yy, .string uu, .bool gg] 47 from by rw [← hW0]; exact Box.new _ _ _ _ rfl)
  have OL := Lib.hid (ho.on hb0)
  have HA := Lib.hid (ho.on hb0).rd
  have HL := Lib.hid hl
  have G0 := Lib.hid hb0
  have HB0 := Lib.hid (Nat.le_trans hB hb0.size)
  obtain ⟨A, ca, rfl, -⟩ := ho.rd
  obtain ⟨res, hres⟩ : ∃ res, addV l ⟨kk, bb, ee, ss, (xx, yy), uu, gg⟩ = res := ⟨_, rfl⟩
  rw [hres] at HD ⊢
  obtain ⟨R, hR⟩ : ∃ R, insA ⟨kk, bb, ee, ss, (xx, yy), uu, gg⟩ l = R := ⟨_, rfl⟩
  rw [hR] at HD
  have HR := Lib.hid hR
  obtain ⟨al, hal⟩ : ∃ al, l.any (alikeV ⟨kk, bb, ee, ss, (xx, yy), uu, gg⟩) = al := ⟨_, rfl⟩
  rw [hal] at HD
  have HAL := Lib.hid hal
  obtain ⟨mv, hmv⟩ : ∃ mv, mayV ⟨kk, bb, ee, ss, (xx, yy), uu, gg⟩ = mv := ⟨_, rfl⟩
  rw [hmv] at HD MY
  clear ho hl hk hres hR hal hmv hb0 hB
  unfold verV at MY ⊢
  simp only at MY ⊢
  have HW0 := Lib.hid hW0
  go_enter Try.func24, Try.ntmps24
  have z0 := BX0.out.cell 0 _ rfl
  have z1 := BX0.out.cell 1 _ rfl
  have z2 := BX0.out.cell 2 _ rfl
  have z3 := BX0.out.cell 3 _ rfl
  have z4 := BX0.out.cell 4 _ rfl
  have z5 := BX0.out.cell 5 _ rfl
  have z6 := BX0.out.cell 6 _ rfl
  have z7 := BX0.out.cell 7 _ rfl
  go_wp2_with fail
  clear z0 z1 z2 z3 z4 z5 z6 z7 hW0
  refine (MY.out _).mono ?_
  rintro z w1 ⟨rfl, hb1⟩
  have GW := Lib.hid hb1
  clear hb1
  cases mv
  · have HN := Lib.hid (show res = (l, 1) from HD.out)
    go_wp2_with fail
    go_ret2
    exact ⟨_, ret_ve rfl (by rw [HN.out]), by rw [HN.out]; exact OL.out.on GW.out, .inl rfl, G0.out.trans (GW.out.mono G0.out.size)⟩
  go_wp2_with fail
  go_loopw [7, 8, 9] (fun x y i wr => ∃ (k : Nat) (out : List Ver) (dn : Bool), i = .int .i64 k ∧ y = .bool dn ∧ k ≤ l.length ∧ out.length ≤ k + 1 ∧ (dn = false → out.length ≤ k) ∧ R = out ++ (if dn = true then l.drop k else insA ⟨kk, bb, ee, ss, (xx, yy), uu, gg⟩ (l.drop k)) ∧ al = (l.drop k).any (alikeV ⟨kk, bb, ee, ss, (xx, yy), uu, gg⟩) ∧ OwnVr wr W0.heap.size x out ∧ Below W0.heap.size W0 wr) (fun _ _ i _ => l.length - (intOf i).toNat)
  case atStart => exact ⟨0, [], false, rfl, rfl, Nat.zero_le _, by simp, fun _ => Nat.le_refl _, by rw [List.drop_zero]; exact HR.out.symm, by rw [List.drop_zero]; exact HAL.out.symm, OwnX.nil _ _, GW.out⟩
  case round =>
    obtain ⟨k, out, dn, rfl, rfl, hk, hol, hod, hR, hA, how, hbw⟩ := hrel
    rename World => wo
    have GW := Lib.hid hbw
    have OW := Lib.hid how
    have HOL := Lib.hid hol
    have HOD := Lib.hid hod
    have HRR := Lib.hid hR
    have HAA := Lib.hid hA
    obtain ⟨A2, c2', e2', -⟩ := how.rd
    subst e2'
    clear hbw how hol hod hR hA HR HAL
    by_cases hlt : k < l.length
    · have zl : decide ((k : Int) < (l.length : Int)) = true := by simp; omega
      have hki : (k : Int) < (l.length : Int) := by omega
      have hw64 : IntKind.i64.wrap ((k : Int) + 1) = (k : Int) + 1 := by rw [IntKind.wrap_i64]; have := HL.out; omega
      have ST := Lib.hid (STEP.out k hlt)
      have AN := Lib.hid (ANY.out k hlt)
      have DR := Lib.hid (List.drop_eq_getElem_cons hlt)
      obtain ⟨x, hx⟩ : ∃ x, l[k] = x := ⟨_, rfl⟩
      rw [hx] at ST AN DR
      have L1 := Lib.hid (fun w => ref6_less ⟨kk, bb, ee, ss, (xx, yy), uu, gg⟩ x w)
      have L2 := Lib.hid (fun w => ref6_less x ⟨kk, bb, ee, ss, (xx, yy), uu, gg⟩ w)
      obtain ⟨p1, hp1⟩ : ∃ p1, lessV ⟨kk, bb, ee, ss, (xx, yy), uu, gg⟩ x = p1 := ⟨_, rfl⟩
      obtain ⟨p2, hp2⟩ : ∃ p2, lessV x ⟨kk, bb, ee, ss, (xx, yy), uu, gg⟩ = p2 := ⟨_, rfl⟩
      have AK := Lib.hid (show alikeV ⟨kk, bb, ee, ss, (xx, yy), uu, gg⟩ x = (!p1 && !p2) from by rw [← hp1, ← hp2]; rfl)
      rw [hp1] at L1 ST
      rw [hp2] at L2
      rw [AK.out] at AN
      obtain ⟨k1, b1, e1, s1, ⟨x1, y1⟩, u1, g1⟩ := x
      unfold verV at L1 L2
      simp only at L1 L2
      have HX := Lib.hid hx
      have HK := Lib.hid hlt
      obtain ⟨b, o, rfl, -⟩ := RdVr.here HA.out k hlt
      clear hx hp1 hp2 AK
      have bx := BX0.out.on GW.out BX0.out.lt
      have z0 := bx.cell 0 _ rfl
      have z1 := bx.cell 1 _ rfl
      have z2 := bx.cell 2 _ rfl
      have z3 := bx.cell 3 _ rfl
      have z4 := bx.cell 4 _ rfl
      have z5 := bx.cell 5 _ rfl
      have z6 := bx.cell 6 _ rfl
      have z7 := bx.cell 7 _ rfl
      obtain ⟨bL, oL, eL, -, c0, c1, c2, c3, c4, c5, c6, c7⟩ := RdVr.here (HA.out.below GW.out) k HK.out
      cases eL
      simp only [HX.out] at c0 c1 c2 c3 c4 c5 c6 c7
      clear bx
      go_wp2_with fail
      have HI : (fun W => W = wo.drew) wo.drew := rfl
      refine regk_start [5] (fun W => W = wo.drew) (by kernel_rfl) ?_
      refine regk_take 0 23 (v := ?_) (T' := ?_) HI (by kernel_rfl) (by kernel_rfl) (by kernel_rfl) (by kernel_rfl) (by kernel_rfl) (by kernel_rfl) (fun _ _ _ h => h) (fun o ho => ?_) ?_ ?_
      rotate_left 2
      · cases ho
        refine ⟨rfl, rfl, fun W hW => ?_⟩
        have hW := (show W = _ from hW); subst hW; go_simp; (try with_reducible rfl)
      · simp only [List.setIfInBounds_toArray, List.set_cons_succ, List.set_cons_zero]; exact rfl
      refine regk_free 1 24 (v := ?_) (T' := ?_) (fun _ => HI) (by kernel_rfl) (by kernel_rfl) (by kernel_rfl) (by kernel_rfl) (fun _ _ _ h => h) (fun o ho => ?_) ?_ ?_
      rotate_left 2
      · cases ho
        refine ⟨rfl, rfl, fun W => ?_⟩
        go_simp; (try with_reducible rfl)
      · simp only [List.setIfInBounds_toArray, List.set_cons_succ, List.set_cons_zero]; exact rfl
      refine regk_free 2 25 (v := ?_) (T' := ?_) (fun _ => HI) (by kernel_rfl) (by kernel_rfl) (by kernel_rfl) (by kernel_rfl) (fun _ _ _ h => h) (fun o ho => ?_) ?_ ?_
      rotate_left 2
      · cases ho
        refine ⟨rfl, rfl, fun W => ?_⟩
        go_simp; (try with_reducible rfl)
      · simp only [List.setIfInBounds_toArray, List.set_cons_succ, List.set_cons_zero]; exact rfl
      refine regk_free 3 26 (v := ?_) (T' := ?_) (fun _ => HI) (by kernel_rfl) (by kernel_rfl) (by kernel_rfl) (by kernel_rfl) (fun _ _ _ h => h) (fun o ho => ?_) ?_ ?_
      rotate_left 2
      · cases ho
        refine ⟨rfl, rfl, fun W => ?_⟩
        go_simp; (try with_reducible rfl)
      · simp only [List.setIfInBounds_toArray, List.set_cons_succ, List.set_cons_zero]; exact rfl
      refine regk_take 4 27 (v := ?_) (T' := ?_) HI (by kernel_rfl) (by kernel_rfl) (by kernel_rfl) (by kernel_rfl) (by kernel_rfl) (by kernel_rfl) (fun _ _ _ h => h) (fun o ho => ?_) ?_ ?_
      rotate_left 2
      · cases ho
        refine ⟨rfl, rfl, fun W hW => ?_⟩
        have hW := (show W = _ from hW); subst hW; go_simp; (try with_reducible rfl)
      · simp only [List.setIfInBounds_toArray, List.set_cons_succ, List.set_cons_zero]; exact rfl
      refine regk_call (I' := (fun W => W = wo.drew)) (fun _ h => h) 5 28 (by kernel_rfl) 45 #[.agg #[.string kk, .int .i64 bb, .int .i64 ee, .int .i64 ss, .int .i64 xx, .int .i64 yy, .string uu, .bool gg], .agg #[.string k1, .int .i64 b1, .int .i64 e1, .int .i64 s1, .int .i64 x1, .int .i64 y1, .string u1, .bool g1]] (fun o ho => by cases ho; exact ⟨rfl, rfl, fun W => by go_simp⟩) ?_
      refine (L1.out _).mono ?_
      rintro e w5 ⟨rfl, hb5⟩
      have GN := Lib.hid (GW.out.drew.trans (hb5.mono GW.out.size))
      have ON := Lib.hid (OwnX.on (show OwnVr wo.drew W0.heap.size _ out from OW.out) hb5)
      clear hb5
      refine ⟨_, _, rfl, noB_no (by kernel_rfl), (by simp only [List.setIfInBounds_toArray, List.set_cons_succ, List.set_cons_zero]; exact rfl), ?_⟩
      refine regk_free 6 10 (v := ?_) (T' := ?_) (noB_no (by kernel_rfl)) (by kernel_rfl) (by kernel_rfl) (by kernel_rfl) (by kernel_rfl) (fun _ _ _ h => h) (fun o ho => ?_) ?_ ?_
      rotate_left 2
      · cases ho
        refine ⟨rfl, rfl, fun W => ?_⟩
        go_simp; (try with_reducible rfl)
      · simp only [List.setIfInBounds_toArray, List.set_cons_succ, List.set_cons_zero]; exact rfl
      refine regk_done (by kernel_rfl) ?_
      clear z0 z1 z2 z3 z4 z5 z6 z7 c0 c1 c2 c3 c4 c5 c6 c7
      have GW := Lib.hid GN.out
      have OW := Lib.hid ON.out
      have bx := BX0.out.on GW.out BX0.out.lt
      have z0 := bx.cell 0 _ rfl
      have z1 := bx.cell 1 _ rfl
      have z2 := bx.cell 2 _ rfl
      have z3 := bx.cell 3 _ rfl
      have z4 := bx.cell 4 _ rfl
      have z5 := bx.cell 5 _ rfl
      have z6 := bx.cell 6 _ rfl
      have z7 := bx.cell 7 _ rfl
      obtain ⟨bL, oL, eL, -, c0, c1, c2, c3, c4, c5, c6, c7⟩ := RdVr.here (HA.out.below GW.out) k HK.out
      cases eL
      simp only [HX.out] at c0 c1 c2 c3 c4 c5 c6 c7
      clear bx
      go_wp2_with fail
      have HI : (fun W => W = w5.drew) w5.drew := rfl
      refine regk_start [5] (fun W => W = w5.drew) (by kernel_rfl) ?_
      refine regk_free 0 29 (v := ?_) (T' := ?_) (fun _ => HI) (by kernel_rfl) (by kernel_rfl) (by kernel_rfl) (by kernel_rfl) (fun _ _ _ h => h) (fun o ho => ?_) ?_ ?_
      rotate_left 2
      · cases ho
        refine ⟨rfl, rfl, fun W => ?_⟩
        go_simp; (try with_reducible rfl)
      · simp only [List.setIfInBounds_toArray, List.set_cons_succ, List.set_cons_zero]; exact rfl
      refine regk_free 1 30 (v := ?_) (T' := ?_) (fun _ => HI) (by kernel_rfl) (by kernel_rfl) (by kernel_rfl) (by kernel_rfl) (fun _ _ _ h => h) (fun o ho => ?_) ?_ ?_
      rotate_left 2
      · cases ho
        refine ⟨rfl, rfl, fun W => ?_⟩
        go_simp; (try with_reducible rfl)
      · simp only [List.setIfInBounds_toArray, List.set_cons_succ, List.set_cons_zero]; exact rfl
      refine regk_free 2 31 (v := ?_) (T' := ?_) (fun _ => HI) (by kernel_rfl) (by kernel_rfl) (by kernel_rfl) (by kernel_rfl) (fun _ _ _ h => h) (fun o ho => ?_) ?_ ?_
      rotate_left 2
      · cases ho
        refine ⟨rfl, rfl, fun W => ?_⟩
        go_simp; (try with_reducible rfl)
      · simp only [List.setIfInBounds_toArray, List.set_cons_succ, List.set_cons_zero]; exact rfl
      refine regk_take 3 32 (v := ?_) (T' := ?_) HI (by kernel_rfl) (by kernel_rfl) (by kernel_rfl) (by kernel_rfl) (by kernel_rfl) (by kernel_rfl) (fun _ _ _ h => h) (fun o ho => ?_) ?_ ?_
      rotate_left 2
      · cases ho
        refine ⟨rfl, rfl, fun W hW => ?_⟩
        have hW := (show W = _ from hW); subst hW; go_simp; (try with_reducible rfl)
      · simp only [List.setIfInBounds_toArray, List.set_cons_succ, List.set_cons_zero]; exact rfl
      refine regk_take 4 33 (v := ?_) (T' := ?_) HI (by kernel_rfl) (by kernel_rfl) (by kernel_rfl) (by kernel_rfl) (by kernel_rfl) (by kernel_rfl) (fun _ _ _ h => h) (fun o ho => ?_) ?_ ?_
      rotate_left 2
      · cases ho
        refine ⟨rfl, rfl, fun W hW => ?_⟩
        have hW := (show W = _ from hW); subst hW; go_simp; (try with_reducible rfl)
      · simp only [List.setIfInBounds_toArray, List.set_cons_succ, List.set_cons_zero]; exact rfl
      refine regk_call (I' := (fun W => W = w5.drew)) (fun _ h => h) 5 34 (by kernel_rfl) 45 #[.agg #[.string k1, .int .i64 b1, .int .i64 e1, .int .i64 s1, .int .i64 x1, .int .i64 y1, .string u1, .bool g1], .agg #[.string kk, .int .i64 bb, .int .i64 ee, .int .i64 ss, .int .i64 xx, .int .i64 yy, .string uu, .bool gg]] (fun o ho => by cases ho; exact ⟨rfl, rfl, fun W => by go_simp⟩) ?_
      refine (L2.out _).mono ?_
      rintro e w7 ⟨rfl, hb5⟩
      have GN := Lib.hid (GW.out.drew.trans (hb5.mono GW.out.size))
      have ON := Lib.hid (OwnX.on (show OwnVr w5.drew W0.heap.size _ out from OW.out) hb5)
      clear hb5
      refine ⟨_, _, rfl, noB_no (by kernel_rfl), (by simp only [List.setIfInBounds_toArray, List.set_cons_succ, List.set_cons_zero]; exact rfl), ?_⟩
      refine regk_free 6 11 (v := ?_) (T' := ?_) (noB_no (by kernel_rfl)) (by kernel_rfl) (by kernel_rfl) (by kernel_rfl) (by kernel_rfl) (fun _ _ _ h => h) (fun o ho => ?_) ?_ ?_
      rotate_left 2
      · cases ho
        refine ⟨rfl, rfl, fun W => ?_⟩
        go_simp; (try with_reducible rfl)
      · simp only [List.setIfInBounds_toArray, List.set_cons_succ, List.set_cons_zero]; exact rfl
      refine regk_done (by kernel_rfl) ?_
      clear z0 z1 z2 z3 z4 z5 z6 z7 c0 c1 c2 c3 c4 c5 c6 c7
      have GW := Lib.hid GN.out
      have OW := Lib.hid ON.out
      have bx := BX0.out.on GW.out BX0.out.lt
      have z0 := bx.cell 0 _ rfl
      have z1 := bx.cell 1 _ rfl
      have z2 := bx.cell 2 _ rfl
      have z3 := bx.cell 3 _ rfl
      have z4 := bx.cell 4 _ rfl
      have z5 := bx.cell 5 _ rfl
      have z6 := bx.cell 6 _ rfl
      have z7 := bx.cell 7 _ rfl
      obtain ⟨bL, oL, eL, -, c0, c1, c2, c3, c4, c5, c6, c7⟩ := RdVr.here (HA.out.below GW.out) k HK.out
      cases eL
      simp only [HX.out] at c0 c1 c2 c3 c4 c5 c6 c7
      clear bx
      cases p1
      · cases p2
        · have HT := Lib.hid (show al = true from by rw [HAA.out, AN.out]; rfl)
          have HN := Lib.hid (show res = (l, 9) from by rw [HD.out, HT.out]; rfl)
          go_wp2_with fail
          go_ret2
          exact ⟨_, ret_ve rfl (by rw [HN.out]), by rw [HN.out]; exact OL.out.on GW.out, .inl rfl, G0.out.trans (GW.out.mono G0.out.size)⟩
        · have HA2 := Lib.hid (show al = (l.drop (k + 1)).any (alikeV ⟨kk, bb, ee, ss, (xx, yy), uu, gg⟩) from by rw [HAA.out, AN.out]; rfl)
          cases dn
          · have HR2 := Lib.hid (show R = (out ++ [(⟨k1, b1, e1, s1, (x1, y1), u1, g1⟩ : Ver)]) ++ (if false = true then l.drop (k + 1) else insA ⟨kk, bb, ee, ss, (xx, yy), uu, gg⟩ (l.drop (k + 1))) from by rw [HRR.out, if_neg (by decide), if_neg (by decide), ST.out, if_neg (by decide), List.append_assoc]; rfl)
            go_wp2_with (at_builtin; refine wpl_appX (L := verL) rfl (.tmp 51) (.tmp 56) rfl Try.underlying24 ver_info rfl W0.heap.size _ out [(⟨k1, b1, e1, s1, (x1, y1), u1, g1⟩ : Ver)] _ _ _ rfl rfl rfl rfl OW.out GW.out.size (by rw [List.length_singleton]; have := HOL.out; have := HL.out; (try simp only [List.length_append, List.length_singleton]); omega) (by decide) ?_; intro v5 w5' ho5 hg5 hb5')
            go_roundw
            case rel => exact ⟨k + 1, _, false, by go_num, rfl, by omega, by simp only [List.length_append, List.length_singleton]; have := HOD.out rfl; omega, fun _ => by simp only [List.length_append, List.length_singleton]; have := HOD.out rfl; omega, HR2.out, HA2.out, ho5, GW.out.trans hb5'⟩
            case measure => simp [intOf]; omega
          · have HR2 := Lib.hid (show R = (out ++ [(⟨k1, b1, e1, s1, (x1, y1), u1, g1⟩ : Ver)]) ++ (if true = true then l.drop (k + 1) else insA ⟨kk, bb, ee, ss, (xx, yy), uu, gg⟩ (l.drop (k + 1))) from by rw [HRR.out, if_pos rfl, if_pos rfl, DR.out, List.append_assoc]; rfl)
            go_wp2_with (at_builtin; refine wpl_appX (L := verL) rfl (.tmp 51) (.tmp 56) rfl Try.underlying24 ver_info rfl W0.heap.size _ out [(⟨k1, b1, e1, s1, (x1, y1), u1, g1⟩ : Ver)] _ _ _ rfl rfl rfl rfl OW.out GW.out.size (by rw [List.length_singleton]; have := HOL.out; have := HL.out; (try simp only [List.length_append, List.length_singleton]); omega) (by decide) ?_; intro v5 w5' ho5 hg5 hb5')
            go_roundw
            case rel => exact ⟨k + 1, _, true, by go_num, rfl, by omega, by simp only [List.length_append, List.length_singleton]; have := HOL.out; omega, (fun h => by cases h), HR2.out, HA2.out, ho5, GW.out.trans hb5'⟩
            case measure => simp [intOf]; omega
      · have HA2 := Lib.hid (show al = (l.drop (k + 1)).any (alikeV ⟨kk, bb, ee, ss, (xx, yy), uu, gg⟩) from by rw [HAA.out, AN.out]; cases p2 <;> rfl)
        cases dn
        · have HR2 := Lib.hid (show R = ((out ++ [(⟨kk, bb, ee, ss, (xx, yy), uu, gg⟩ : Ver)]) ++ [(⟨k1, b1, e1, s1, (x1, y1), u1, g1⟩ : Ver)]) ++ (if true = true then l.drop (k + 1) else insA ⟨kk, bb, ee, ss, (xx, yy), uu, gg⟩ (l.drop (k + 1))) from by rw [HRR.out, if_neg (by decide), if_pos rfl, ST.out, if_pos rfl, List.append_assoc, List.append_assoc]; rfl)
          go_wp2_with (first
            | (at_builtin; refine wpl_appX (L := verL) rfl (.tmp 47) (.tmp 49) rfl Try.underlying24 ver_info rfl W0.heap.size _ out [(⟨kk, bb, ee, ss, (xx, yy), uu, gg⟩ : Ver)] _ _ _ rfl rfl rfl rfl OW.out GW.out.size (by rw [List.length_singleton]; have := HOL.out; have := HL.out; (try simp only [List.length_append, List.length_singleton]); omega) (by decide) ?_; intro v5 w5' ho5 hg5 hb5'; have OY := Lib.hid ho5; have GY := Lib.hid (GW.out.trans hb5'); clear z0 z1 z2 z3 z4 z5 z6 z7 c0 c1 c2 c3 c4 c5 c6 c7; obtain ⟨bL, oL, eL, -, c0, c1, c2, c3, c4, c5, c6, c7⟩ := RdVr.here (HA.out.below GY.out) k HK.out; cases eL; simp only [HX.out] at c0 c1 c2 c3 c4 c5 c6 c7)
            | (at_builtin; refine wpl_appX (L := verL) rfl (.tmp 51) (.tmp 56) rfl Try.underlying24 ver_info rfl W0.heap.size _ (out ++ [(⟨kk, bb, ee, ss, (xx, yy), uu, gg⟩ : Ver)]) [(⟨k1, b1, e1, s1, (x1, y1), u1, g1⟩ : Ver)] _ _ _ rfl rfl rfl rfl OY.out GY.out.size (by rw [List.length_singleton]; have := HOL.out; have := HL.out; (try simp only [List.length_append, List.length_singleton]); omega) (by decide) ?_; intro v6 w6' ho6 hg6 hb6'))
          go_roundw
          case rel => exact ⟨k + 1, _, true, by go_num, rfl, by omega, by simp only [List.length_append, List.length_singleton]; have := HOL.out; have := HOD.out rfl; omega, (fun h => by cases h), HR2.out, HA2.out, ho6, GY.out.trans hb6'⟩
          case measure => simp [intOf]; omega
        · have HR2 := Lib.hid (show R = (out ++ [(⟨k1, b1, e1, s1, (x1, y1), u1, g1⟩ : Ver)]) ++ (if true = true then l.drop (k + 1) else insA ⟨kk, bb, ee, ss, (xx, yy), uu, gg⟩ (l.drop (k + 1))) from by rw [HRR.out, if_pos rfl, if_pos rfl, DR.out, List.append_assoc]; rfl)
          go_wp2_with (at_builtin; refine wpl_appX (L := verL) rfl (.tmp 51) (.tmp 56) rfl Try.underlying24 ver_info rfl W0.heap.size _ out [(⟨k1, b1, e1, s1, (x1, y1), u1, g1⟩ : Ver)] _ _ _ rfl rfl rfl rfl OW.out GW.out.size (by rw [List.length_singleton]; have := HOL.out; have := HL.out; (try simp only [List.length_append, List.length_singleton]); omega) (by decide) ?_; intro v5 w5' ho5 hg5 hb5')
          go_roundw
          case rel => exact ⟨k + 1, _, true, by go_num, rfl, by omega, by simp only [List.length_append, List.length_singleton]; have := HOL.out; omega, (fun h => by cases h), HR2.out, HA2.out, ho5, GW.out.trans hb5'⟩
          case measure => simp [intOf]; omega
    · have hkl : k = l.length := by omega
      subst hkl
      have zl : decide ((l.length : Int) < (l.length : Int)) = false := by simp
      have HT := Lib.hid (show al = false from by rw [HAA.out, List.drop_length]; rfl)
      have HN := Lib.hid (show res = (R, 0) from by rw [HD.out, HT.out]; rfl)
      clear hlt
      cases dn
      · have HR2 := Lib.hid (show R = out ++ [(⟨kk, bb, ee, ss, (xx, yy), uu, gg⟩ : Ver)] from by rw [HRR.out, if_neg (by decide), List.drop_length]; rfl)
        have bx := BX0.out.on GW.out BX0.out.lt
        have z0 := bx.cell 0 _ rfl
        have z1 := bx.cell 1 _ rfl
        have z2 := bx.cell 2 _ rfl
        have z3 := bx.cell 3 _ rfl
        have z4 := bx.cell 4 _ rfl
        have z5 := bx.cell 5 _ rfl
        have z6 := bx.cell 6 _ rfl
        have z7 := bx.cell 7 _ rfl
        clear bx
        go_wp2_with (at_builtin; refine wpl_appX (L := verL) rfl (.tmp 60) (.tmp 62) rfl Try.underlying24 ver_info rfl W0.heap.size _ out [(⟨kk, bb, ee, ss, (xx, yy), uu, gg⟩ : Ver)] _ _ _ rfl rfl rfl rfl OW.out GW.out.size (by rw [List.length_singleton]; have := HOL.out; have := HL.out; (try simp only [List.length_append, List.length_singleton]); omega) (by decide) ?_; intro v5 w5' ho5 hg5 hb5')
        go_ret2
        exact ⟨_, ret_ve rfl (by rw [HN.out]), by rw [HN.out, HR2.out]; exact OwnX.mono ho5 HB0.out, .inr fun j hj => Nat.le_trans G0.out.size (OwnX.base ho5 j hj), G0.out.trans ((GW.out.trans hb5').mono G0.out.size)⟩
      · have HR2 := Lib.hid (show R = out from by rw [HRR.out, if_pos rfl, List.drop_length, List.append_nil])
        go_wp2_with fail
        go_ret2
        exact ⟨_, ret_ve rfl (by rw [HN.out]), by rw [HN.out, HR2.out]; exact OwnX.mono OW.out HB0.out, .inr fun j hj => Nat.le_trans G0.out.size (OwnX.base OW.out j hj), G0.out.trans (GW.out.mono G0.out.size)⟩
end Go.Proofs.Ytigdkflknhdbgaa
