/- Layer 9: a run's blocks, by the project: fence, end, write. -/
import Derived.Test.YtefjdmlmmoeoaaaWa
import Derived.Test.YtefjdmlmmoeoaaaUm
import Derived.Test.YtefjdmlmmoeoaaaUd
import Derived.Test.YtefjdmlmmoeoaaaRR
import Derived.Test.YtefjdmlmmoeoaaaBrow
namespace Go.Proofs.Ytefjdmlmmoeoaaa
open Go.RowKit
set_option linter.unusedVariables false

theorem run_fence (va : Value) (l : List Ver) (B : Nat) (w : World) (ha : RdVr w B va l) (hl : 0 < l.length) :
    Calls Try.prog 56 #[va] w fun e w' => e = .returned (.string (l.getD 0 zeroV).key) ∧ w' = w := by
  obtain ⟨A, c, rfl, hlc, -⟩ := id ha
  obtain ⟨b, o, rfl, hbb, c0, -⟩ := RdVr.here ha 0 hl
  rw [getD_at hl]
  simp only [Nat.zero_mul, Nat.add_zero] at c0
  have z0 : (0 : Int) < (l.length : Int) := by omega
  generalize l[0].key = key at *
  clear ha
  go_enter Try.func56, Try.ntmps56
  go_wp2_with fail
  go_ret
  exact ⟨rfl, rfl⟩

theorem run_end (va : Value) (l : List Ver) (w : World) (ha : RdVr w w.heap.size va l) (hl : 0 < l.length) :
    Calls Try.prog 51 #[va] w fun e w' => e = .returned (verV (l.getD (l.length - 1) zeroV)) ∧ Below w.heap.size w w' := by
  obtain ⟨A, c, rfl, hlc, hcc, -⟩ := id ha
  have hlt : l.length - 1 < l.length := by omega
  obtain ⟨b, o, rfl, hbb, c0, c1, c2, c3, c4, c5, c6, c7⟩ := RdVr.here ha (l.length - 1) hlt
  rw [getD_at hlt]
  generalize l[l.length - 1] = p at *
  obtain ⟨kk, bb, ee, ss, ⟨xx, yy⟩, uu, gg⟩ := p
  simp only at c0 c1 c2 c3 c4 c5 c6 c7
  obtain ⟨n, hn⟩ : ∃ n, n = l.length - 1 := ⟨_, rfl⟩
  rw [← hn] at c0 c1 c2 c3 c4 c5 c6 c7
  have hsub : (l.length : Int) - 1 = (n : Int) := by omega
  have hw : IntKind.i64.wrap (n : Int) = (n : Int) := by rw [IntKind.wrap_i64]; omega
  have z0 : (n : Int) < (l.length : Int) := by omega
  have z1 : n < l.length := by omega
  clear ha hn
  go_enter Try.func51, Try.ntmps51
  go_wp2_with fail
  refine bodyPost_ret ?_ rfl ⟨rfl, alloc_below w _⟩
  rw [results_cell1 rfl]
  go_simp
  rfl

set_option maxHeartbeats 8000000 in
set_option maxRecDepth 100000 in
theorem run_write (va : Value) (l : List Ver) (base : Nat) (w : World) (hv : OwnNV w base va (pcs8 l)) (hl : l.length ≤ 20000) (hk : ∀ v ∈ l, v.key.size ≤ 1000000) :
    Calls Try.prog 29 #[va] w fun e w' => ∃ v', e = .returned (.tuple #[v', .int .i64 (if okTo l l.length = true then 0 else 1)]) ∧ OwnBB w' w.heap.size v' (if okTo l l.length = true then blocksB l else []) ∧ Below w.heap.size w w' := by
  have HV := Lib.hid hv
  have HK := Lib.hid hk
  obtain ⟨A, ca, rfl⟩ := hv.form
  have hpl := pcs8_len l
  have hmm : many8 l = (l.length + 7) / 8 := rfl
  have HPL := Lib.hid hpl
  have HST := Lib.hid (fun k h => okTo_step l k h)
  have HLE := Lib.hid (fun h n (hn : n ≤ l.length) => okTo_le (l := l) (n := l.length) (k := n) h hn)
  have HBL := Lib.hid (blocksB_len l)
  generalize hres : okTo l l.length = res at *
  have HR := Lib.hid hres
  have HT := Lib.hid (show res = true → (if res = true then (0 : Int) else 1) = 0 ∧ (if res = true then blocksB l else []) = blocksB l from fun h => by rw [h]; exact ⟨rfl, rfl⟩)
  have HF := Lib.hid (show res = false → (if res = true then (0 : Int) else 1) = 1 ∧ (if res = true then blocksB l else []) = [] from fun h => by rw [h]; exact ⟨rfl, rfl⟩)
  generalize (if res = true then (0 : Int) else 1) = ri at *
  generalize (if res = true then blocksB l else []) = rl at *
  clear hk hv hres
  rw [hpl] at HV ⊢
  clear hpl
  generalize hMN : many8 l = MN at *
  have HMN := Lib.hid hMN
  have HMM := Lib.hid hmm
  clear hMN hmm
  go_enter Try.func29, Try.ntmps29
  go_wp2_with fail
  go_loopw [4, 11] (fun x i wr => ∃ k : Nat, i = .int .i64 k ∧ k ≤ MN ∧ okTo l (min (8 * k) l.length) = true ∧ OwnBB wr w.heap.size x ((blocksB l).take k) ∧ Below w.heap.size w wr) (fun _ i _ => MN - (intOf i).toNat)
  case atStart => exact ⟨0, rfl, Nat.zero_le _, by rw [Nat.mul_zero, Nat.zero_min]; rfl, OwnBB.nil _ _, Below.refl _ _⟩
  case round =>
    obtain ⟨k, rfl, hk, hok, ho, hbw⟩ := hrel
    rename World => wo
    have G := Lib.hid hbw
    have OK := Lib.hid hok
    have HTE := Lib.hid (show k = MN → (blocksB l).take k = blocksB l from fun h => List.take_of_length_le (by rw [HBL.out]; omega))
    have HTS := Lib.hid (show ∀ x, (blocksB l)[k]? = some x → (blocksB l).take (k + 1) = (blocksB l).take k ++ [x] from fun x hx => by
      obtain ⟨h1, h2⟩ := List.getElem?_eq_some_iff.1 hx
      rw [List.take_succ_eq_append_getElem h1, h2])
    have hTl : ((blocksB l).take k).length ≤ 1000000000 := by rw [List.length_take, HBL.out]; have := HMM.out; omega
    generalize (blocksB l).take k = TK at *
    have O := Lib.hid ho
    obtain ⟨Ax, cx, ex, -⟩ := ho.rd.form
    subst ex
    clear hbw hok ho
    have hMb : MN ≤ 3000 := by have := HMM.out; omega
    by_cases hlt : k < MN
    · have zl : decide ((k : Int) < (MN : Int)) = true := by simp; omega
      have zl2 : decide (k < MN) = true := by simp; omega
      have hkm : k < many8 l := by rw [HMN.out]; exact hlt
      have h8l := many8_lt hkm
      have hst := HST.out k hlt
      have hok8 : okTo l (8 * k) = true := by have := OK.out; rwa [Nat.min_eq_left (by omega)] at this
      rw [hok8, Bool.true_and] at hst
      obtain ⟨g, c, eA, hg, hcl⟩ := (HV.out.on G.out).here (by rw [HPL.out]; omega)
      obtain ⟨u, cu, ou⟩ := hcl k (by rw [HPL.out]; exact hlt)
      rw [pcs8_at] at ou
      have hp1 := pc8_len l k
      have hp0 : 0 < (pc8 l k).length := by omega
      have hpk : ∀ v ∈ pc8 l k, v.key.size ≤ 1000000 := fun v hv => HK.out v (List.mem_of_mem_drop (List.mem_of_mem_take hv))
      have HTK := Lib.hid (HTS.out (encBlk (pc8 l k)) (by
        unfold blocksB
        rw [List.getElem?_map, List.getElem?_eq_getElem (by rw [HPL.out]; exact hlt), pcs8_at]; rfl))
      have RP := Lib.hid ou.rd
      obtain ⟨Ap, cp, ep, -⟩ := ou.rd
      subst ep
      injection eA with eA1 eA2 eA3
      subst eA1 eA3
      have WR := Lib.hid (fun va w h => blk_write va (pc8 l k) w h hpk)
      have HS := Lib.hid hst
      have HCL := Lib.hid hcl
      clear hst hok8 hkm ou hpk eA2 hcl
      clear hp1
      go_wp2_with fail
      refine (WR.out _ _ RP.out).mono ?_
      rintro z w2 ⟨v2, rfl, ho2, hb2⟩
      have G2 := Lib.hid (G.out.trans (hb2.mono G.out.size))
      have O2 := Lib.hid (O.out.on hb2)
      have RP := Lib.hid (RP.out.on hb2)
      have cu := (hb2.cell (p := ⟨g, k, none⟩) hg).trans cu
      cases hbk : blkB (pc8 l k)
      · have HB := Lib.hid (show res = false from by
          rw [hbk, Bool.false_and] at HS
          cases hr : res with
          | false => rfl
          | true => have := HLE.out hr (min (8 * (k + 1)) l.length) (Nat.min_le_right _ _); rw [HS.out] at this; cases this)
        rw [if_neg (by simp)]
        clear hbk ho2 hb2
        go_wp2_with fail
        go_quiet (fail)
        go_wp2_with fail
        go_ret2
        obtain ⟨f1, f2⟩ := HF.out HB.out
        rw [f1, f2]
        exact ⟨_, rfl, OwnBB.nil _ _, G2.out.drewN _⟩
      · rw [hbk, Bool.true_and] at HS
        rw [hbk, if_pos rfl] at ho2
        rw [if_pos rfl]
        have U2 := Lib.hid ho2
        have NE := Lib.hid (show ∀ j, v2.ownBlock = some j → some j ≠ _ from fun j hj e => by
          have h1 := (World.ownsRow.lt ho2 j hj).1
          have h2 := (OwnBB.lt O.out j e.symm).2
          omega)
        have HK1 := Lib.hid (show k + 1 ≤ MN from hlt)
        have HB2 := Lib.hid hb2
        clear hb2 ho2
        by_cases hk0 : k = 0
        · subst hk0
          have HN := Lib.hid (show okTo l (min (8 * (0 + 1)) l.length) = true from by rw [HS.out]; rfl)
          clear hbk
          go_wp2_with fail
          go_quiet (fail)
          have U2 := Lib.hid (U2.out.on (show Below w2.heap.size w2 (w2.drewN nq) from (Below.refl _ _).drewN _))
          have O2 := Lib.hid (O2.out.on (show Below w2.heap.size w2 (w2.drewN nq) from (Below.refl _ _).drewN _))
          have G2 := Lib.hid (G2.out.drewN nq)
          obtain ⟨Au, cu, eu, -⟩ := own_cap U2.out
          subst eu
          go_wp2_with (at_builtin; refine wpl_app_bb rfl (.tmp 40) (.tmp 42) rfl w.heap.size _ _ _ _ _ 1 _ rfl rfl rfl rfl O2.out U2.out.rd (fun _ => NE.out) G2.out.size hTl ?_; intro v9 w9 ho9 hb9)
          rw [← HTK.out] at ho9
          have OZ := Lib.hid ho9
          have GZ := Lib.hid (G2.out.trans hb9)
          clear ho9 hb9
          go_roundw
          case rel => exact ⟨0 + 1, by go_num, HK1.out, HN.out, OZ.out, GZ.out⟩
          case measure => simp [intOf]; omega
        · have zk : decide ((0 : Int) < (k : Int)) = true := by simp; omega
          have zk2 : decide (0 < k) = true := by simp; omega
          have hsub : (k : Int) - 1 = ((k - 1 : Nat) : Int) := by omega
          have hw64 : IntKind.i64.wrap ((k - 1 : Nat) : Int) = ((k - 1 : Nat) : Int) := by rw [IntKind.wrap_i64]; omega
          have hi1 : ((k - 1 : Nat) : Int) < (MN : Int) := by omega
          have hi2 : k - 1 < MN := by omega
          obtain ⟨u', cr, ou'⟩ := HCL.out (k - 1) (by rw [HPL.out]; omega)
          rw [pcs8_at] at ou'
          obtain ⟨P2, hP2e⟩ : ∃ P2, pc8 l (k - 1) = P2 := ⟨_, rfl⟩
          have hl2 := pc8_len l (k - 1)
          rw [hP2e] at ou' hl2
          have hP2 : 0 < P2.length := by omega
          have hlast : P2.getD (P2.length - 1) zeroV = l.getD (8 * k - 1) zeroV := by
            rw [← hP2e, pc8_get l (k - 1) _ (by rw [hP2e]; omega), hP2e]
            congr 1; omega
          have hbnd : bndB l k = lessV (l.getD (8 * k - 1) zeroV) (l.getD (8 * k) zeroV) := by unfold bndB; rw [decide_eq_false hk0, Bool.false_or]
          have hcl0 : 8 * k < l.length := h8l
          have hfst : (pc8 l k)[0]'hp0 = l.getD (8 * k) zeroV := by
            rw [← getD_at hp0, pc8_get l k 0 (by omega)]; rfl
          obtain ⟨b', o', eP, hb0, e0, e1, e2, e3, e4, e5, e6, e7⟩ := RdVr.here RP.out 0 hp0
          subst eP
          rw [hfst] at e0 e1 e2 e3 e4 e5 e6 e7
          simp only [Nat.zero_mul, Nat.add_zero] at e0 e1 e2 e3 e4 e5 e6 e7
          have hcm := lessV_iff (l.getD (8 * k - 1) zeroV) (l.getD (8 * k) zeroV)
          have CMP := Lib.hid (fun w => row_compare (l.getD (8 * k - 1) zeroV) (l.getD (8 * k) zeroV) w)
          rw [hbnd] at HS
          rw [hcm] at HS
          clear hcm hbnd hfst
          generalize l.getD (8 * k - 1) zeroV = q at *
          generalize l.getD (8 * k) zeroV = p at *
          generalize cmpV q p = cv at *
          obtain ⟨kk, bb, ee, ss, ⟨xx, yy⟩, uu, gg⟩ := p
          obtain ⟨kk', bb', ee', ss', ⟨xx', yy'⟩, uu', gg'⟩ := q
          unfold verV at CMP
          simp only at CMP e0 e1 e2 e3 e4 e5 e6 e7
          obtain ⟨W0, hW0⟩ : ∃ W0, W0 = w2 := ⟨_, rfl⟩
          have hg0 : g < W0.heap.size := by rw [hW0]; exact Nat.lt_of_lt_of_le hg HB2.out.size
          have cr := (HB2.out.cell (p := ⟨g, k - 1, none⟩) hg).trans cr
          have RP2 := Lib.hid ((show RdVr wo wo.heap.size _ P2 from ou'.rd).on HB2.out)
          obtain ⟨A2, c2, ep2, -⟩ := ou'.rd
          subst ep2
          rw [← hW0] at cr e0 e1 e2 e3 e4 e5 e6 e7 hb0
          clear hP2e hl2 hcl0 hbk ou' h8l
          by_cases hcv : cv < 0
          · have zc : decide ((0 : Int) ≤ cv) = false := by rw [decide_eq_false_iff_not]; omega
            have HN := Lib.hid (show okTo l (min (8 * (k + 1)) l.length) = true from by rw [HS.out, decide_eq_true hcv])
            clear HS hcv
            go_wp2_with fail
            have HI : (fun W => Below W0.heap.size W0 W) w2.drew := by rw [hW0]; exact (Below.refl _ _).drew
            refine regk_start [] (fun W => Below W0.heap.size W0 W) (by kernel_rfl) ?_
            refine regk_free 0 21 (v := ?_) (T' := ?_) (fun _ => HI) (by kernel_rfl) (by kernel_rfl) (by kernel_rfl) (by kernel_rfl) (fun _ _ _ h => h) (fun o ho => ?_) ?_ ?_
            rotate_left 2
            · cases ho
              refine ⟨rfl, rfl, fun W => ?_⟩
              go_simp; (try with_reducible rfl)
            · simp only [List.setIfInBounds_toArray, List.set_cons_succ, List.set_cons_zero]; exact rfl
            refine regk_free 1 22 (v := ?_) (T' := ?_) (fun _ => HI) (by kernel_rfl) (by kernel_rfl) (by kernel_rfl) (by kernel_rfl) (fun _ _ _ h => h) (fun o ho => ?_) ?_ ?_
            rotate_left 2
            · cases ho
              refine ⟨rfl, rfl, fun W => ?_⟩
              go_simp; (try with_reducible rfl)
            · simp only [List.setIfInBounds_toArray, List.set_cons_succ, List.set_cons_zero]; exact rfl
            refine regk_free 2 23 (v := ?_) (T' := ?_) (fun _ => HI) (by kernel_rfl) (by kernel_rfl) (by kernel_rfl) (by kernel_rfl) (fun _ _ _ h => h) (fun o ho => ?_) ?_ ?_
            rotate_left 2
            · cases ho
              refine ⟨rfl, rfl, fun W => ?_⟩
              go_simp; (try with_reducible rfl)
            · simp only [List.setIfInBounds_toArray, List.set_cons_succ, List.set_cons_zero]; exact rfl
            refine regk_free 3 24 (v := ?_) (T' := ?_) (fun _ => HI) (by kernel_rfl) (by kernel_rfl) (by kernel_rfl) (by kernel_rfl) (fun _ _ _ h => h) (fun o ho => ?_) ?_ ?_
            rotate_left 2
            · cases ho
              refine ⟨rfl, rfl, fun W => ?_⟩
              go_simp; (try with_reducible rfl)
            · simp only [List.setIfInBounds_toArray, List.set_cons_succ, List.set_cons_zero]; exact rfl
            refine regk_free 4 25 (v := ?_) (T' := ?_) (fun _ => HI) (by kernel_rfl) (by kernel_rfl) (by kernel_rfl) (by kernel_rfl) (fun _ _ _ h => h) (fun o ho => ?_) ?_ ?_
            rotate_left 2
            · cases ho
              refine ⟨rfl, rfl, fun W => ?_⟩
              go_simp; (try with_reducible rfl)
            · simp only [List.setIfInBounds_toArray, List.set_cons_succ, List.set_cons_zero]; exact rfl
            refine regk_free 5 26 (v := ?_) (T' := ?_) (fun _ => HI) (by kernel_rfl) (by kernel_rfl) (by kernel_rfl) (by kernel_rfl) (fun _ _ _ h => h) (fun o ho => ?_) ?_ ?_
            rotate_left 2
            · cases ho
              refine ⟨rfl, rfl, fun W => ?_⟩
              go_simp; (try with_reducible rfl)
            · simp only [List.setIfInBounds_toArray, List.set_cons_succ, List.set_cons_zero]; exact rfl
            refine regk_free 6 27 (v := ?_) (T' := ?_) (fun _ => HI) (by kernel_rfl) (by kernel_rfl) (by kernel_rfl) (by kernel_rfl) (fun _ _ _ h => h) (fun o ho => ?_) ?_ ?_
            rotate_left 2
            · cases ho
              refine ⟨rfl, rfl, fun W => ?_⟩
              go_simp; (try with_reducible rfl)
            · simp only [List.setIfInBounds_toArray, List.set_cons_succ, List.set_cons_zero]; exact rfl
            refine regk_free 7 28 (v := ?_) (T' := ?_) (fun _ => HI) (by kernel_rfl) (by kernel_rfl) (by kernel_rfl) (by kernel_rfl) (fun _ _ _ h => h) (fun o ho => ?_) ?_ ?_
            rotate_left 2
            · cases ho
              refine ⟨rfl, rfl, fun W => ?_⟩
              go_simp; (try with_reducible rfl)
            · simp only [List.setIfInBounds_toArray, List.set_cons_succ, List.set_cons_zero]; exact rfl
            refine regk_free 8 29 (v := ?_) (T' := ?_) (fun _ => HI) (by kernel_rfl) (by kernel_rfl) (by kernel_rfl) (by kernel_rfl) (fun _ _ _ h => h) (fun o ho => ?_) ?_ ?_
            rotate_left 2
            · cases ho
              refine ⟨rfl, rfl, fun W => ?_⟩
              go_simp; (try with_reducible rfl)
            · simp only [List.setIfInBounds_toArray, List.set_cons_succ, List.set_cons_zero]; exact rfl
            refine regk_free 9 30 (v := ?_) (T' := ?_) (fun _ => HI) (by kernel_rfl) (by kernel_rfl) (by kernel_rfl) (by kernel_rfl) (fun _ _ _ h => h) (fun o ho => ?_) ?_ ?_
            rotate_left 2
            · cases ho
              refine ⟨rfl, rfl, fun W => ?_⟩
              go_simp; (try with_reducible rfl)
            · simp only [List.setIfInBounds_toArray, List.set_cons_succ, List.set_cons_zero]; exact rfl
            refine regk_take 10 31 (v := ?_) (T' := ?_) HI (by kernel_rfl) (by kernel_rfl) (by kernel_rfl) (by kernel_rfl) (by kernel_rfl) (by kernel_rfl) (fun _ _ _ h => h) (fun o ho => ?_) ?_ ?_
            rotate_left 2
            · cases ho
              refine ⟨rfl, rfl, fun W hW => ?_⟩
              have hW : Below W0.heap.size W0 W := hW
              have kr := (hW.cell (p := ⟨g, k - 1, none⟩) hg0).trans cr
              go_simp; (try with_reducible rfl)
            · simp only [List.setIfInBounds_toArray, List.set_cons_succ, List.set_cons_zero]; exact rfl
            refine regk_free 12 33 (v := ?_) (T' := ?_) (fun _ => HI) (by kernel_rfl) (by kernel_rfl) (by kernel_rfl) (by kernel_rfl) (fun _ _ _ h => h) (fun o ho => ?_) ?_ ?_
            rotate_left 2
            · cases ho
              refine ⟨rfl, rfl, fun W => ?_⟩
              go_simp; (try with_reducible rfl)
            · simp only [List.setIfInBounds_toArray, List.set_cons_succ, List.set_cons_zero]; exact rfl
            refine regk_free 13 34 (v := ?_) (T' := ?_) (fun _ => HI) (by kernel_rfl) (by kernel_rfl) (by kernel_rfl) (by kernel_rfl) (fun _ _ _ h => h) (fun o ho => ?_) ?_ ?_
            rotate_left 2
            · cases ho
              refine ⟨rfl, rfl, fun W => ?_⟩
              go_simp; (try with_reducible rfl)
            · simp only [List.setIfInBounds_toArray, List.set_cons_succ, List.set_cons_zero]; exact rfl
            refine regk_take 14 35 (v := ?_) (T' := ?_) HI (by kernel_rfl) (by kernel_rfl) (by kernel_rfl) (by kernel_rfl) (by kernel_rfl) (by kernel_rfl) (fun _ _ _ h => h) (fun o ho => ?_) ?_ ?_
            rotate_left 2
            · cases ho
              refine ⟨rfl, rfl, fun W hW => ?_⟩
              have hW : Below W0.heap.size W0 W := hW
              have k0 := (hW.cell (p := ⟨b', o', none⟩) hb0).trans e0
              have k1 := (hW.cell (p := ⟨b', o' + 1, none⟩) hb0).trans e1
              have k2 := (hW.cell (p := ⟨b', o' + 2, none⟩) hb0).trans e2
              have k3 := (hW.cell (p := ⟨b', o' + 3, none⟩) hb0).trans e3
              have k4 := (hW.cell (p := ⟨b', o' + 4, none⟩) hb0).trans e4
              have k5 := (hW.cell (p := ⟨b', o' + 5, none⟩) hb0).trans e5
              have k6 := (hW.cell (p := ⟨b', o' + 6, none⟩) hb0).trans e6
              have k7 := (hW.cell (p := ⟨b', o' + 7, none⟩) hb0).trans e7
              go_simp; (try with_reducible rfl)
            · simp only [List.setIfInBounds_toArray, List.set_cons_succ, List.set_cons_zero]; exact rfl
            refine regk_call (I' := (fun W => Below W0.heap.size W0 W)) (fun _ h => h) 11 32 (by kernel_rfl) 51 #[.slice A2 P2.length c2] (fun o ho => by cases ho; exact ⟨rfl, rfl, fun W => by go_simp⟩) ?_
            refine (run_end _ P2 _ RP2.out.drew hP2).mono ?_
            rintro e w3 ⟨rfl, hb3⟩
            rw [hlast, show verV ⟨kk', bb', ee', ss', (xx', yy'), uu', gg'⟩ = .agg #[.string kk', .int .i64 bb', .int .i64 ee', .int .i64 ss', .int .i64 xx', .int .i64 yy', .string uu', .bool gg'] from rfl]
            have hb3 : Below w2.heap.size w2 w3 := (Below.refl w2.heap.size w2).drew.trans hb3
            have HI : Below W0.heap.size W0 w3 := by rw [hW0]; exact hb3
            have G3 := Lib.hid (G2.out.trans (hb3.mono G2.out.size))
            have O3 := Lib.hid (O2.out.on hb3)
            have U3 := Lib.hid (U2.out.on hb3)
            refine ⟨_, _, rfl, fun _ => HI, (by simp only [List.setIfInBounds_toArray, List.set_cons_succ, List.set_cons_zero]; exact rfl), ?_⟩
            refine regk_call (I' := (fun W => Below W0.heap.size W0 W)) (fun _ h => h) 15 36 (by kernel_rfl) 50 #[.agg #[.string kk', .int .i64 bb', .int .i64 ee', .int .i64 ss', .int .i64 xx', .int .i64 yy', .string uu', .bool gg'], .agg #[.string kk, .int .i64 bb, .int .i64 ee, .int .i64 ss, .int .i64 xx, .int .i64 yy, .string uu, .bool gg]] (fun o ho => by cases ho; exact ⟨rfl, rfl, fun W => by go_simp⟩) ?_
            refine (CMP.out _).mono ?_
            rintro e w4 ⟨rfl, hb4⟩
            have HI : Below W0.heap.size W0 w4 := HI.trans (hb4.mono HI.size)
            have G4 := Lib.hid (G3.out.trans (hb4.mono G3.out.size))
            have O4 := Lib.hid (O3.out.on hb4)
            have U4 := Lib.hid (U3.out.on hb4)
            refine ⟨_, _, rfl, fun _ => HI, (by simp only [List.setIfInBounds_toArray, List.set_cons_succ, List.set_cons_zero]; exact rfl), ?_⟩
            refine regk_free 16 37 (v := ?_) (T' := ?_) (fun _ => HI) (by kernel_rfl) (by kernel_rfl) (by kernel_rfl) (by kernel_rfl) (fun _ _ _ h => h) (fun o ho => ?_) ?_ ?_
            rotate_left 2
            · cases ho
              refine ⟨rfl, rfl, fun W => ?_⟩
              go_simp; (try with_reducible rfl)
            · simp only [List.setIfInBounds_toArray, List.set_cons_succ, List.set_cons_zero]; exact rfl
            refine regk_free 17 38 (v := ?_) (T' := ?_) (fun _ => HI) (by kernel_rfl) (by kernel_rfl) (by kernel_rfl) (by kernel_rfl) (fun _ _ _ h => h) (fun o ho => ?_) ?_ ?_
            rotate_left 2
            · cases ho
              refine ⟨rfl, rfl, fun W => ?_⟩
              go_simp; (try with_reducible rfl)
            · simp only [List.setIfInBounds_toArray, List.set_cons_succ, List.set_cons_zero]; exact rfl
            refine regk_free 18 39 (v := ?_) (T' := ?_) (fun _ => HI) (by kernel_rfl) (by kernel_rfl) (by kernel_rfl) (by kernel_rfl) (fun _ _ _ h => h) (fun o ho => ?_) ?_ ?_
            rotate_left 2
            · cases ho
              refine ⟨rfl, rfl, fun W => ?_⟩
              go_simp; (try with_reducible rfl)
            · simp only [List.setIfInBounds_toArray, List.set_cons_succ, List.set_cons_zero]; exact rfl
            refine regk_done (by kernel_rfl) ?_
            obtain ⟨Au, cu, eu, -⟩ := own_cap U4.out
            subst eu
            go_wp2_with (at_builtin; refine wpl_app_bb rfl (.tmp 40) (.tmp 42) rfl w.heap.size _ _ _ _ _ 1 _ rfl rfl rfl rfl O4.out U4.out.rd (fun _ => NE.out) G4.out.size hTl ?_; intro v9 w9 ho9 hb9)
            rw [← HTK.out] at ho9
            have OZ := Lib.hid ho9
            have GZ := Lib.hid (G4.out.trans hb9)
            clear ho9 hb9
            go_roundw
            case rel => exact ⟨k + 1, by go_num, HK1.out, HN.out, OZ.out, GZ.out⟩
            case measure => simp [intOf]; omega
          · have zc : decide ((0 : Int) ≤ cv) = true := by rw [decide_eq_true_eq]; omega
            have HB := Lib.hid (show res = false from by
              rw [decide_eq_false hcv] at HS
              cases hr : res with
              | false => rfl
              | true => have := HLE.out hr (min (8 * (k + 1)) l.length) (Nat.min_le_right _ _); rw [HS.out] at this; cases this)
            clear HS hcv
            go_wp2_with fail
            have HI : (fun W => Below W0.heap.size W0 W) w2.drew := by rw [hW0]; exact (Below.refl _ _).drew
            refine regk_start [] (fun W => Below W0.heap.size W0 W) (by kernel_rfl) ?_
            refine regk_free 0 21 (v := ?_) (T' := ?_) (fun _ => HI) (by kernel_rfl) (by kernel_rfl) (by kernel_rfl) (by kernel_rfl) (fun _ _ _ h => h) (fun o ho => ?_) ?_ ?_
            rotate_left 2
            · cases ho
              refine ⟨rfl, rfl, fun W => ?_⟩
              go_simp; (try with_reducible rfl)
            · simp only [List.setIfInBounds_toArray, List.set_cons_succ, List.set_cons_zero]; exact rfl
            refine regk_free 1 22 (v := ?_) (T' := ?_) (fun _ => HI) (by kernel_rfl) (by kernel_rfl) (by kernel_rfl) (by kernel_rfl) (fun _ _ _ h => h) (fun o ho => ?_) ?_ ?_
            rotate_left 2
            · cases ho
              refine ⟨rfl, rfl, fun W => ?_⟩
              go_simp; (try with_reducible rfl)
            · simp only [List.setIfInBounds_toArray, List.set_cons_succ, List.set_cons_zero]; exact rfl
            refine regk_free 2 23 (v := ?_) (T' := ?_) (fun _ => HI) (by kernel_rfl) (by kernel_rfl) (by kernel_rfl) (by kernel_rfl) (fun _ _ _ h => h) (fun o ho => ?_) ?_ ?_
            rotate_left 2
            · cases ho
              refine ⟨rfl, rfl, fun W => ?_⟩
              go_simp; (try with_reducible rfl)
            · simp only [List.setIfInBounds_toArray, List.set_cons_succ, List.set_cons_zero]; exact rfl
            refine regk_free 3 24 (v := ?_) (T' := ?_) (fun _ => HI) (by kernel_rfl) (by kernel_rfl) (by kernel_rfl) (by kernel_rfl) (fun _ _ _ h => h) (fun o ho => ?_) ?_ ?_
            rotate_left 2
            · cases ho
              refine ⟨rfl, rfl, fun W => ?_⟩
              go_simp; (try with_reducible rfl)
            · simp only [List.setIfInBounds_toArray, List.set_cons_succ, List.set_cons_zero]; exact rfl
            refine regk_free 4 25 (v := ?_) (T' := ?_) (fun _ => HI) (by kernel_rfl) (by kernel_rfl) (by kernel_rfl) (by kernel_rfl) (fun _ _ _ h => h) (fun o ho => ?_) ?_ ?_
            rotate_left 2
            · cases ho
              refine ⟨rfl, rfl, fun W => ?_⟩
              go_simp; (try with_reducible rfl)
            · simp only [List.setIfInBounds_toArray, List.set_cons_succ, List.set_cons_zero]; exact rfl
            refine regk_free 5 26 (v := ?_) (T' := ?_) (fun _ => HI) (by kernel_rfl) (by kernel_rfl) (by kernel_rfl) (by kernel_rfl) (fun _ _ _ h => h) (fun o ho => ?_) ?_ ?_
            rotate_left 2
            · cases ho
              refine ⟨rfl, rfl, fun W => ?_⟩
              go_simp; (try with_reducible rfl)
            · simp only [List.setIfInBounds_toArray, List.set_cons_succ, List.set_cons_zero]; exact rfl
            refine regk_free 6 27 (v := ?_) (T' := ?_) (fun _ => HI) (by kernel_rfl) (by kernel_rfl) (by kernel_rfl) (by kernel_rfl) (fun _ _ _ h => h) (fun o ho => ?_) ?_ ?_
            rotate_left 2
            · cases ho
              refine ⟨rfl, rfl, fun W => ?_⟩
              go_simp; (try with_reducible rfl)
            · simp only [List.setIfInBounds_toArray, List.set_cons_succ, List.set_cons_zero]; exact rfl
            refine regk_free 7 28 (v := ?_) (T' := ?_) (fun _ => HI) (by kernel_rfl) (by kernel_rfl) (by kernel_rfl) (by kernel_rfl) (fun _ _ _ h => h) (fun o ho => ?_) ?_ ?_
            rotate_left 2
            · cases ho
              refine ⟨rfl, rfl, fun W => ?_⟩
              go_simp; (try with_reducible rfl)
            · simp only [List.setIfInBounds_toArray, List.set_cons_succ, List.set_cons_zero]; exact rfl
            refine regk_free 8 29 (v := ?_) (T' := ?_) (fun _ => HI) (by kernel_rfl) (by kernel_rfl) (by kernel_rfl) (by kernel_rfl) (fun _ _ _ h => h) (fun o ho => ?_) ?_ ?_
            rotate_left 2
            · cases ho
              refine ⟨rfl, rfl, fun W => ?_⟩
              go_simp; (try with_reducible rfl)
            · simp only [List.setIfInBounds_toArray, List.set_cons_succ, List.set_cons_zero]; exact rfl
            refine regk_free 9 30 (v := ?_) (T' := ?_) (fun _ => HI) (by kernel_rfl) (by kernel_rfl) (by kernel_rfl) (by kernel_rfl) (fun _ _ _ h => h) (fun o ho => ?_) ?_ ?_
            rotate_left 2
            · cases ho
              refine ⟨rfl, rfl, fun W => ?_⟩
              go_simp; (try with_reducible rfl)
            · simp only [List.setIfInBounds_toArray, List.set_cons_succ, List.set_cons_zero]; exact rfl
            refine regk_take 10 31 (v := ?_) (T' := ?_) HI (by kernel_rfl) (by kernel_rfl) (by kernel_rfl) (by kernel_rfl) (by kernel_rfl) (by kernel_rfl) (fun _ _ _ h => h) (fun o ho => ?_) ?_ ?_
            rotate_left 2
            · cases ho
              refine ⟨rfl, rfl, fun W hW => ?_⟩
              have hW : Below W0.heap.size W0 W := hW
              have kr := (hW.cell (p := ⟨g, k - 1, none⟩) hg0).trans cr
              go_simp; (try with_reducible rfl)
            · simp only [List.setIfInBounds_toArray, List.set_cons_succ, List.set_cons_zero]; exact rfl
            refine regk_free 12 33 (v := ?_) (T' := ?_) (fun _ => HI) (by kernel_rfl) (by kernel_rfl) (by kernel_rfl) (by kernel_rfl) (fun _ _ _ h => h) (fun o ho => ?_) ?_ ?_
            rotate_left 2
            · cases ho
              refine ⟨rfl, rfl, fun W => ?_⟩
              go_simp; (try with_reducible rfl)
            · simp only [List.setIfInBounds_toArray, List.set_cons_succ, List.set_cons_zero]; exact rfl
            refine regk_free 13 34 (v := ?_) (T' := ?_) (fun _ => HI) (by kernel_rfl) (by kernel_rfl) (by kernel_rfl) (by kernel_rfl) (fun _ _ _ h => h) (fun o ho => ?_) ?_ ?_
            rotate_left 2
            · cases ho
              refine ⟨rfl, rfl, fun W => ?_⟩
              go_simp; (try with_reducible rfl)
            · simp only [List.setIfInBounds_toArray, List.set_cons_succ, List.set_cons_zero]; exact rfl
            refine regk_take 14 35 (v := ?_) (T' := ?_) HI (by kernel_rfl) (by kernel_rfl) (by kernel_rfl) (by kernel_rfl) (by kernel_rfl) (by kernel_rfl) (fun _ _ _ h => h) (fun o ho => ?_) ?_ ?_
            rotate_left 2
            · cases ho
              refine ⟨rfl, rfl, fun W hW => ?_⟩
              have hW : Below W0.heap.size W0 W := hW
              have k0 := (hW.cell (p := ⟨b', o', none⟩) hb0).trans e0
              have k1 := (hW.cell (p := ⟨b', o' + 1, none⟩) hb0).trans e1
              have k2 := (hW.cell (p := ⟨b', o' + 2, none⟩) hb0).trans e2
              have k3 := (hW.cell (p := ⟨b', o' + 3, none⟩) hb0).trans e3
              have k4 := (hW.cell (p := ⟨b', o' + 4, none⟩) hb0).trans e4
              have k5 := (hW.cell (p := ⟨b', o' + 5, none⟩) hb0).trans e5
              have k6 := (hW.cell (p := ⟨b', o' + 6, none⟩) hb0).trans e6
              have k7 := (hW.cell (p := ⟨b', o' + 7, none⟩) hb0).trans e7
              go_simp; (try with_reducible rfl)
            · simp only [List.setIfInBounds_toArray, List.set_cons_succ, List.set_cons_zero]; exact rfl
            refine regk_call (I' := (fun W => Below W0.heap.size W0 W)) (fun _ h => h) 11 32 (by kernel_rfl) 51 #[.slice A2 P2.length c2] (fun o ho => by cases ho; exact ⟨rfl, rfl, fun W => by go_simp⟩) ?_
            refine (run_end _ P2 _ RP2.out.drew hP2).mono ?_
            rintro e w3 ⟨rfl, hb3⟩
            rw [hlast, show verV ⟨kk', bb', ee', ss', (xx', yy'), uu', gg'⟩ = .agg #[.string kk', .int .i64 bb', .int .i64 ee', .int .i64 ss', .int .i64 xx', .int .i64 yy', .string uu', .bool gg'] from rfl]
            have hb3 : Below w2.heap.size w2 w3 := (Below.refl w2.heap.size w2).drew.trans hb3
            have HI : Below W0.heap.size W0 w3 := by rw [hW0]; exact hb3
            have G3 := Lib.hid (G2.out.trans (hb3.mono G2.out.size))
            have O3 := Lib.hid (O2.out.on hb3)
            have U3 := Lib.hid (U2.out.on hb3)
            refine ⟨_, _, rfl, fun _ => HI, (by simp only [List.setIfInBounds_toArray, List.set_cons_succ, List.set_cons_zero]; exact rfl), ?_⟩
            refine regk_call (I' := (fun W => Below W0.heap.size W0 W)) (fun _ h => h) 15 36 (by kernel_rfl) 50 #[.agg #[.string kk', .int .i64 bb', .int .i64 ee', .int .i64 ss', .int .i64 xx', .int .i64 yy', .string uu', .bool gg'], .agg #[.string kk, .int .i64 bb, .int .i64 ee, .int .i64 ss, .int .i64 xx, .int .i64 yy, .string uu, .bool gg]] (fun o ho => by cases ho; exact ⟨rfl, rfl, fun W => by go_simp⟩) ?_
            refine (CMP.out _).mono ?_
            rintro e w4 ⟨rfl, hb4⟩
            have HI : Below W0.heap.size W0 w4 := HI.trans (hb4.mono HI.size)
            have G4 := Lib.hid (G3.out.trans (hb4.mono G3.out.size))
            have O4 := Lib.hid (O3.out.on hb4)
            have U4 := Lib.hid (U3.out.on hb4)
            refine ⟨_, _, rfl, fun _ => HI, (by simp only [List.setIfInBounds_toArray, List.set_cons_succ, List.set_cons_zero]; exact rfl), ?_⟩
            refine regk_free 16 37 (v := ?_) (T' := ?_) (fun _ => HI) (by kernel_rfl) (by kernel_rfl) (by kernel_rfl) (by kernel_rfl) (fun _ _ _ h => h) (fun o ho => ?_) ?_ ?_
            rotate_left 2
            · cases ho
              refine ⟨rfl, rfl, fun W => ?_⟩
              go_simp; (try with_reducible rfl)
            · simp only [List.setIfInBounds_toArray, List.set_cons_succ, List.set_cons_zero]; exact rfl
            refine regk_free 17 38 (v := ?_) (T' := ?_) (fun _ => HI) (by kernel_rfl) (by kernel_rfl) (by kernel_rfl) (by kernel_rfl) (fun _ _ _ h => h) (fun o ho => ?_) ?_ ?_
            rotate_left 2
            · cases ho
              refine ⟨rfl, rfl, fun W => ?_⟩
              go_simp; (try with_reducible rfl)
            · simp only [List.setIfInBounds_toArray, List.set_cons_succ, List.set_cons_zero]; exact rfl
            refine regk_free 18 39 (v := ?_) (T' := ?_) (fun _ => HI) (by kernel_rfl) (by kernel_rfl) (by kernel_rfl) (by kernel_rfl) (fun _ _ _ h => h) (fun o ho => ?_) ?_ ?_
            rotate_left 2
            · cases ho
              refine ⟨rfl, rfl, fun W => ?_⟩
              go_simp; (try with_reducible rfl)
            · simp only [List.setIfInBounds_toArray, List.set_cons_succ, List.set_cons_zero]; exact rfl
            refine regk_done (by kernel_rfl) ?_
            go_wp2_with fail
            go_ret2
            obtain ⟨f1, f2⟩ := HF.out HB.out
            rw [f1, f2]
            exact ⟨_, rfl, OwnBB.nil _ _, G4.out⟩
    · have hke : k = MN := by omega
      subst hke
      have zl : decide ((k : Int) < (k : Int)) = false := by simp
      have HRT := Lib.hid (show res = true from by
        have h := OK.out
        rw [Nat.min_eq_right (by have := HMM.out; omega), HR.out] at h
        exact h)
      rw [HTE.out rfl] at O ⊢
      go_wp2_with fail
      go_ret2
      obtain ⟨f1, f2⟩ := HT.out HRT.out
      rw [f1, f2]
      exact ⟨_, rfl, O.out, G.out⟩
end Go.Proofs.Ytefjdmlmmoeoaaa
