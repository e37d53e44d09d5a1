/- Layer 9: a run's bytes, by the project: fences, Build. -/
import Derived.Test.YtefjdmlmmoeoaaaWd
import Derived.Test.YtefjdmlmmoeoaaaUk
import Derived.Test.YtefjdmlmmoeoaaaCF
import Derived.Test.YtefjdmlmmoeoaaaVV
namespace Go.Proofs.Ytefjdmlmmoeoaaa
open Go.RowKit
set_option linter.unusedVariables false

def strL : Lay ByteArray := ⟨1, fun s => [.string s], fun _ => rfl, fun x u hu => by simp at hu; subst hu; rfl, by decide⟩
theorem str_info9 : (Try.prog.info? 9).map (fun i => (i.zero, i.size, i.bytes)) = some (some (.string ⟨#[]⟩), 1, 16) := by kernel_rfl
theorem own_strs {w : World} {base : Nat} {v : Value} {ts : List ByteArray} (h : OwnX strL 9 w base v ts) : RdS w w.heap.size v ts := by
  obtain ⟨A, c, rfl, h1, h2, h3⟩ := h.rd
  refine ⟨A, c, rfl, h1, h2, fun hp => ?_⟩
  obtain ⟨b, o, rfl, hb, hc⟩ := h3 hp
  refine ⟨b, o, rfl, hb, fun k u hk => ?_⟩
  have := hc k u hk 0 (.string u) rfl
  rwa [Nat.add_zero, show k * strL.sz = k from Nat.mul_one k] at this
/-- Two slices of bytes, in a literal. -/
theorem bb_two (w : World) (v u : Value) (l m : List UInt8) (h : RdB w w.heap.size v l) (k : RdB w w.heap.size u m) :
    RdBB (w.alloc (.cells #[v, u] 24)) (w.alloc (.cells #[v, u] 24)).heap.size (.slice (some ⟨w.heap.size, 0, none⟩) 2 2) [l, m] :=
  ⟨[v, u], RdV.lit w _ _ [v, u] 2 _ rfl rfl (by simp) (by simp), rfl, fun i x y h1 h2 => by
    match i with
    | 0 => simp at h1 h2; subst h1 h2; exact h.on (alloc_below w _)
    | 1 => simp at h1 h2; subst h1 h2; exact k.on (alloc_below w _)
    | i + 2 => simp at h1⟩

set_option maxHeartbeats 4000000 in
set_option maxRecDepth 100000 in
theorem run_fences (va : Value) (l : List Ver) (base : Nat) (w : World) (hv : OwnNV w base va (pcs8 l)) (hl : l.length ≤ 20000) (hk : ∀ s ∈ keysR l, s.size ≤ 1000000) :
    Calls Try.prog 32 #[va] w fun e w' => ∃ v', e = .returned v' ∧ OwnB w' w.heap.size v' (encFen l) ∧ Below w.heap.size w w' := by
  have HV := Lib.hid hv
  have HK := Lib.hid hk
  obtain ⟨A, ca, rfl⟩ := hv.form
  have hpl := pcs8_len l
  have hmm : many8 l = (l.length + 7) / 8 := rfl
  have HPL := Lib.hid hpl
  have HKL := Lib.hid (keysR_len l)
  have HE := Lib.hid (show encFen l = encN (many8 l) ++ encTs (keysR l) from rfl)
  generalize encFen l = res at *
  clear hk hv
  rw [hpl] at HV ⊢
  clear hpl
  generalize hMN : many8 l = MN at *
  have HMN := Lib.hid hMN
  have HMM := Lib.hid hmm
  clear hMN hmm
  go_enter Try.func32, Try.ntmps32
  go_wp2_with fail
  go_loopw [3, 8] (fun x i wr => ∃ k : Nat, i = .int .i64 k ∧ k ≤ MN ∧ OwnX strL 9 wr w.heap.size x ((keysR l).take k) ∧ Below w.heap.size w wr) (fun _ i _ => MN - (intOf i).toNat)
  case atStart => exact ⟨0, rfl, Nat.zero_le _, OwnX.nil _ _, Below.refl _ _⟩
  case round =>
    obtain ⟨k, rfl, hk, ho, hbw⟩ := hrel
    rename World => wo
    have G := Lib.hid hbw
    have O := Lib.hid ho
    have hMb : MN ≤ 3000 := by have := HMM.out; omega
    have HTE := Lib.hid (show k = MN → (keysR l).take k = keysR l from fun h => List.take_of_length_le (by rw [HKL.out]; omega))
    have HTS := Lib.hid (show ∀ x, (keysR l)[k]? = some x → (keysR l).take (k + 1) = (keysR l).take k ++ [x] from fun x hx => by
      obtain ⟨h1, h2⟩ := List.getElem?_eq_some_iff.1 hx
      rw [List.take_succ_eq_append_getElem h1, h2])
    have hTl : ((keysR l).take k).length ≤ 3000 := by rw [List.length_take, HKL.out]; omega
    generalize (keysR l).take k = TK at *
    have O := Lib.hid ho
    obtain ⟨Ax, cx, ex, -⟩ := ho.rd
    subst ex
    clear hbw ho
    by_cases hlt : k < MN
    · have zl : decide ((k : Int) < (MN : Int)) = true := by simp; omega
      have zl2 : decide (k < MN) = true := by simp; omega
      have h8l := many8_lt (show k < many8 l by rw [HMN.out]; exact hlt)
      obtain ⟨g, c, eA, hg, hcl⟩ := (HV.out.on G.out).here (by rw [HPL.out]; omega)
      obtain ⟨u, cu, ou⟩ := hcl k (by rw [HPL.out]; exact hlt)
      rw [pcs8_at] at ou
      have hp0 : 0 < (pc8 l k).length := by rw [pc8_len]; omega
      have RP := Lib.hid ou.rd
      obtain ⟨Ap, cp, ep, -⟩ := ou.rd
      subst ep
      injection eA with eA1 eA2 eA3
      subst eA1 eA3
      have HTK := Lib.hid (HTS.out ((pc8 l k).getD 0 zeroV).key (by
        unfold keysR
        rw [List.getElem?_map, List.getElem?_eq_getElem (by rw [HPL.out]; exact hlt), pcs8_at]; rfl))
      have FN := Lib.hid (fun B w h => run_fence (.slice Ap (pc8 l k).length cp) (pc8 l k) B w h hp0)
      generalize ((pc8 l k).getD 0 zeroV).key = key at *
      have HK1 := Lib.hid (show k + 1 ≤ MN from hlt)
      clear ou eA2 hcl hp0
      go_wp2_with fail
      refine (FN.out _ _ RP.out).mono ?_
      rintro z _ ⟨rfl, rfl⟩
      go_wp2_with (at_builtin; refine wpl_appX rfl (.tmp 12) (.tmp 15) rfl Try.underlying87 str_info9 rfl w.heap.size _ TK [key] _ _ _ rfl rfl rfl rfl O.out G.out.size (by rw [List.length_singleton]; omega) (by decide) ?_; intro v9 w9 ho9 hg9 hb9)
      rw [← HTK.out] at ho9
      have OZ := Lib.hid ho9
      have GZ := Lib.hid (G.out.trans hb9)
      clear ho9 hb9 hg9
      go_roundw
      case rel => exact ⟨k + 1, by go_num, HK1.out, OZ.out, GZ.out⟩
      case measure => simp [intOf]; omega
    · have hke : k = MN := by omega
      subst hke
      have zl : decide ((k : Int) < (k : Int)) = false := by simp
      have hte := HTE.out rfl
      subst hte
      have RS := Lib.hid (own_strs O.out)
      have h9 := encN_nine k (by omega)
      clear hlt hk
      go_wp2_with fail
      refine (vary_put _ _ [] [(k : Int)] _ (RdB.nil _ _) (RdV.lit wo _ _ [(k : Int)] 1 _ rfl rfl (by simp) (by simp)) (by simp) (by intro n hn; simp at hn; omega) (by simp)).mono ?_
      rintro z w2 ⟨v2, rfl, ho2, hb2⟩
      rw [List.nil_append, show encNs [(k : Int)] = encN k from by simp [encNs]] at ho2
      have B2 := Lib.hid ((alloc_below wo _).trans (hb2.mono (by simp)))
      have G2 := Lib.hid (G.out.trans (B2.out.mono G.out.size))
      have RS := Lib.hid (RS.out.on B2.out)
      have R2 := Lib.hid ho2.rd
      obtain ⟨A2, c2, e2, -⟩ := own_cap ho2
      subst e2
      clear ho2 hb2
      generalize encN k = ek at *
      go_wp2_with fail
      refine (vary_text _ _ ek (keysR l) _ R2.out RS.out (by omega) HK.out (by have := HKL.out; omega)).mono ?_
      rintro z w3 ⟨v3, rfl, ho3, hb3⟩
      go_wp2_with fail
      go_ret
      exact ⟨_, rfl, by rw [HE.out]; exact ownB_mono ho3 G2.out.size, G2.out.trans (hb3.mono G2.out.size)⟩

set_option maxHeartbeats 8000000 in
set_option maxRecDepth 100000 in
theorem run_build (va : Value) (l : List Ver) (w : World) (ha : RdVr w w.heap.size va l) (hl : l.length ≤ 20000) (hk : ∀ v ∈ l, v.key.size ≤ 1000000) :
    Calls Try.prog 10 #[va] w fun e w' => ∃ v', e = .returned (.tuple #[v', .int .i64 (if okTo l l.length = true then 0 else 1)]) ∧ OwnB w' w.heap.size v' (if okTo l l.length = true then encRun l else []) ∧ Below w.heap.size w w' := by
  have HA := Lib.hid ha
  have HK := Lib.hid hk
  have HT := Lib.hid (show okTo l l.length = true → (if okTo l l.length = true then (0 : Int) else 1) = 0 ∧ (if okTo l l.length = true then encRun l else []) = encRun l from fun h => by rw [if_pos h, if_pos h]; exact ⟨rfl, rfl⟩)
  have HF := Lib.hid (show okTo l l.length = false → (if okTo l l.length = true then (0 : Int) else 1) = 1 ∧ (if okTo l l.length = true then encRun l else []) = [] from fun h => by rw [if_neg (by simp [h]), if_neg (by simp [h])]; exact ⟨rfl, rfl⟩)
  generalize (if okTo l l.length = true then (0 : Int) else 1) = ri at *
  generalize (if okTo l l.length = true then encRun l else []) = rl at *
  have CUT := Lib.hid (fun va w h => blk_cut va l w h (by omega))
  have WR := Lib.hid (fun va base w h => run_write va l base w h hl hk)
  have HPL := Lib.hid (pcs8_len l)
  have hmm : many8 l ≤ 3000 := by unfold many8; omega
  have FE := Lib.hid (fun va base w h h2 => run_fences va l base w h hl h2)
  obtain ⟨A, ca, rfl, hla, hca, -⟩ := ha
  clear hk
  go_enter Try.func10, Try.ntmps10
  go_wp2_with fail
  refine (CUT.out _ _ HA.out).mono ?_
  rintro z w1 ⟨v1, rfl, ho1, hb1⟩
  obtain ⟨A1, c1, e1⟩ := ho1.form
  rw [HPL.out] at e1
  subst e1
  have NV := Lib.hid ho1
  have G := Lib.hid hb1
  clear ho1 hb1
  go_wp2_with fail
  refine (WR.out _ _ _ NV.out).mono ?_
  rintro z w2 ⟨v2, rfl, ho2, hb2⟩
  have NV := Lib.hid (NV.out.on hb2)
  have G := Lib.hid (G.out.trans (hb2.mono G.out.size))
  cases hok : okTo l l.length
  · have FF := Lib.hid (HF.out hok)
    rw [if_neg (by simp)]
    clear hok ho2 hb2
    go_wp2_with fail
    go_ret2
    obtain ⟨f1, f2⟩ := FF.out
    rw [f1, f2]
    exact ⟨_, rfl, OwnB.nil _ _, G.out⟩
  · have FF := Lib.hid (HT.out hok)
    rw [hok, if_pos rfl] at ho2
    rw [if_pos rfl]
    have HBM := Lib.hid (blocksB_mem hok)
    have HKM := Lib.hid (show ∀ s ∈ keysR l, s.size ≤ 1000000 from fun s hs => Nat.le_trans (keysR_mem hok s hs) (by omega))
    have hfl := blocks_len hok
    have hfe := encFen_len hok (by omega)
    have hfo := encFoot_len hok (by omega)
    have HBL := Lib.hid (blocksB_len l)
    have HRUN := Lib.hid (show encRun l = frms (blocksB l) ++ (frms [encFen l, encFoot l]) from by unfold encRun frms; simp [List.append_assoc])
    have HFOOT := Lib.hid (show encNs [(l.length : Int), (many8 l : Int), ((frms (blocksB l)).length : Int)] = encFoot l from by unfold encFoot encNs; simp [List.append_assoc])
    have O2 := Lib.hid ho2
    have hfr : (frms [encFen l, encFoot l]).length ≤ 20000000 := by
      have := frms_length (ls := [encFen l, encFoot l]) (m := 9 + many8 l * 101 + 27) (by intro x hx; simp only [List.mem_cons, List.not_mem_nil, or_false] at hx; rcases hx with rfl | rfl <;> omega)
      simp only [List.length_cons, List.length_nil] at this
      omega
    have hFB : (frms (blocksB l)).length ≤ 20000000 := by omega
    have hfe2 : (encFen l).length ≤ 1000000 := by omega
    obtain ⟨A2, c2, e2, -⟩ := ho2.rd.form
    rw [HBL.out] at e2
    subst e2
    clear hok ho2 hb2 hfl hfe
    have zl : decide ((l.length : Int) > 100000) = false := by rw [decide_eq_false_iff_not]; omega
    have zl1 : decide ((100000 : Int) < (l.length : Int)) = false := by rw [decide_eq_false_iff_not]; omega
    have zl2 : decide (100000 < l.length) = false := by rw [decide_eq_false_iff_not]; omega
    have CF2 := Lib.hid (fun v w h => chk_frame v [encFen l, encFoot l] w h (by simp) (by intro x hx; simp only [List.mem_cons, List.not_mem_nil, or_false] at hx; rcases hx with rfl | rfl <;> omega))
    have CF := Lib.hid (fun v w h => chk_frame v (blocksB l) w h (by rw [HBL.out]; omega) (fun b hb => Nat.le_trans (HBM.out b hb) (by omega)))
    generalize encRun l = res at *
    generalize frms [encFen l, encFoot l] = FT at *
    generalize frms (blocksB l) = FB at *
    generalize many8 l = MN at *
    go_wp2_with fail
    refine (CF.out _ _ O2.out.rd).mono ?_
    rintro z w3 ⟨v3, rfl, ho3, hb3⟩
    have NV := Lib.hid (NV.out.on hb3)
    have G3 := Lib.hid (G.out.trans (hb3.mono G.out.size))
    have O3 := Lib.hid (ownB_mono ho3 G.out.size)
    obtain ⟨A3, c3, e3, -⟩ := own_cap ho3
    subst e3
    clear ho3 hb3
    go_wp2_with fail
    refine (vary_put _ _ [] [(l.length : Int), (MN : Int), (FB.length : Int)] _ (RdB.nil _ _) (RdV.lit w3 _ _ [(l.length : Int), (MN : Int), (FB.length : Int)] 3 _ rfl rfl (by simp) (by simp)) (by simp) (by intro n hn; simp at hn; omega) (by simp)).mono ?_
    rintro z w4 ⟨v4, rfl, ho4, hb4⟩
    rw [List.nil_append, HFOOT.out] at ho4
    have B4 := Lib.hid ((alloc_below w3 (.cells #[.int .i64 l.length, .int .i64 MN, .int .i64 FB.length] 3)).trans (hb4.mono (by simp)))
    have NV := Lib.hid (NV.out.on B4.out)
    have O4 := Lib.hid (O3.out.on B4.out)
    have G4 := Lib.hid (G3.out.trans (B4.out.mono G3.out.size))
    have F4 := Lib.hid ho4.rd
    obtain ⟨A4, c4, e4, -⟩ := own_cap ho4
    subst e4
    clear ho4 hb4
    go_wp2_with fail
    refine (FE.out _ _ _ NV.out HKM.out).mono ?_
    rintro z w5 ⟨v5, rfl, ho5, hb5⟩
    have O5 := Lib.hid (O4.out.on hb5)
    have G5 := Lib.hid (G4.out.trans (hb5.mono G4.out.size))
    have F5 := Lib.hid (F4.out.on hb5)
    have E5 := Lib.hid ho5.rd
    obtain ⟨A5, c5, e5, -⟩ := own_cap ho5
    subst e5
    clear ho5 hb5
    have BB := Lib.hid (bb_two w5 _ _ _ _ E5.out F5.out)
    have hsz5 := G5.out.size
    go_wp2_with fail
    refine (CF2.out _ _ BB.out).mono ?_
    rintro z w6 ⟨v6, rfl, ho6, hb6⟩
    have B6 := Lib.hid ((alloc_below w5 (.cells #[.slice A5 (encFen l).length c5, .slice A4 (encFoot l).length c4] 24)).trans (hb6.mono (by simp)))
    have O6 := Lib.hid (O5.out.on B6.out)
    have G6 := Lib.hid (G5.out.trans (B6.out.mono hsz5))
    have R6 := Lib.hid ho6.rd
    obtain ⟨A6, c6, e6, -⟩ := own_cap ho6
    subst e6
    clear ho6 hb6
    go_wp2_with (at_builtin; refine wpl_app_bytes_b rfl (.tmp 34) (.tmp 39) rfl w.heap.size _ _ _ FB FT rfl rfl O6.out R6.out G6.out.size (by omega) ?_; intro v7 w7 ho7 hb7)
    go_ret2
    obtain ⟨f1, f2⟩ := FF.out
    rw [f1, f2]
    exact ⟨_, rfl, by rw [HRUN.out]; exact ho7, G6.out.trans hb7⟩
end Go.Proofs.Ytefjdmlmmoeoaaa
