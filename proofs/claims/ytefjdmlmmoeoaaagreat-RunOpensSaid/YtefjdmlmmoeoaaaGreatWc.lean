/- Layer 9: a run's bytes, by the document. -/
import Derived.Test.YtefjdmlmmoeoaaaGreatWa
import Derived.Test.YtefjdmlmmoeoaaaGreatTf
import Derived.Test.YtefjdmlmmoeoaaaGreatCA
import Derived.Test.YtefjdmlmmoeoaaaGreatUm
namespace Go.Proofs.YtefjdmlmmoeoaaaGreat
open Go.RowKit
set_option linter.unusedVariables false

theorem encTs_snoc9 (ts : List ByteArray) (s : ByteArray) : encTs (ts ++ [s]) = encTs ts ++ encT s := by simp [encTs]
/-- What stands when k pieces are written. -/
def fr9 (l : List Ver) (k : Nat) : List UInt8 := frms ((List.range k).map fun j => encBlk (pc8 l j))
def ky9 (l : List Ver) (k : Nat) : List UInt8 := encTs ((List.range k).map fun j => ((pc8 l j).getD 0 zeroV).key)
theorem fr9_succ (l : List Ver) (k : Nat) : fr9 l (k + 1) = fr9 l k ++ frm (encBlk (pc8 l k)) := by
  unfold fr9; rw [List.range_succ, List.map_append, List.map_singleton, frms_snoc]
theorem ky9_succ (l : List Ver) (k : Nat) : ky9 l (k + 1) = ky9 l k ++ encT ((pc8 l k).getD 0 zeroV).key := by
  unfold ky9; rw [List.range_succ, List.map_append, List.map_singleton, encTs_snoc9]
theorem fr9_end (l : List Ver) : fr9 l (many8 l) = frms (blocksB l) := by
  unfold fr9 blocksB pcs8; rw [List.map_map]; rfl
theorem ky9_end (l : List Ver) : ky9 l (many8 l) = encTs (keysR l) := by
  unfold ky9 keysR pcs8; rw [List.map_map]; rfl
theorem pc8_may {l : List Ver} (h : ∀ v ∈ l, mayV v = true) (k : Nat) : ∀ v ∈ pc8 l k, mayV v = true := fun v hv => h v (List.mem_of_mem_drop (List.mem_of_mem_take hv))
theorem encBlk_len2 {l : List Ver} (h : ∀ v ∈ l, mayV v = true) (h8 : l.length ≤ 8) : (encBlk l).length ≤ 3300 := by
  have h4 := encGo_len l ⟨#[]⟩ h
  have h5 := encN_nine l.length (by omega)
  unfold encBlk; rw [List.length_append]; omega
theorem fr9_len {l : List Ver} (h : ∀ v ∈ l, mayV v = true) (k : Nat) : (fr9 l k).length ≤ k * 3308 := by
  unfold fr9
  have := frms_length (ls := (List.range k).map fun j => encBlk (pc8 l j)) (m := 3300) (fun x hx => by
    obtain ⟨j, hj, rfl⟩ := List.mem_map.1 hx
    exact encBlk_len2 (pc8_may h j) (by rw [pc8_len]; omega))
  simpa using this
theorem ky9_len {l : List Ver} (h : ∀ v ∈ l, mayV v = true) (k : Nat) (hk : k ≤ many8 l) : (ky9 l k).length ≤ k * 101 := by
  unfold ky9
  have := encTs_len9 ((List.range k).map fun j => ((pc8 l j).getD 0 zeroV).key) 92 (fun x hx => by
    obtain ⟨j, hj, rfl⟩ := List.mem_map.1 hx
    rw [List.mem_range] at hj
    have hl := many8_lt (show j < many8 l from by omega)
    have hp := pc8_len l j
    show ((pc8 l j).getD 0 zeroV).key.size ≤ 92
    rw [getD_at (by omega)]
    exact may_key (pc8_may h j _ (List.getElem_mem _))) (by omega)
  simpa using this

/-- Two rows apart. -/
def ApB (x y : Value) : Prop := ∀ g, x.ownBlock = some g → y.ownBlock ≠ some g
theorem apB_grow {w w' : World} {base : Nat} {v v' u : Value} {m : List UInt8} (h : OwnB w base u m) (ha : ApB v u) (hg : Grew w w' v v') : OwnB w' base u m ∧ ApB v' u := by
  refine ⟨h.keep hg.grown ?_, fun g e e2 => ?_⟩
  · cases e : u.ownBlock with
    | none => exact .inl rfl
    | some k => exact .inr fun e2 => ha k e2.symm e
  · rcases hg.own with e3 | ⟨g2, e3, hg2⟩
    · exact ha g (by rw [← e3]; exact e) e2
    · have := (h.lt g e2).2
      rw [e3] at e
      injection e with e
      omega
theorem ApB.symm {x y : Value} (h : ApB x y) : ApB y x := fun g e e2 => h g e2 e

set_option maxHeartbeats 8000000 in
set_option maxRecDepth 100000 in
theorem ref9_build (va : Value) (l : List Ver) (w : World) (ha : RdVr w w.heap.size va l) (hm : ∀ v ∈ l, mayV v = true) (hl : l.length ≤ 20000) :
    Calls Tryz.prog 16 #[va] w fun e w' => ∃ v', e = .returned v' ∧ OwnB w' w.heap.size v' (encRun l) ∧ Below w.heap.size w w' := by
  have HA := Lib.hid ha
  have HM := Lib.hid hm
  have HFE := Lib.hid (fr9_end l)
  have HKE := Lib.hid (ky9_end l)
  have HFL := Lib.hid (fun k => fr9_len hm k)
  have HKL := Lib.hid (fun k hk => ky9_len hm k hk)
  have hmn : many8 l = (l.length + 7) / 8 := rfl
  have HRUN := Lib.hid (show encRun l = frms (blocksB l) ++ frm (encFen l) ++ frm (encFoot l) from rfl)
  have HFEN := Lib.hid (show encFen l = encN (many8 l) ++ encTs (keysR l) from rfl)
  have HFOOT := Lib.hid (show encFoot l = encN l.length ++ encN (many8 l) ++ encN (frms (blocksB l)).length from rfl)
  obtain ⟨A, ca, rfl, hla, hca, -⟩ := ha
  clear hm
  generalize encRun l = res at *
  generalize encFen l = fen at *
  generalize encFoot l = foot at *
  generalize frms (blocksB l) = FB at *
  generalize encTs (keysR l) = KB at *
  generalize hMN : many8 l = MN at *
  have HMN := Lib.hid hMN
  have HMM := Lib.hid hmn
  clear hMN hmn
  go_enter Tryz.func16, Tryz.ntmps16
  go_wp2_with fail
  go_loopw [3, 4, 5, 6] (fun x y m i wr => ∃ k p : Nat, i = .int .i64 (p : Int) ∧ m = .int .i64 k ∧ p = 8 * k ∧ k ≤ MN ∧ OwnB wr w.heap.size x (fr9 l k) ∧ OwnB wr w.heap.size y (ky9 l k) ∧ ApB x y ∧ Below w.heap.size w wr) (fun _ _ _ i _ => l.length + 8 - (intOf i).toNat)
  case atStart => exact ⟨0, 0, rfl, rfl, rfl, Nat.zero_le _, OwnB.nil _ _, OwnB.nil _ _, by simp [ApB, Value.ownBlock], Below.refl _ _⟩
  case round =>
    obtain ⟨k, p, rfl, rfl, hp, hk, hox, hoy, hne, hb⟩ := hrel
    rename World => wo
    have OX := Lib.hid hox
    have OY := Lib.hid hoy
    have NE := Lib.hid hne
    have G := Lib.hid hb
    have HP := Lib.hid hp
    have hmn := HMM.out
    have hfl := HFL.out k
    have hkl := HKL.out k hk
    have hal : (fr9 l k).length ≤ 100000000 := by omega
    have hal2 : (ky9 l k).length ≤ 100000000 := by omega
    clear hox hoy hne hb hfl hkl hmn
    by_cases hlt : p < l.length
    · have hpl := pc8_len l k
      have hm1 : 1 ≤ (pc8 l k).length := by omega
      have hm8 : (pc8 l k).length ≤ 8 := by omega
      have HS1 := Lib.hid (fr9_succ l k)
      have HS2 := Lib.hid (ky9_succ l k)
      have hkey : ((pc8 l k).getD 0 zeroV).key = (l[p]'hlt).key := by
        rw [pc8_get l k 0 (by omega), Nat.add_zero, ← hp, getD_at hlt]
      rw [hkey] at HS2
      have hks := may_key (HM.out _ (List.getElem_mem hlt))
      have HME := Lib.hid (pc8_may HM.out k)
      have hel := encBlk_len2 HME.out hm8
      have hdt : (l.drop p).take (pc8 l k).length = pc8 l k := by
        have e : pc8 l k = (l.drop p).take 8 := by rw [hp]; rfl
        rw [e, List.length_take, List.length_drop]
        rcases Nat.le_total 8 (l.length - p) with h | h
        · rw [Nat.min_eq_left h]
        · rw [Nat.min_eq_right h, List.take_of_length_le (by rw [List.length_drop]; exact Nat.le_refl _), List.take_of_length_le (by rw [List.length_drop]; omega)]
      have hpm : p + (pc8 l k).length ≤ l.length := by omega
      have hpe : p + (pc8 l k).length = if l.length < p + 8 then l.length else p + 8 := by split <;> omega
      have HK1 := Lib.hid (show k + 1 ≤ MN from by rw [← HMN.out]; exact lt_many8 (by omega))
      obtain ⟨P, hP⟩ : ∃ P, pc8 l k = P := ⟨_, rfl⟩
      rw [hP] at hpl hm1 hm8 HS1 HME hel hdt hpm hpe
      clear hP hkey
      obtain ⟨KX, hKX⟩ : ∃ KX, (l[p]'hlt).key = KX := ⟨_, rfl⟩
      rw [hKX] at HS2 hks
      have HKX := Lib.hid hKX
      clear hKX
      generalize fr9 l k = fx at *
      generalize ky9 l k = ky at *
      have zl : decide ((p : Int) < (l.length : Int)) = true := by simp; omega
      have zl2 : decide (p < l.length) = true := by simp; omega
      have hw8 : IntKind.i64.wrap ((p : Int) + 8) = (p : Int) + 8 := by rw [IntKind.wrap_i64]; omega
      have hw1 : IntKind.i64.wrap ((k : Int) + 1) = (k : Int) + 1 := by rw [IntKind.wrap_i64]; omega
      by_cases h8 : l.length < p + 8
      · have zg : decide ((l.length : Int) < (p : Int) + 8) = true := by simp; omega
        rw [if_pos h8] at hpe
        obtain ⟨As, cs, hsl, hrs⟩ := slX_mid (HA.out.on G.out) Tryz.underlying27 ver_size p P.length (p : Int) (l.length : Int) rfl (by omega) (by omega) (by omega)
        rw [hdt] at hrs
        have RS := Lib.hid hrs
        have hPl : P.length ≤ 1000 := by omega
        clear hrs hpl hpe hpm hdt hm1 hm8 hp
        go_wp2_with fail
        refine (ref8_write _ P _ RS.out HME.out hPl).mono ?_
        rintro z w1 ⟨v1, rfl, ho1, hb1⟩
        have OX1 := Lib.hid (OX.out.on hb1)
        have OY1 := Lib.hid (OY.out.on hb1)
        have G1 := Lib.hid (G.out.trans (hb1.mono G.out.size))
        have R1 := Lib.hid ho1.rd
        obtain ⟨A1, c1, e1, -⟩ := own_cap ho1
        subst e1
        clear ho1 hb1
        go_wp2_with fail
        refine (ref_frame _ (encBlk P) _ R1.out (by omega)).mono ?_
        rintro z w2 ⟨v2, rfl, ho2, hb2⟩
        have OX2 := Lib.hid (OX1.out.on hb2)
        have OY2 := Lib.hid (OY1.out.on hb2)
        have G2 := Lib.hid (G1.out.trans (hb2.mono G1.out.size))
        have R2 := Lib.hid ho2.rd
        obtain ⟨A2, c2, e2, -⟩ := own_cap ho2
        subst e2
        clear ho2 hb2
        have hfr : (frm (encBlk P)).length ≤ 4000 := by rw [frm_length]; omega
        generalize frm (encBlk P) = fb at *
        go_wp2_with (at_builtin; refine wpl_app_bytes rfl (.tmp 24) (.tmp 30) rfl w.heap.size _ _ _ fx fb rfl rfl OX2.out R2.out ?_ ?_ ?_; rotate_left 2; intro v3 w3 ho3 hg3 hs3; obtain ⟨b3, o3, eA, -, k0, -⟩ := RdVr.here (HA.out.on (G2.out.trans (hg3.below G2.out.size OX2.out.base))) p hlt; subst eA; rw [HKX.out] at k0)
        · obtain ⟨OY3, NE3⟩ := apB_grow OY2.out NE.out hg3
          have OX3 := Lib.hid ho3
          have OY3 := Lib.hid OY3
          have NE3 := Lib.hid NE3
          have G3 := Lib.hid (G2.out.trans (hg3.below G2.out.size OX2.out.base))
          clear ho3 hg3
          refine (ref_text KX _ (by omega)).mono ?_
          rintro z w4 ⟨v4, rfl, ho4, hb4⟩
          have OX4 := Lib.hid (OX3.out.on hb4)
          have OY4 := Lib.hid (OY3.out.on hb4)
          have G4 := Lib.hid (G3.out.trans (hb4.mono G3.out.size))
          have R4 := Lib.hid ho4.rd
          obtain ⟨A4, c4, e4, -⟩ := own_cap ho4
          subst e4
          have hel4 := encT_len KX (by omega)
          clear ho4 hb4 k0
          generalize encT KX = kb at *
          go_wp2_with (at_builtin; refine wpl_app_bytes rfl (.tmp 32) (.tmp 38) rfl w.heap.size _ _ _ ky kb rfl rfl OY4.out R4.out ?_ ?_ ?_; rotate_left 2; intro v5 w5 ho5 hg5 hs5)
          · obtain ⟨OX5, NE5⟩ := apB_grow OX4.out NE3.out.symm hg5
            have OX5 := Lib.hid OX5
            have OY5 := Lib.hid ho5
            have NE5 := Lib.hid NE5.symm
            have G5 := Lib.hid (G4.out.trans (hg5.below G4.out.size OY4.out.base))
            clear ho5 hg5
            go_roundw
            case rel => exact ⟨k + 1, p + 8, by go_num, by go_num, by have := HP.out; omega, HK1.out, by rw [HS1.out]; exact OX5.out, by rw [HS2.out]; exact OY5.out, NE5.out, G5.out⟩
            case measure => simp [intOf]; omega
          · exact G4.out.size
          · omega
        · exact G2.out.size
        · omega
      · have zg : decide ((l.length : Int) < (p : Int) + 8) = false := by rw [decide_eq_false_iff_not]; omega
        rw [if_neg h8] at hpe
        obtain ⟨As, cs, hsl, hrs⟩ := slX_mid (HA.out.on G.out) Tryz.underlying27 ver_size p P.length (p : Int) ((p : Int) + 8) rfl (by omega) (by omega) (by omega)
        rw [hdt] at hrs
        have RS := Lib.hid hrs
        have hPl : P.length ≤ 1000 := by omega
        clear hrs hpl hpe hpm hdt hm1 hm8 hp
        go_wp2_with fail
        refine (ref8_write _ P _ RS.out HME.out hPl).mono ?_
        rintro z w1 ⟨v1, rfl, ho1, hb1⟩
        have OX1 := Lib.hid (OX.out.on hb1)
        have OY1 := Lib.hid (OY.out.on hb1)
        have G1 := Lib.hid (G.out.trans (hb1.mono G.out.size))
        have R1 := Lib.hid ho1.rd
        obtain ⟨A1, c1, e1, -⟩ := own_cap ho1
        subst e1
        clear ho1 hb1
        go_wp2_with fail
        refine (ref_frame _ (encBlk P) _ R1.out (by omega)).mono ?_
        rintro z w2 ⟨v2, rfl, ho2, hb2⟩
        have OX2 := Lib.hid (OX1.out.on hb2)
        have OY2 := Lib.hid (OY1.out.on hb2)
        have G2 := Lib.hid (G1.out.trans (hb2.mono G1.out.size))
        have R2 := Lib.hid ho2.rd
        obtain ⟨A2, c2, e2, -⟩ := own_cap ho2
        subst e2
        clear ho2 hb2
        have hfr : (frm (encBlk P)).length ≤ 4000 := by rw [frm_length]; omega
        generalize frm (encBlk P) = fb at *
        go_wp2_with (at_builtin; refine wpl_app_bytes rfl (.tmp 24) (.tmp 30) rfl w.heap.size _ _ _ fx fb rfl rfl OX2.out R2.out ?_ ?_ ?_; rotate_left 2; intro v3 w3 ho3 hg3 hs3; obtain ⟨b3, o3, eA, -, k0, -⟩ := RdVr.here (HA.out.on (G2.out.trans (hg3.below G2.out.size OX2.out.base))) p hlt; subst eA; rw [HKX.out] at k0)
        · obtain ⟨OY3, NE3⟩ := apB_grow OY2.out NE.out hg3
          have OX3 := Lib.hid ho3
          have OY3 := Lib.hid OY3
          have NE3 := Lib.hid NE3
          have G3 := Lib.hid (G2.out.trans (hg3.below G2.out.size OX2.out.base))
          clear ho3 hg3
          refine (ref_text KX _ (by omega)).mono ?_
          rintro z w4 ⟨v4, rfl, ho4, hb4⟩
          have OX4 := Lib.hid (OX3.out.on hb4)
          have OY4 := Lib.hid (OY3.out.on hb4)
          have G4 := Lib.hid (G3.out.trans (hb4.mono G3.out.size))
          have R4 := Lib.hid ho4.rd
          obtain ⟨A4, c4, e4, -⟩ := own_cap ho4
          subst e4
          have hel4 := encT_len KX (by omega)
          clear ho4 hb4 k0
          generalize encT KX = kb at *
          go_wp2_with (at_builtin; refine wpl_app_bytes rfl (.tmp 32) (.tmp 38) rfl w.heap.size _ _ _ ky kb rfl rfl OY4.out R4.out ?_ ?_ ?_; rotate_left 2; intro v5 w5 ho5 hg5 hs5)
          · obtain ⟨OX5, NE5⟩ := apB_grow OX4.out NE3.out.symm hg5
            have OX5 := Lib.hid OX5
            have OY5 := Lib.hid ho5
            have NE5 := Lib.hid NE5.symm
            have G5 := Lib.hid (G4.out.trans (hg5.below G4.out.size OY4.out.base))
            clear ho5 hg5
            go_roundw
            case rel => exact ⟨k + 1, p + 8, by go_num, by go_num, by have := HP.out; omega, HK1.out, by rw [HS1.out]; exact OX5.out, by rw [HS2.out]; exact OY5.out, NE5.out, G5.out⟩
            case measure => simp [intOf]; omega
          · exact G4.out.size
          · omega
        · exact G2.out.size
        · omega
    · have hke : k = MN := by have := HMM.out; omega
      subst hke
      rw [HFE.out] at OX hal
      rw [HKE.out] at OY hal2
      have hk2 : k ≤ 3000 := by have := HMM.out; omega
      have h9 := encN_nine k (by omega)
      have h9l := encN_nine l.length (by omega)
      have h9f := encN_nine FB.length (by omega)
      have PK := Lib.hid (fun w => ref_put (k : Int) w (by omega))
      have PL := Lib.hid (fun w => ref_put (l.length : Int) w (by omega))
      have PF := Lib.hid (fun w => ref_put (FB.length : Int) w (by omega))
      rw [Int.toNat_natCast] at PK PL PF
      have zl : decide ((p : Int) < (l.length : Int)) = false := by rw [decide_eq_false_iff_not]; omega
      have zl2 : decide (p < l.length) = false := by rw [decide_eq_false_iff_not]; omega
      generalize encN k = ek at *
      generalize encN l.length = el at *
      generalize encN FB.length = ef at *
      obtain ⟨AX, cX, eX, -⟩ := own_cap OX.out
      subst eX
      clear hp hlt hk
      go_wp2_with fail
      refine (PK.out _).mono ?_
      rintro z w1 ⟨v1, rfl, ho1, hb1⟩
      have O1 := Lib.hid ho1
      have B1 := Lib.hid hb1
      have R1 := Lib.hid (OY.out.on hb1).rd
      clear ho1 hb1
      go_wp2_with (at_builtin; refine wpl_app_bytes_b rfl (.tmp 43) (.tmp 44) rfl wo.heap.size _ _ _ ek KB rfl rfl O1.out R1.out B1.out.size (by omega) ?_; intro v2 w2 ho2 hb2; rw [← HFEN.out] at ho2; obtain ⟨A2, c2, e2, -⟩ := own_cap ho2; subst e2)
      have O2 := Lib.hid ho2
      have B2 := Lib.hid (B1.out.trans hb2)
      have hfl : fen.length ≤ 200000000 := by rw [HFEN.out, List.length_append]; omega
      clear ho2 hb2
      refine (PL.out _).mono ?_
      rintro z w3 ⟨v3, rfl, ho3, hb3⟩
      have O3 := Lib.hid ho3
      have B3 := Lib.hid hb3
      clear ho3 hb3
      go_wp2_with fail
      refine (PK.out _).mono ?_
      rintro z w4 ⟨v4, rfl, ho4, hb4⟩
      have O4 := Lib.hid (O3.out.on hb4)
      have B4 := Lib.hid (B3.out.trans (hb4.mono B3.out.size))
      have R4 := Lib.hid ho4.rd
      clear ho4 hb4
      go_wp2_with (at_builtin; refine wpl_app_bytes_b rfl (.tmp 49) (.tmp 51) rfl w2.heap.size _ _ _ el ek rfl rfl O4.out R4.out B4.out.size (by omega) ?_; intro v5 w5 ho5 hb5)
      have O5 := Lib.hid ho5
      have B5 := Lib.hid (B4.out.trans hb5)
      clear ho5 hb5
      refine (PF.out _).mono ?_
      rintro z w6 ⟨v6, rfl, ho6, hb6⟩
      have O6 := Lib.hid (O5.out.on hb6)
      have B6 := Lib.hid (B5.out.trans (hb6.mono B5.out.size))
      have R6 := Lib.hid ho6.rd
      clear ho6 hb6
      go_wp2_with (at_builtin; refine wpl_app_bytes_b rfl (.tmp 53) (.tmp 56) rfl w2.heap.size _ _ _ (el ++ ek) ef rfl rfl O6.out R6.out B6.out.size (by rw [List.length_append]; omega) ?_; intro v7 w7 ho7 hb7; rw [← HFOOT.out] at ho7; obtain ⟨A7, c7, e7, -⟩ := own_cap ho7; subst e7)
      have hol : foot.length ≤ 1000 := by rw [HFOOT.out, List.length_append, List.length_append]; omega
      have O7 := Lib.hid ho7
      have B7 := Lib.hid (B6.out.trans hb7)
      clear ho7 hb7
      have OX7 := Lib.hid (OX.out.on (B2.out.trans (B7.out.mono B2.out.size)))
      have R7 := Lib.hid (O2.out.on B7.out).rd
      have G7 := Lib.hid ((G.out.trans (B2.out.mono G.out.size)).trans (B7.out.mono (Nat.le_trans G.out.size B2.out.size)))
      have NE7 : ApB (.slice AX FB.length cX) (.slice A7 foot.length c7) := fun g e1 e2 => by
        have h1 := (OX.out.lt g e1).2
        have h2 := (O7.out.lt g e2).1
        have h3 := B2.out.size
        omega
      have NE := Lib.hid NE7
      clear NE7
      refine (ref_frame _ fen _ R7.out (by omega)).mono ?_
      rintro z w8 ⟨v8, rfl, ho8, hb8⟩
      have OX8 := Lib.hid (OX7.out.on hb8)
      have O8 := Lib.hid (O7.out.on hb8)
      have G8 := Lib.hid (G7.out.trans (hb8.mono G7.out.size))
      have R8 := Lib.hid ho8.rd
      obtain ⟨A8, c8, e8, -⟩ := own_cap ho8
      subst e8
      have hq8 : (frm fen).length ≤ 200000008 := by rw [frm_length]; omega
      clear ho8 hb8
      generalize frm fen = qf at *
      obtain ⟨FQ, hq⟩ : ∃ FQ, FQ = FB ++ qf := ⟨_, rfl⟩
      have hFQl : FQ.length ≤ 400000000 := by rw [hq, List.length_append]; omega
      have HFQ := Lib.hid hq
      clear hq
      go_wp2_with (at_builtin; refine wpl_app_bytes rfl (.tmp 58) (.tmp 60) rfl w.heap.size _ _ _ FB qf rfl rfl OX8.out R8.out G8.out.size (by omega) ?_; intro v9 w9 ho9 hg9 hs9; rw [← HFQ.out] at ho9; obtain ⟨A9, c9, e9, -⟩ := own_cap ho9; subst e9)
      have O9 := Lib.hid (apB_grow O8.out NE.out hg9).1.rd
      have OX9 := Lib.hid ho9
      have G9 := Lib.hid (G8.out.trans (hg9.below G8.out.size OX8.out.base))
      clear ho9 hg9
      refine (ref_frame _ foot _ O9.out (by omega)).mono ?_
      rintro z w10 ⟨v10, rfl, ho10, hb10⟩
      have OX10 := Lib.hid (OX9.out.on hb10)
      have G10 := Lib.hid (G9.out.trans (hb10.mono G9.out.size))
      have R10 := Lib.hid ho10.rd
      obtain ⟨A10, c10, e10, -⟩ := own_cap ho10
      subst e10
      have hq10 : (frm foot).length ≤ 1008 := by rw [frm_length]; omega
      clear ho10 hb10
      generalize frm foot = qo at *
      go_wp2_with (at_builtin; refine wpl_app_bytes_b rfl (.tmp 62) (.tmp 64) rfl w.heap.size _ _ _ FQ qo rfl rfl OX10.out R10.out G10.out.size (by omega) ?_; intro v11 w11 ho11 hb11)
      go_ret
      exact ⟨_, rfl, by rw [HRUN.out, ← HFQ.out]; exact ho11, G10.out.trans hb11⟩
end Go.Proofs.YtefjdmlmmoeoaaaGreat
