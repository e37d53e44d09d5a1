/- BlockPrefix: the first ones of a block are a block, and so is each one alone: any versions (the first 8 that may be, in order, unlike one another), any number. No conditions. -/
import Derived.Test.YtecomnklofceaaaUm
import Derived.Test.YtecomnklofceaaaTd
import Derived.Test.YtecomnklofceaaaUg
import Derived.Test.YtecomnklofceaaaRr
namespace Go.Proofs.Ytecomnklofceaaa.L06
open Go.RowKit Go.ChangeShapes Go.WideShapes Go.ChangeAt
set_option linter.unusedVariables false

set_option maxHeartbeats 4000000 in
set_option maxRecDepth 100000 in
theorem walk (v : Value) (l : List Ver) (n : Int) (w : World) (h : RdVr w w.heap.size v l) (hn : -9223372036854775808 ≤ n ∧ n ≤ 9223372036854775807) :
    Calls Try.prog 8 #[v, .int .i64 n] w fun e w' => e = .returned (.bool true) ∧ Below w.heap.size w w' := by
  have HA := Lib.hid h
  obtain ⟨A, ca, rfl, -⟩ := h
  go_enter Try.func8, Try.ntmps8
  go_wp2_with fail
  refine (ref8_block _ l 8 _ HA.out (by omega)).mono ?_
  rintro z w1 ⟨v1, own, rfl, ho1, hl8, hok, hb1⟩
  have O1 := Lib.hid ho1
  have G := Lib.hid hb1
  have hmv := blk_may hok
  have HM := Lib.hid hmv
  have HKY := Lib.hid (show ∀ v ∈ own, v.key.size ≤ 1000000 from fun v hv => Nat.le_trans (may_key (hmv v hv)) (by omega))
  have HB1 := Lib.hid (show own.length ≠ 0 → blkB own = true from fun h0 => by unfold blkB; rw [hok, decide_eq_true (show 1 ≤ own.length from by omega), decide_eq_true (show own.length ≤ 8 from by omega)]; rfl)
  have HB0 := Lib.hid (show own.length = 0 → blkB own = false from fun h0 => by unfold blkB; rw [decide_eq_false (show ¬ 1 ≤ own.length from by omega), Bool.and_false, Bool.false_and])
  have hl8' : own.length ≤ 8 := by omega
  have HOK := Lib.hid hok
  obtain ⟨A1, c1, e1, -⟩ := ho1.rd
  subst e1
  clear ho1 hb1 hmv hok hl8
  by_cases h0 : own.length = 0
  · have z0 : ((own.length : Int) == 0) = true := by rw [beq_iff_eq]; omega
    have PM := Lib.hid (fun va w ha => blk_mayP va own w ha HKY.out)
    rw [HB0.out h0] at PM
    clear h0
    go_wp2_with fail
    refine (PM.out _ _ O1.out.rd).mono ?_
    rintro z w2 ⟨rfl, hb⟩
    have G := Lib.hid (G.out.trans (hb.mono G.out.size))
    clear hb
    go_wp2_with fail
    refine (lives_any8 _).mono ?_
    rintro z w8 ⟨rfl, hb⟩
    have G := Lib.hid (G.out.trans (hb.mono G.out.size))
    clear hb
    go_wp2_with fail
    go_ret
    exact ⟨rfl, G.out⟩
  · have z0 : ((own.length : Int) == 0) = false := by rw [beq_eq_false_iff_ne]; omega
    by_cases hneg : n < 0
    · obtain ⟨m, rfl⟩ : ∃ m : Nat, n = -((m : Int) + 1) := ⟨(-(n + 1)).toNat, by omega⟩
      have hnn : -(-((m : Int) + 1) + 1) = (m : Int) := by omega
      have zn : decide (-((m : Int) + 1) < 0) = true := by simp only [decide_eq_true_eq]; omega
      have hw1 : IntKind.i64.wrap (-((m : Int) + 1) + 1) = -((m : Int) + 1) + 1 := by rw [IntKind.wrap_i64]; omega
      have hw2 : IntKind.i64.wrap (m : Int) = (m : Int) := by rw [IntKind.wrap_i64]; omega
      have hkk := Nat.mod_lt m (show 0 < own.length from by omega)
      have hr1 : (m : Int) % (own.length : Int) = ((m % own.length : Nat) : Int) := (Int.natCast_emod _ _).symm
      have hr2 : Int.tmod (m : Int) (own.length : Int) = ((m % own.length : Nat) : Int) := rfl
      generalize m % own.length = kk at *
      have hwk : IntKind.i64.wrap ((kk : Int) + 1) = (kk : Int) + 1 := by rw [IntKind.wrap_i64]; omega
      have hwk2 : IntKind.i64.wrap (kk : Int) = (kk : Int) := by rw [IntKind.wrap_i64]; omega
      obtain ⟨Ah, ch, hh, rh⟩ := slX_head O1.out.rd Try.underlying22 ver_size (kk + 1) ((kk : Int) + 1) (by omega) (by omega)
      obtain ⟨Am, cm, hm, rm⟩ := slX_mid O1.out.rd Try.underlying22 ver_size kk 1 (kk : Int) ((kk : Int) + 1) rfl (by omega) (by omega) (by omega)
      have hone : (own.drop kk).take 1 = [own[kk]] := by rw [List.drop_eq_getElem_cons hkk]; rfl
      have hbP := blk_take HOK.out hl8' kk hkk
      have hmk := HM.out own[kk] (List.getElem_mem hkk)
      obtain ⟨o1, ho1⟩ : ∃ x, own[kk] = x := ⟨_, rfl⟩
      rw [ho1] at hmk hone
      clear ho1
      have hb1 := blk_one hmk
      rw [hone] at rm
      have RH := Lib.hid rh
      have RM := Lib.hid rm
      have hPl : (own.take (kk + 1)).length = kk + 1 := by rw [List.length_take]; omega
      have WR := Lib.hid (fun va w ha => blk_write va (own.take (kk + 1)) w ha (fun v hv => HKY.out v (List.mem_of_mem_take hv)))
      have PM := Lib.hid (fun va w ha => blk_mayP va [o1] w ha (by intro v hv; simp at hv; subst hv; exact Nat.le_trans (may_key hmk) (by omega)))
      rw [if_pos hbP, if_pos hbP] at WR
      rw [hb1] at PM
      have hgl := encGo_len (own.take (kk + 1)) ⟨#[]⟩ (fun v hv => HM.out v (List.mem_of_mem_take hv))
      have hn9 := encN_nine (own.take (kk + 1)).length (by omega)
      have hel : (encBlk (own.take (kk + 1))).length ≤ 100000 := by unfold encBlk; rw [List.length_append]; omega
      have BR := Lib.hid (fun v w h => blk_read v (encBlk (own.take (kk + 1))) w h hel)
      rw [blkRd_enc hbP] at BR
      simp only at BR
      clear hbP hb1 hmk hone hgl hn9 hel rh rm hPl
      generalize encBlk (own.take (kk + 1)) = eb at *
      generalize own.take (kk + 1) = P at *
      go_wp2_with fail
      refine (WR.out _ _ RH.out).mono ?_
      rintro z w2 ⟨v2, rfl, ho2, hb2⟩
      have RH := Lib.hid (RH.out.on hb2)
      have RM := Lib.hid (RM.out.on hb2)
      have G := Lib.hid (G.out.trans (hb2.mono G.out.size))
      have E2 := Lib.hid ho2.rd
      obtain ⟨A2, c2, e2, -⟩ := own_cap ho2
      subst e2
      clear ho2 hb2
      go_wp2_with fail
      refine (BR.out _ _ E2.out).mono ?_
      rintro z w3 ⟨v3, rfl, ho3, hb3⟩
      have RH := Lib.hid (RH.out.on hb3)
      have RM := Lib.hid (RM.out.on hb3)
      have G := Lib.hid (G.out.trans (hb3.mono G.out.size))
      have O3 := Lib.hid ho3.rd
      obtain ⟨A3, c3, e3, -⟩ := ho3.rd
      subst e3
      clear ho3 hb3
      go_wp2_with fail
      refine (ref6_same _ _ P P _ O3.out RH.out).mono ?_
      rintro z w4 ⟨r, rfl, hr, hb4⟩
      have RM := Lib.hid (RM.out.on hb4)
      have G := Lib.hid (G.out.trans (hb4.mono G.out.size))
      obtain rfl : r = true := hr.2 rfl
      clear hr hb4
      go_wp2_with fail
      refine (PM.out _ _ RM.out).mono ?_
      rintro z w5 ⟨rfl, hb5⟩
      have G := Lib.hid (G.out.trans (hb5.mono G.out.size))
      clear hb5
      go_wp2_with fail
      refine (lives_any8 _).mono ?_
      rintro z w8 ⟨rfl, hb⟩
      have G := Lib.hid (G.out.trans (hb.mono G.out.size))
      clear hb
      go_wp2_with fail
      go_ret
      exact ⟨rfl, G.out⟩
    · obtain ⟨m, rfl⟩ : ∃ m : Nat, n = (m : Int) := ⟨n.toNat, by omega⟩
      have zn : decide ((m : Int) < 0) = false := by rw [decide_eq_false_iff_not]; omega
      have hw2 : IntKind.i64.wrap (m : Int) = (m : Int) := by rw [IntKind.wrap_i64]; omega
      have hkk := Nat.mod_lt m (show 0 < own.length from by omega)
      have hr1 : (m : Int) % (own.length : Int) = ((m % own.length : Nat) : Int) := (Int.natCast_emod _ _).symm
      have hr2 : Int.tmod (m : Int) (own.length : Int) = ((m % own.length : Nat) : Int) := rfl
      generalize m % own.length = kk at *
      have hwk : IntKind.i64.wrap ((kk : Int) + 1) = (kk : Int) + 1 := by rw [IntKind.wrap_i64]; omega
      have hwk2 : IntKind.i64.wrap (kk : Int) = (kk : Int) := by rw [IntKind.wrap_i64]; omega
      obtain ⟨Ah, ch, hh, rh⟩ := slX_head O1.out.rd Try.underlying22 ver_size (kk + 1) ((kk : Int) + 1) (by omega) (by omega)
      obtain ⟨Am, cm, hm, rm⟩ := slX_mid O1.out.rd Try.underlying22 ver_size kk 1 (kk : Int) ((kk : Int) + 1) rfl (by omega) (by omega) (by omega)
      have hone : (own.drop kk).take 1 = [own[kk]] := by rw [List.drop_eq_getElem_cons hkk]; rfl
      have hbP := blk_take HOK.out hl8' kk hkk
      have hmk := HM.out own[kk] (List.getElem_mem hkk)
      obtain ⟨o1, ho1⟩ : ∃ x, own[kk] = x := ⟨_, rfl⟩
      rw [ho1] at hmk hone
      clear ho1
      have hb1 := blk_one hmk
      rw [hone] at rm
      have RH := Lib.hid rh
      have RM := Lib.hid rm
      have hPl : (own.take (kk + 1)).length = kk + 1 := by rw [List.length_take]; omega
      have WR := Lib.hid (fun va w ha => blk_write va (own.take (kk + 1)) w ha (fun v hv => HKY.out v (List.mem_of_mem_take hv)))
      have PM := Lib.hid (fun va w ha => blk_mayP va [o1] w ha (by intro v hv; simp at hv; subst hv; exact Nat.le_trans (may_key hmk) (by omega)))
      rw [if_pos hbP, if_pos hbP] at WR
      rw [hb1] at PM
      have hgl := encGo_len (own.take (kk + 1)) ⟨#[]⟩ (fun v hv => HM.out v (List.mem_of_mem_take hv))
      have hn9 := encN_nine (own.take (kk + 1)).length (by omega)
      have hel : (encBlk (own.take (kk + 1))).length ≤ 100000 := by unfold encBlk; rw [List.length_append]; omega
      have BR := Lib.hid (fun v w h => blk_read v (encBlk (own.take (kk + 1))) w h hel)
      rw [blkRd_enc hbP] at BR
      simp only at BR
      clear hbP hb1 hmk hone hgl hn9 hel rh rm hPl
      generalize encBlk (own.take (kk + 1)) = eb at *
      generalize own.take (kk + 1) = P at *
      go_wp2_with fail
      refine (WR.out _ _ RH.out).mono ?_
      rintro z w2 ⟨v2, rfl, ho2, hb2⟩
      have RH := Lib.hid (RH.out.on hb2)
      have RM := Lib.hid (RM.out.on hb2)
      have G := Lib.hid (G.out.trans (hb2.mono G.out.size))
      have E2 := Lib.hid ho2.rd
      obtain ⟨A2, c2, e2, -⟩ := own_cap ho2
      subst e2
      clear ho2 hb2
      go_wp2_with fail
      refine (BR.out _ _ E2.out).mono ?_
      rintro z w3 ⟨v3, rfl, ho3, hb3⟩
      have RH := Lib.hid (RH.out.on hb3)
      have RM := Lib.hid (RM.out.on hb3)
      have G := Lib.hid (G.out.trans (hb3.mono G.out.size))
      have O3 := Lib.hid ho3.rd
      obtain ⟨A3, c3, e3, -⟩ := ho3.rd
      subst e3
      clear ho3 hb3
      go_wp2_with fail
      refine (ref6_same _ _ P P _ O3.out RH.out).mono ?_
      rintro z w4 ⟨r, rfl, hr, hb4⟩
      have RM := Lib.hid (RM.out.on hb4)
      have G := Lib.hid (G.out.trans (hb4.mono G.out.size))
      obtain rfl : r = true := hr.2 rfl
      clear hr hb4
      go_wp2_with fail
      refine (PM.out _ _ RM.out).mono ?_
      rintro z w5 ⟨rfl, hb5⟩
      have G := Lib.hid (G.out.trans (hb5.mono G.out.size))
      clear hb5
      go_wp2_with fail
      refine (lives_any8 _).mono ?_
      rintro z w8 ⟨rfl, hb⟩
      have G := Lib.hid (G.out.trans (hb.mono G.out.size))
      clear hb
      go_wp2_with fail
      go_ret
      exact ⟨rfl, G.out⟩
-- END
set_option maxRecDepth 100000 in
theorem lifted (os : Os) (started : os.Started) (H : Type) (enc : TypeId × Value → H) :
    ReturnsInHanded {} Try.checked os 8 .any (Rows.blockPrefixSpec.pre6 enc Try.prog Try.f8 Rows.blockPrefixRow.domain false) (Rows.blockPrefixSpec.post enc Try.prog Try.f8 false true false false) := by
  refine returnsInHanded_of_change (C := Try.checked) Try.own started (by kernel_rfl) Try.func8
    (ChangeSpec.witness6 (enc := enc) (C := Try.checked) false ⟨#[], #[.slice none 0 0, .int .i64 0], []⟩ 8 (by kernel_rfl) (by kernel_rfl) (by kernel_rfl) (by kernel_rfl)) ?_
  intro W base args ds gs before hval0 hW _ _
  have hval : ∀ (j : Nat) t v, Try.f8.params[j]? = some t → args[j]? = some v → Value.okWide Try.prog W .any base t v := hval0
  have hW' := hW
  obtain ⟨p, q, hA0, hV, rfl, _, _⟩ := hW
  have hA : DataW.TrodAll enc Try.prog W 0 (fun _ => true) true Try.f8.params.toList args.toList ds p := hA0
  rw [Try.params8] at hA hval
  obtain ⟨v0, v1, d0, d1, p0, p1, rfl, rfl, rfl, h0, h1⟩ := trodAll_two hA
  obtain ⟨rfl, rfl⟩ := trodVars_none hV
  have hlt := fun x hx => hW'.lt x hx
  obtain ⟨a0, r0, b0⟩ := open_vers (hval 0 _ v0 rfl rfl) h0 (fun x hx => by simpa using hlt x (by simp [hx]))
  obtain ⟨a1, rfl, rfl, rfl, w1⟩ := open_int Try.underlying3 (hval 1 _ v1 rfl rfl) h1
  have w1 := wf_int w1
  refine (walk v0 a0 a1 _ r0 w1).mono fun e W' ⟨he, hb⟩ => ⟨_, he, ?_⟩
  exact law_post Try.laidOut (by decide +kernel) rfl Try.underlying4 rfl hW' rfl hb

theorem holds : Rows.BlockPrefixSaid :=
  OpenClaim.holds_of_wide 8 Try.f8 rfl rfl rfl rfl rfl rfl rfl ⟨rfl, rfl, rfl, rfl, rfl⟩ rfl rfl rfl rfl rfl (by kernel_rfl) Try.func8 (by kernel_rfl)
    (of_decide_eq_true (by kernel_rfl)) (by unfold Func.isWrapper; first | (rw [if_pos (by decide +kernel)]; kernel_rfl) | (rw [if_neg (by decide +kernel)]; exact ⟨rfl, rfl⟩))
    (fun os started H enc _ => lifted os started H enc)
end Go.Proofs.Ytecomnklofceaaa.L06
