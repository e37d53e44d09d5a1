/- BlockShares: a block's bytes are no more than those of its versions alone, one more for each, and one: any versions (the first 8 that may be, in order, unlike one another). No conditions. -/
import Derived.Test.YtecomnklofceaaaTd
import Derived.Test.YtecomnklofceaaaUd
import Derived.Test.YtecomnklofceaaaUl
import Derived.Test.YtecomnklofceaaaRr
namespace Go.Proofs.Ytecomnklofceaaa.L05
open Go.RowKit Go.ChangeShapes Go.WideShapes Go.ChangeAt
set_option linter.unusedVariables false

/-- The bytes of versions alone, one more for each. -/
def sumV (l : List Ver) : Nat := (l.map fun v => 1 + (encV v).length).sum
theorem sumV_snoc (l : List Ver) (v : Ver) : sumV (l ++ [v]) = sumV l + (1 + (encV v).length) := by simp [sumV]
theorem rest_le (key : ByteArray) {v : Ver} (h : mayV v = true) : (encRest key v).length ≤ 1 + (encV v).length := by
  have hk := may_key h
  have hc := (com_le key v.key).2
  have hr := restK_size key v
  have e1 : (encN (com key v.key)).length = 1 := encN_one (by omega)
  have e2 : (encT (restK key v)).length = 1 + (restK key v).size := by unfold encT; rw [List.length_append, encN_one (by omega)]; simp
  have e3 : (encT v.key).length = 1 + v.key.size := by unfold encT; rw [List.length_append, encN_one (by omega)]; simp
  unfold encRest encV
  simp only [List.length_append]
  omega
theorem go_le : ∀ (l : List Ver) (key : ByteArray), (∀ v ∈ l, mayV v = true) → (encGo key l).length ≤ sumV l
  | [], key, _ => by simp [encGo, sumV]
  | v :: l, key, h => by
    have h1 := rest_le key (h v (by simp))
    have h2 := go_le l v.key (fun x hx => h x (by simp [hx]))
    have h3 : sumV (v :: l) = 1 + (encV v).length + sumV l := by simp [sumV]
    simp only [encGo, List.length_append]
    omega
theorem blk_le {l : List Ver} (h : ∀ v ∈ l, mayV v = true) (hl : l.length ≤ 8) : (encBlk l).length ≤ 1 + sumV l := by
  have := go_le l ⟨#[]⟩ h
  unfold encBlk
  rw [List.length_append, encN_one (by omega)]
  omega
theorem sum_bd : ∀ (l : List Ver), (∀ v ∈ l, mayV v = true) → sumV l ≤ 1301 * l.length
  | [], _ => by simp [sumV]
  | v :: l, h => by
    have h1 := encV_len (h v (by simp)) (Nat.le_trans (may_key (h v (by simp))) (by omega))
    have h2 := sum_bd l (fun x hx => h x (by simp [hx]))
    have h3 : sumV (v :: l) = 1 + (encV v).length + sumV l := by simp [sumV]
    simp only [List.length_cons]
    omega

set_option maxHeartbeats 4000000 in
set_option maxRecDepth 100000 in
theorem walk (v : Value) (l : List Ver) (w : World) (h : RdVr w w.heap.size v l) :
    Calls Try.prog 7 #[v] w fun e w' => e = .returned (.bool true) ∧ Below w.heap.size w w' := by
  have HA := Lib.hid h
  obtain ⟨A, ca, rfl, -⟩ := h
  go_enter Try.func7, Try.ntmps7
  go_wp2_with fail
  refine (ref8_block _ l 8 _ HA.out (by omega)).mono ?_
  rintro z w1 ⟨v1, own, rfl, ho1, hl8, hok, hb1⟩
  have O1 := Lib.hid ho1
  have G := Lib.hid hb1
  have hmv := blk_may hok
  have HM := Lib.hid hmv
  have HKY := Lib.hid (show ∀ v ∈ own, v.key.size ≤ 1000000 from fun v hv => Nat.le_trans (may_key (hmv v hv)) (by omega))
  have HB1 := Lib.hid (show own.length ≠ 0 → blkB own = true from fun h0 => by unfold blkB; rw [hok, decide_eq_true (show 1 ≤ own.length from by omega), decide_eq_true (show own.length ≤ 8 from by omega)]; rfl)
  have HB0 := Lib.hid (show own.length = 0 → blkB own = false from fun h0 => by unfold blkB; rw [decide_eq_false (show ¬ 1 ≤ own.length from by omega), Bool.and_false, Bool.false_and])
  have hl8' : own.length ≤ 8 := by omega
  have HOK := Lib.hid hok
  obtain ⟨A1, c1, e1, -⟩ := ho1.rd
  subst e1
  clear ho1 hb1 hmv hok hl8
  by_cases h0 : own.length = 0
  · have z0 : ((own.length : Int) == 0) = true := by rw [beq_iff_eq]; omega
    go_wp2_with fail
    refine (lives_any8 _).mono ?_
    rintro z w8 ⟨rfl, hb⟩
    have G := Lib.hid (G.out.trans (hb.mono G.out.size))
    clear hb
    go_wp2_with fail
    go_ret
    exact ⟨rfl, G.out⟩
  · have z0 : ((own.length : Int) == 0) = false := by rw [beq_eq_false_iff_ne]; omega
    have hbk := HB1.out h0
    have HLE := Lib.hid (blk_le HM.out hl8')
    have WR := Lib.hid (fun va w ha => blk_write va own w ha HKY.out)
    rw [if_pos hbk, if_pos hbk] at WR
    generalize encBlk own = eb at *
    clear hbk
    go_wp2_with fail
    refine (WR.out _ _ O1.out.rd).mono ?_
    rintro z w2 ⟨v2, rfl, ho2, hb2⟩
    have O1 := Lib.hid (O1.out.on hb2)
    have G := Lib.hid (G.out.trans (hb2.mono G.out.size))
    obtain ⟨A2, c2, e2, -⟩ := own_cap ho2
    subst e2
    clear ho2 hb2
    go_wp2_with fail
    go_loopw [6, 7] (fun x i wr => ∃ k : Nat, i = .int .i64 k ∧ k ≤ own.length ∧ x = .int .i64 ((1 + sumV (own.take k) : Nat) : Int) ∧ Below w2.heap.size w2 wr) (fun _ i _ => own.length - (intOf i).toNat)
    case atStart => exact ⟨0, rfl, Nat.zero_le _, rfl, Below.refl _ _⟩
    case round =>
      obtain ⟨k, rfl, hk, rfl, hb⟩ := hrel
      have GW := Lib.hid hb
      clear hb
      by_cases hlt : k < own.length
      · have zl : decide ((k : Int) < (own.length : Int)) = true := by simp; omega
        obtain ⟨p, hp⟩ : ∃ p, own[k] = p := ⟨_, rfl⟩
        have hmp := HM.out own[k] (List.getElem_mem hlt)
        rw [hp] at hmp
        have HS := Lib.hid (show sumV (own.take (k + 1)) = sumV (own.take k) + (1 + (encV p).length) from by rw [List.take_succ_eq_append_getElem hlt, sumV_snoc, hp])
        have hsb := sum_bd (own.take k) (fun v hv => HM.out v (List.mem_of_mem_take hv))
        have htl : (own.take k).length ≤ 8 := by rw [List.length_take]; omega
        have hvl := encV_len hmp (Nat.le_trans (may_key hmp) (by omega))
        have RW := Lib.hid (fun w => ref6_write p w hmp (Nat.le_trans (may_key hmp) (by omega)))
        generalize sumV (own.take k) = sm at *
        generalize encV p = ev at *
        obtain ⟨b, o, eA, hbb, -⟩ := RdVr.here (O1.out.rd.below GW.out) k hlt
        subst eA
        obtain ⟨kk, bb, ee, ss, ⟨xx, yy⟩, uu, gg⟩ := p
        unfold verV at RW
        simp only at RW
        obtain ⟨-, d0, d1, d2, d3, d4, d5, d6, d7⟩ := RdVr.cells1 (O1.out.rd.below GW.out) k hlt hp
        have hw1 : IntKind.i64.wrap (((1 + sm : Nat) : Int) + 1) = ((1 + sm + 1 : Nat) : Int) := by rw [IntKind.wrap_i64]; omega
        have hw2 : IntKind.i64.wrap (((1 + sm + 1 : Nat) : Int) + (ev.length : Int)) = ((1 + (sm + (1 + ev.length)) : Nat) : Int) := by rw [IntKind.wrap_i64]; omega
        clear hp hmp hbb
        go_wp2_with fail
        refine (RW.out _).mono ?_
        rintro z w4 ⟨v4, rfl, ho4, hb4⟩
        have GZ := Lib.hid (GW.out.trans (hb4.mono GW.out.size))
        obtain ⟨A4, c4, e4, -⟩ := own_cap ho4
        subst e4
        clear ho4 hb4 d0 d1 d2 d3 d4 d5 d6 d7
        go_wp2_with fail
        go_roundw
        case rel => exact ⟨k + 1, by go_num, by omega, (by rw [HS.out]; congr 1 <;> omega), GZ.out⟩
        case measure => simp [intOf]; omega
      · have zl : decide ((k : Int) < (own.length : Int)) = false := by rw [decide_eq_false_iff_not]; omega
        rw [List.take_of_length_le (by omega)]
        have hle := HLE.out
        have zle : decide ((eb.length : Int) ≤ ((1 + sumV own : Nat) : Int)) = true := by simp only [decide_eq_true_eq]; omega
        have zle2 : decide (eb.length ≤ 1 + sumV own) = true := by simp only [decide_eq_true_eq]; omega
        have G := Lib.hid (G.out.trans (GW.out.mono G.out.size))
        have zle3 : decide ((eb.length : Int) ≤ 1 + (sumV own : Int)) = true := by simp only [decide_eq_true_eq]; omega
        clear hle HLE
        generalize sumV own = sm at *
        generalize eb.length = ln at *
        go_wp2_with fail
        refine (lives_any8 _).mono ?_
        rintro z w8 ⟨rfl, hb⟩
        have G := Lib.hid (G.out.trans (hb.mono G.out.size))
        clear hb
        go_wp2_with fail
        go_ret
        exact ⟨rfl, G.out⟩
-- END
set_option maxRecDepth 100000 in
theorem lifted (os : Os) (started : os.Started) (H : Type) (enc : TypeId × Value → H) :
    ReturnsInHanded {} Try.checked os 7 .any (Rows.blockSharesSpec.pre6 enc Try.prog Try.f7 Rows.blockSharesRow.domain false) (Rows.blockSharesSpec.post enc Try.prog Try.f7 false true false false) := by
  refine returnsInHanded_of_change (C := Try.checked) Try.own started (by kernel_rfl) Try.func7
    (ChangeSpec.witness6 (enc := enc) (C := Try.checked) false ⟨#[], #[.slice none 0 0], []⟩ 8 (by kernel_rfl) (by kernel_rfl) (by kernel_rfl) (by kernel_rfl)) ?_
  intro W base args ds gs before hval0 hW _ _
  have hval : ∀ (j : Nat) t v, Try.f7.params[j]? = some t → args[j]? = some v → Value.okWide Try.prog W .any base t v := hval0
  have hW' := hW
  obtain ⟨p, q, hA0, hV, rfl, _, _⟩ := hW
  have hA : DataW.TrodAll enc Try.prog W 0 (fun _ => true) true Try.f7.params.toList args.toList ds p := hA0
  rw [Try.params7] at hA hval
  obtain ⟨v0, d0, rfl, rfl, h0⟩ := trodAll_one hA
  obtain ⟨rfl, rfl⟩ := trodVars_none hV
  have hlt : ∀ x ∈ p, x.block < W.heap.size := fun x hx => by simpa using hW'.lt x (by simpa using hx)
  obtain ⟨a0, r0, b0⟩ := open_vers (hval 0 _ v0 rfl rfl) h0 (fun x hx => by simpa using hlt x (by simp [hx]))
  refine (walk v0 a0 _ r0).mono fun e W' ⟨he, hb⟩ => ⟨_, he, ?_⟩
  exact law_post Try.laidOut (by decide +kernel) rfl Try.underlying4 rfl hW' rfl hb

theorem holds : Rows.BlockSharesSaid :=
  OpenClaim.holds_of_wide 7 Try.f7 rfl rfl rfl rfl rfl rfl rfl ⟨rfl, rfl, rfl, rfl, rfl⟩ rfl rfl rfl rfl rfl (by kernel_rfl) Try.func7 (by kernel_rfl)
    (of_decide_eq_true (by kernel_rfl)) (by unfold Func.isWrapper; first | (rw [if_pos (by decide +kernel)]; kernel_rfl) | (rw [if_neg (by decide +kernel)]; exact ⟨rfl, rfl⟩))
    (fun os started H enc _ => lifted os started H enc)
end Go.Proofs.Ytecomnklofceaaa.L05
