/- SkipLevels: which levels keys have changes nothing of what is told but rows: any deeds (the first 40, the first 8 bytes of keys), with their levels, and all with level 1; any key. -/
import Derived.Test.YtlihiojdjcmggaaSe
import Derived.Test.YtlihiojdjcmggaaSl
import Derived.Test.YtlihiojdjcmggaaSq
import Derived.Test.YtlihiojdjcmggaaSo
import Derived.Test.YtlihiojdjcmggaaKk
namespace Go.Proofs.Ytlihiojdjcmggaa.L03
open Go.RowKit Go.ChangeShapes Go.WideShapes Go.ChangeAt
set_option linter.unusedVariables false

theorem same_selfL (a : List ByteArray) : sameT a a = true := by
  induction a with
  | nil => rfl
  | cons x r ih => rw [sameT, ih]; simp
set_option maxHeartbeats 8000000 in
set_option maxRecDepth 100000 in
theorem walk0 {Sk : Nat → World → (Nat → Prop) → Value → List It → Prop} {P : Obj → Bool} (K : SkF Sk P) (v : Value) (l : List DeedK) (key : ByteArray) (w : World) (h : RdX deedKL w w.heap.size v l) (hok : ∀ x ∈ l, OkDeedK x) :
    Calls Try.prog 5 #[v, .string key] w fun z w' => z = .returned (.bool true) ∧ Below w.heap.size w w' := by
  have LV := Lib.hid (law12_lives K.one)
  have K := Lib.hid K
  have HA := Lib.hid h
  have HO := Lib.hid hok
  obtain ⟨A, ca, rfl, hla, hca, -⟩ := id h
  have HCA := Lib.hid (Nat.le_trans hla hca)
  have FKS := Lib.hid (Nat.le_trans (fewK_size key) (show 8 ≤ 1000 by decide))
  clear h hok hla hca
  go_enter Try.func5, Try.ntmps5
  go_wp2_with fail
  refine (K.out.new _).mono ?_
  rintro z w1 ⟨p1, T1, rfl, hs1, ht1, hb1⟩
  obtain ⟨g1, ep⟩ := K.out.ptr hs1
  subst ep
  have S1 := Lib.hid hs1
  have HT1 := Lib.hid ht1
  have G1 := Lib.hid hb1
  clear hs1 ht1 hb1
  go_wp2_with fail
  refine (K.out.new _).mono ?_
  rintro z w2 ⟨p2, T2, rfl, hs2, ht2, hb2⟩
  obtain ⟨g2, ep⟩ := K.out.ptr hs2
  subst ep
  have hlt1 : ∀ i, T1 i → i < w1.heap.size := fun i hi => by
    obtain ⟨o, ho, -⟩ := K.out.typed S1.out i hi
    exact (Array.getElem?_eq_some_iff.1 ho).1
  have S2 := Lib.hid (show SkB Sk (Beside Sk 0 (.pointer (some ⟨g2, 0, none⟩)) (flatI [])) 0 w2 w.heap.size (.pointer (some ⟨g1, 0, none⟩)) [] from
    ⟨T1, K.out.stay S1.out (fun i hi => hb2.block i (hlt1 i hi)), HT1.out, T2, hs2, fun i hi => Nat.le_trans G1.out.size (ht2 i hi), fun i hi h2 => by have := hlt1 i hi; have := ht2 i h2; omega⟩)
  have G2 := Lib.hid (G1.out.trans (hb2.mono G1.out.size))
  clear hs2 ht2 hb2 hlt1 S1 HT1 G1
  go_wp2_with fail
  go_loopw [7, 8, 9] (fun x y i wr => ∃ (k : Nat) (r : List It), i = .int .i64 k ∧ k ≤ l.length ∧ k ≤ 40 ∧ r.length ≤ k ∧ (∀ y ∈ r, 1 ≤ y.level) ∧ SkB Sk (Beside Sk k (.pointer (some ⟨g2, 0, none⟩)) (flatI r)) k wr w.heap.size (.pointer (some ⟨g1, 0, none⟩)) r ∧ OwnX itL 46 wr w.heap.size x r ∧ OwnX itL 46 wr w.heap.size y (flatI r) ∧ Below w.heap.size w wr) (fun _ _ i _ => l.length - (intOf i).toNat)
  case atStart => exact ⟨0, [], rfl, Nat.zero_le _, Nat.zero_le _, Nat.le_refl _, (fun x hx => by cases hx), S2.out, OwnX.nil _ _, OwnX.nil _ _, G2.out⟩
  case round =>
    obtain ⟨k, r, rfl, hk, hk4, hrl, hlev, hs, ho, ho2, hbw⟩ := hrel
    rename World => wo
    have G := Lib.hid hbw
    have S := Lib.hid hs
    have O := Lib.hid ho
    have Q := Lib.hid ho2
    have LEV := Lib.hid hlev
    have HRL := Lib.hid hrl
    obtain ⟨A2, c2, e2, -⟩ := ho.rd
    subst e2
    obtain ⟨A9, c9, e9, -⟩ := ho2.rd
    rw [flat_len] at e9
    subst e9
    clear hbw hs ho ho2 hlev hrl S2 G2
    by_cases hlt : k < l.length ∧ k < 40
    · obtain ⟨hlt, hlt4⟩ := hlt
      have zl : decide ((k : Int) < (l.length : Int)) = true := by simp; omega
      have z4 : decide ((k : Int) < 40) = true := by simp; omega
      have hki : (k : Int) < (l.length : Int) := by omega
      have hw64 : IntKind.i64.wrap ((k : Int) + 1) = (k : Int) + 1 := by rw [IntKind.wrap_i64]; omega
      obtain ⟨x, hx⟩ : ∃ x, l[k] = x := ⟨_, rfl⟩
      have HX := Lib.hid (HO.out x (by rw [← hx]; exact List.getElem_mem hlt))
      obtain ⟨da, db, dc, ds⟩ := x
      have HXX := Lib.hid hx
      have HLT := Lib.hid hlt
      obtain ⟨gb, o, rfl, -, e0, e1, e2, e3⟩ := RdX.deed (HA.out.below G.out) k hlt hx
      have DO := Lib.hid (law_doesK (K.out.opsF (K.out.beside (.pointer (some ⟨g2, 0, none⟩)) (flatI r))) wo w.heap.size (.pointer (some ⟨g1, 0, none⟩)) (.slice A2 r.length c2) r ⟨da, db, dc, ds⟩ S.out O.out G.out.size (by omega) (by have := HRL.out; omega) HX.out)
      have HDL := Lib.hid (Nat.le_trans (do_len r ⟨da, db, dc, ds⟩) (Nat.succ_le_succ HRL.out))
      have LEV2 := Lib.hid (levs_do LEV.out ⟨da, db, dc, ds⟩)
      have FLT := Lib.hid (flat_do r da db dc ds)
      generalize doI r ⟨da, db, dc, ds⟩ = r2 at *
      have HX1 := Lib.hid (show OkDeedK ⟨da, 1, dc, ds⟩ from ⟨HX.out.kind, (⟨by decide, by decide⟩ : inK 1), HX.out.v, HX.out.key⟩)
      clear hx
      go_wp2_with fail
      refine DO.out.mono ?_
      rintro z w2 ⟨v2, rfl, hs2, ho2, hk2⟩
      have S := Lib.hid hs2
      have O := Lib.hid ho2
      have Q := Lib.hid (hk2.own Q.out K.out.item)
      have G := Lib.hid (G.out.trans hk2.below)
      obtain ⟨A3, c3, e3', -⟩ := ho2.rd
      subst e3'
      clear hs2 ho2 hk2 DO e0 e1 e2 e3
      obtain ⟨_, _, e4, -, e0, e1, e2, e3⟩ := RdX.deed (HA.out.below G.out) k HLT.out HXX.out
      cases e4
      have G4 := Lib.hid (alloc_below w2 (.cells #[.int .i64 da, .int .i64 1, .int .i64 dc, .string ds] 30))
      go_wp2_with fail
      generalize w2.alloc (.cells #[.int .i64 da, .int .i64 1, .int .i64 dc, .string ds] 30) = W4 at *
      have S := Lib.hid ((K.out.opsF (K.out.beside (.pointer (some ⟨g2, 0, none⟩)) (flatI r))).on S.out G4.out)
      have O := Lib.hid (O.out.on G4.out)
      have Q := Lib.hid (Q.out.on G4.out)
      have G := Lib.hid (G.out.trans (G4.out.mono G.out.size))
      have DO := Lib.hid (law_doesK (K.out.opsF (K.out.beside (.pointer (some ⟨g1, 0, none⟩)) r2)) W4 w.heap.size (.pointer (some ⟨g2, 0, none⟩)) (.slice A9 r.length c9) (flatI r) ⟨da, 1, dc, ds⟩ S.out.turn Q.out G.out.size (by omega) (by rw [flat_len]; have := HRL.out; omega) HX1.out)
      rw [FLT.out] at DO
      refine DO.out.mono ?_
      rintro z w5 ⟨v5, rfl, hs5, ho5, hk5⟩
      have S := Lib.hid hs5.turn
      have Q := Lib.hid ho5
      have O := Lib.hid (hk5.own O.out K.out.item)
      have G := Lib.hid (G.out.trans hk5.below)
      clear hs5 ho5 hk5 DO e0 e1 e2 e3
      go_wp2_with fail
      go_roundw
      case rel => exact ⟨k + 1, r2, by go_num, by omega, by omega, HDL.out, LEV2.out, S.out, O.out, Q.out, G.out⟩
      case measure => simp [intOf]; omega
    · have HL1 := Lib.hid (show r.length ≤ 1000 from by have := HRL.out; omega)
      have HF1 := Lib.hid (show (flatI r).length ≤ 1000 from by rw [flat_len]; exact HL1.out)
      have KA := Lib.hid (K.out.opsF (K.out.beside (m := k) (.pointer (some ⟨g2, 0, none⟩)) (flatI r)))
      have KB := Lib.hid (K.out.opsF (K.out.beside (m := k) (.pointer (some ⟨g1, 0, none⟩)) r))
      have FA := Lib.hid (fun w1 h1 h2 => KA.out.floor (n := k) w1 w.heap.size (.pointer (some ⟨g1, 0, none⟩)) r (fewK key) h1 h2 HL1.out FKS.out)
      have FB := Lib.hid (fun w1 h1 h2 => KB.out.floor (n := k) w1 w.heap.size (.pointer (some ⟨g2, 0, none⟩)) (flatI r) (fewK key) h1 h2 HF1.out FKS.out)
      rw [flat_floor] at FB
      have RA := Lib.hid (fun w1 h1 h2 => KA.out.row (n := k) w1 w.heap.size (.pointer (some ⟨g1, 0, none⟩)) r 1 h1 h2 HL1.out ⟨by decide, by decide⟩)
      have RB := Lib.hid (fun w1 h1 h2 => KB.out.row (n := k) w1 w.heap.size (.pointer (some ⟨g2, 0, none⟩)) (flatI r) 1 h1 h2 HF1.out ⟨by decide, by decide⟩)
      rw [flat_row LEV.out] at RB
      have LA := Lib.hid (fun w1 h1 h2 => KA.out.len (n := k) w1 w.heap.size (.pointer (some ⟨g1, 0, none⟩)) r h1 h2 HL1.out)
      have LB := Lib.hid (fun w1 h1 h2 => KB.out.len (n := k) w1 w.heap.size (.pointer (some ⟨g2, 0, none⟩)) (flatI r) h1 h2 HF1.out)
      rw [flat_len] at LB
      have HB := Lib.hid (fun w1 h1 h2 => KB.out.height (n := k) w1 w.heap.size (.pointer (some ⟨g2, 0, none⟩)) (flatI r) h1 h2 HF1.out)
      have hht := flat_height r
      have zh : decide (heightI (flatI r) ≤ 1) = true := by simp; exact hht
      have RRL := Lib.hid (show (rowI r 1).length ≤ 100000 from Nat.le_trans (by unfold rowI; rw [List.length_map]; exact List.length_filter_le _ _) (Nat.le_trans HL1.out (by decide)))
      generalize heightI (flatI r) = H at *
      generalize rowI r 1 = rr at *
      generalize floorI r (fewK key) = fl at *
      obtain ⟨fs, fb⟩ := fl
      simp only at FA FB
      have q1 : (fs.toList == fs.toList) = true := by simp
      have q2 : (fb == fb) = true := by simp
      have q3 : ((r.length : Int) == (r.length : Int)) = true := by simp
      have q4 : (r.length == r.length) = true := by simp
      by_cases hl1 : k < l.length
      case' pos =>
        have h40 : ¬ k < 40 := fun h => hlt ⟨hl1, h⟩
        have zl : decide ((k : Int) < (l.length : Int)) = true := by simp; omega
        have z40 : decide ((k : Int) < 40) = false := by rw [decide_eq_false_iff_not]; omega
      case' neg =>
        have zl : decide ((k : Int) < (l.length : Int)) = false := by rw [decide_eq_false_iff_not]; omega
      all_goals
        clear hht
        go_wp2_with fail
        refine (law_fewK _ _).mono ?_
        rintro z w2 ⟨rfl, rfl⟩
        go_wp2_with fail
        refine (FA.out _ S.out G.out.size).mono ?_
        rintro z w2 ⟨rfl, hb⟩
        have S := Lib.hid (KA.out.on S.out hb)
        have G := Lib.hid (G.out.trans (hb.mono G.out.size))
        clear hb FA
        go_wp2_with fail
        refine (law_fewK _ _).mono ?_
        rintro z w3 ⟨rfl, rfl⟩
        go_wp2_with fail
        refine (FB.out _ S.out.turn G.out.size).mono ?_
        rintro z w3 ⟨rfl, hb⟩
        have S := Lib.hid (KA.out.on S.out hb)
        have G := Lib.hid (G.out.trans (hb.mono G.out.size))
        clear hb FB
        go_wp2_with fail
        refine (RA.out _ S.out G.out.size).mono ?_
        rintro z w4 ⟨v4, rfl, ho4, hb⟩
        have O4 := Lib.hid ho4.rd
        have S := Lib.hid (KA.out.on S.out hb)
        have G := Lib.hid (G.out.trans (hb.mono G.out.size))
        clear hb RA ho4
        go_wp2_with fail
        refine (RB.out _ S.out.turn G.out.size).mono ?_
        rintro z w5 ⟨v5, rfl, ho5, hb⟩
        have O4 := Lib.hid (O4.out.on hb)
        have O5 := Lib.hid ho5.rd
        have S := Lib.hid (KA.out.on S.out hb)
        have G := Lib.hid (G.out.trans (hb.mono G.out.size))
        clear hb RB ho5
        go_wp2_with fail
        refine (ref_sameK _ _ _ _ _ O4.out O5.out RRL.out).mono ?_
        rintro z w6 ⟨rfl, hb⟩
        rw [same_selfL]
        have S := Lib.hid (KA.out.on S.out hb)
        have G := Lib.hid (G.out.trans (hb.mono G.out.size))
        clear hb
        go_wp2_with fail
        refine (LA.out _ S.out G.out.size).mono ?_
        rintro z w7 ⟨rfl, hb⟩
        have S := Lib.hid (KA.out.on S.out hb)
        have G := Lib.hid (G.out.trans (hb.mono G.out.size))
        clear hb LA
        go_wp2_with fail
        refine (LB.out _ S.out.turn G.out.size).mono ?_
        rintro z w8 ⟨rfl, hb⟩
        have S := Lib.hid (KA.out.on S.out hb)
        have G := Lib.hid (G.out.trans (hb.mono G.out.size))
        clear hb LB
        go_wp2_with fail
        refine (HB.out _ S.out.turn G.out.size).mono ?_
        rintro z w9 ⟨rfl, hb⟩
        have S := Lib.hid (KA.out.on S.out hb)
        have G := Lib.hid (G.out.trans (hb.mono G.out.size))
        clear hb HB
        go_wp2_with fail
        refine (LV.out _).mono ?_
        rintro z w10 ⟨rfl, hb⟩
        have G := Lib.hid (G.out.trans (hb.mono G.out.size))
        clear hb
        go_wp2_with fail
        go_ret
        exact ⟨rfl, G.out⟩
-- END
set_option maxRecDepth 100000 in
theorem lifted (os : Os) (started : os.Started) (H : Type) (enc : TypeId × Value → H) :
    ReturnsInHanded {} Try.checked os 5 .any (Rows.skipLevelsSpec.pre6 enc Try.prog Try.f5 Rows.skipLevelsRow.domain false) (Rows.skipLevelsSpec.post enc Try.prog Try.f5 false true false false) := by
  refine returnsInHanded_of_change (C := Try.checked) Try.own started (by kernel_rfl) Try.func5
    (ChangeSpec.witness6 (enc := enc) (C := Try.checked) false ⟨#[], #[.slice none 0 0, .string ⟨#[]⟩], []⟩ 8 (by kernel_rfl) (by kernel_rfl) (by kernel_rfl) (by kernel_rfl)) ?_
  intro W base args ds gs before hval0 hW _ _
  have hval : ∀ (j : Nat) t v, Try.f5.params[j]? = some t → args[j]? = some v → Value.okWide Try.prog W .any base t v := hval0
  have hW' := hW
  obtain ⟨p, q, hA0, hV, rfl, _, _⟩ := hW
  have hA : DataW.TrodAll enc Try.prog W 0 (fun _ => true) true Try.f5.params.toList args.toList ds p := hA0
  rw [Try.params5] at hA hval
  obtain ⟨v0, v1, d0, d1, p0, p1, rfl, rfl, rfl, h0, h1⟩ := trodAll_two hA
  obtain ⟨rfl, rfl⟩ := trodVars_none hV
  have hlt := fun x hx => hW'.lt x hx
  obtain ⟨a0, r0, b0⟩ := open_dks (hval 0 _ v0 rfl rfl) h0 (fun x hx => by simpa using hlt x (by simp [hx]))
  obtain ⟨a1, rfl, rfl, rfl, w1⟩ := ChangeMaps.open_string Try.underlying9 (hval 1 _ v1 rfl rfl) h1
  simp only [maxLen] at w1
  refine (walk0 skip_f v0 a0 a1 _ r0 b0).mono fun e W' ⟨he, hb⟩ => ⟨_, he, ?_⟩
  exact law_post Try.laidOut (by decide +kernel) rfl Try.underlying4 rfl hW' rfl hb

theorem holds : Rows.SkipLevelsSaid :=
  OpenClaim.holds_of_wide 5 Try.f5 rfl rfl rfl rfl rfl rfl rfl ⟨rfl, rfl, rfl, rfl, rfl⟩ rfl rfl rfl rfl rfl (by kernel_rfl) Try.func5 (by kernel_rfl)
    (of_decide_eq_true (by kernel_rfl)) (by unfold Func.isWrapper; first | (rw [if_pos (by decide +kernel)]; kernel_rfl) | (rw [if_neg (by decide +kernel)]; exact ⟨rfl, rfl⟩))
    (fun os started H enc _ => lifted os started H enc)
end Go.Proofs.Ytlihiojdjcmggaa.L03
