/- VaryRound: what is put is read: any two numbers from 0 to 2^62 - 1, any number that can be turned, any text (its first 100 bytes). No conditions. -/
import Derived.Test.YticfjpnocpcopaaVh
import Derived.ChangeMaps5
namespace Go.Proofs.Yticfjpnocpcopaa.L03
open Go.RowKit Go.ChangeShapes Go.WideShapes Go.ChangeAt
set_option linter.unusedVariables false

theorem mod_neg (A : Int) (h : A < 0) : ∃ a : Nat, (a : Int) = -(A + 1).tmod 4611686018427387904 ∧ a < 4611686018427387904 := by
  refine ⟨((-(A + 1)) % 4611686018427387904).toNat, ?_, by omega⟩
  rw [← Int.neg_tmod, Int.tmod_eq_emod_of_nonneg (by omega)]
  omega
theorem mod_pos (A : Int) (h : ¬ A < 0) : ∃ a : Nat, (a : Int) = A % 4611686018427387904 ∧ a < 4611686018427387904 := ⟨(A % 4611686018427387904).toNat, by omega, by omega⟩
theorem mod_any (C : Int) : ∃ c : Int, c = C.tmod 2305843009213693952 ∧ -2305843009213693952 ≤ c ∧ c ≤ 2305843009213693951 := by
  refine ⟨_, rfl, ?_⟩
  by_cases h : 0 ≤ C
  · rw [Int.tmod_eq_emod_of_nonneg h]; omega
  · have : C.tmod 2305843009213693952 = -((-C) % 2305843009213693952) := by
      rw [← Int.tmod_eq_emod_of_nonneg (by omega), Int.neg_tmod]; omega
    rw [this]; omega

/-- What stands behind a number's bytes. -/
theorem step_enc (n : Nat) (r : List UInt8) (h : n < 4611686018427387904) : stepN (encN n ++ r) 0 = (n, r, 0) := by
  unfold stepN
  rw [rdN_enc n r h, if_neg (by simp), if_neg (by simp)]
  simp
theorem text_enc (s : ByteArray) (r : List UInt8) (h : s.size ≤ 100) : stepT (encT s ++ r) 0 100 = (s.data.toList, r, 0) := by
  have hl : s.data.toList.length = s.size := by simp
  unfold stepT encT
  rw [List.append_assoc, step_enc s.size _ (by omega)]
  simp only
  rw [if_neg (by simp), if_neg (by omega), if_neg (by rw [List.length_append]; omega), ← hl]
  simp

theorem X_eq (a b : Nat) (t : Int) (s : ByteArray) : (([] ++ encNs [(a : Int), (b : Int)]) ++ encTs [s]) ++ encNs [t] = encN a ++ (encN b ++ (encT s ++ (encN t.toNat ++ []))) := by
  simp [encNs, encTs]
theorem X_len (a b : Nat) (t : Int) (s : ByteArray) (ha : a < 9223372036854775808) (hb : b < 9223372036854775808) (t1 : 0 ≤ t) (t2 : t < 9223372036854775808) (hs : s.size ≤ 100) :
    ((([] ++ encNs [(a : Int), (b : Int)]) ++ encTs [s]) ++ encNs [t]).length ≤ 1000 := by
  have h1 := encNs_len [(a : Int), (b : Int)] (by simp; omega)
  have h2 := encTs_len [s] (by simp; omega)
  have h3 := encNs_len [t] (by simp; omega)
  have h4 := encT_len s (by omega)
  have h5 : (encTs [s]).length = (encT s).length := by simp [encTs]
  simp only [List.length_append, List.length_nil, List.length_cons] at *
  omega
theorem put_len0 (a b : Nat) (ha : a < 9223372036854775808) (hb : b < 9223372036854775808) : (([] : List UInt8) ++ encNs [(a : Int), (b : Int)]).length ≤ 100 := by
  have h1 := encNs_len [(a : Int), (b : Int)] (by simp; omega)
  simp only [List.length_append, List.length_nil, List.length_cons] at *
  omega

set_option maxHeartbeats 4000000 in
set_option maxRecDepth 100000 in
theorem core (A B C : Int) (s0 : ByteArray) (w : World) (A1 : -9223372036854775808 ≤ A ∧ A ≤ 9223372036854775807) (B1 : -9223372036854775808 ≤ B ∧ B ≤ 9223372036854775807) (C1 : -9223372036854775808 ≤ C ∧ C ≤ 9223372036854775807) (hs0 : s0.size ≤ 9223372036854775807) :
    Calls Try.prog 5 #[.int .i64 A, .int .i64 B, .int .i64 C, .string s0] w fun e w' => e = .returned (.bool true) ∧ Below w.heap.size w w' := by
  have HC := mod_any C
  by_cases hA0 : A < 0 <;> by_cases hB0 : B < 0 <;> by_cases hs : 100 < s0.size
  all_goals
    first
      | have HA := Lib.hid (mod_neg A hA0)
      | have HA := Lib.hid (mod_pos A hA0)
    first
      | have HB := Lib.hid (mod_neg B hB0)
      | have HB := Lib.hid (mod_pos B hB0)
    obtain ⟨c, hc, hc1, hc2⟩ := HC
    have HC := Lib.hid hc
    clear hc
    go_enter Try.func5, Try.ntmps5
    go_wp2_with fail
    obtain ⟨a, ha, ha2⟩ := HA.out
    obtain ⟨b, hb, hbb⟩ := HB.out
    rw [← ha, ← hb, ← HC.out]
    clear ha hb HA HB HC
    first
      | (obtain ⟨s, hss⟩ : ∃ s, s = s0.extract 0 100 := ⟨_, rfl⟩
         have hs30 : s.size ≤ 100 := by rw [hss, ByteArray.size_extract]; omega
         have hs31 : 100 < s0.size := hs
         rw [← hss]
         clear hss)
      | (obtain ⟨s, rfl⟩ : ∃ s, s = s0 := ⟨_, rfl⟩
         have hs30 : s.size ≤ 100 := by omega)
    refine (put_lit _ [] [(a : Int), (b : Int)] _ 2 w rfl rfl (RdB.nil _ _) (by simp) (by simp; omega) (by simp)).mono ?_
    clear A1 B1 C1 hs0
    try clear hs31
    rintro e w1 ⟨v1, rfl, ho1, hb1⟩
    have R1 := Lib.hid ho1.rd
    have G := Lib.hid hb1
    have ht := turn_bd c
    have hbt := Lib.hid (back_turn c hc1 hc2)
    have HS1 := Lib.hid (show ∀ x ∈ [s], x.size ≤ 1000000 from by simp; omega)
    have hX := X_eq a b (turnI c) s
    have hlen := X_len a b (turnI c) s (by omega) (by omega) (by omega) (by omega) hs30
    obtain ⟨t, htt⟩ : ∃ t : Nat, turnI c = (t : Int) := ⟨(turnI c).toNat, by omega⟩
    have HT := Lib.hid htt
    rw [htt] at hX hlen hbt ht
    rw [Int.toNat_natCast] at hX
    have hp0 := put_len0 a b (by omega) (by omega)
    clear ho1 hb1 htt
    go_wp2_with fail
    refine (vary_text _ _ _ [s] _ (R1.out.on (alloc_below w1 _)) (RdV.lit w1 _ _ [s] 1 _ rfl rfl (by simp) (by simp)) (by omega) HS1.out (by simp)).mono ?_
    rintro e w2 ⟨v2, rfl, ho2, hb2⟩
    have hb2 := (alloc_below w1 _).trans (hb2.mono (by simp))
    have R2 := Lib.hid ho2.rd
    have G := Lib.hid (G.out.trans (hb2.mono G.out.size))
    clear ho2 hb2
    go_wp2_with fail
    refine (vary_turn c _ (by omega) (by omega)).mono ?_
    rintro e w3 ⟨rfl, rfl⟩
    rw [HT.out]
    go_wp2_with fail
    refine (vary_put _ _ _ [(t : Int)] _ (R2.out.on (alloc_below w2 _)) (RdV.lit w2 _ _ [(t : Int)] 1 _ rfl rfl (by simp) (by simp)) (by rw [List.length_append] at hlen; omega) (by simp; omega) (by simp)).mono ?_
    rintro e w4 ⟨v4, rfl, ho4, hb4⟩
    have hb4 := (alloc_below w2 _).trans (hb4.mono (by simp))
    have R4 := Lib.hid (show RdB w4 w4.heap.size v4 (encN a ++ (encN b ++ (encT s ++ (encN t ++ [])))) from by rw [← hX]; exact ho4.rd)
    have G := Lib.hid (G.out.trans (hb4.mono G.out.size))
    have hl4 := Lib.hid hlen
    rw [hX] at hl4
    clear ho4 hb4 hX hlen R1 R2
    go_wp2_with fail
    refine (vary_read _ _ _ R4.out (by have := hl4.out; omega)).mono ?_
    rintro e w5 ⟨p, g, rfl, hr5, hb5⟩
    have Q := Lib.hid hr5
    have hg := hr5.from'
    have hgw : w.heap.size ≤ g := Nat.le_trans G.out.size hg
    have G := Lib.hid (G.out.trans (hb5.mono G.out.size))
    obtain ⟨rfl, -⟩ := hr5
    clear hb5 R4
    have hl5 := hl4.out
    simp only [List.length_append] at hl5
    go_wp2_with fail
    refine (number_any w5 _ g _ _ 0 Q.out (by simp only [List.length_append]; omega)).mono ?_
    rw [step_enc a _ ha2]
    rintro e w6 ⟨rfl, hr6, hb6⟩
    have Q := Lib.hid hr6
    have G := Lib.hid (G.out.trans (grown_below hb6 hgw G.out.size))
    clear hr6 hb6
    go_wp2_with fail
    refine (number_any w6 _ g _ _ 0 Q.out (by simp only [List.length_append]; omega)).mono ?_
    rw [step_enc b _ hbb]
    rintro e w7 ⟨rfl, hr7, hb7⟩
    have Q := Lib.hid hr7
    have G := Lib.hid (G.out.trans (grown_below hb7 hgw G.out.size))
    clear hr7 hb7
    go_wp2_with fail
    refine (text_any w7 _ g _ _ 0 100 Q.out (by simp only [List.length_append]; omega) (by omega)).mono ?_
    rw [text_enc s _ hs30]
    rintro e w8 ⟨rfl, hr8, hb8⟩
    have Q := Lib.hid hr8
    have G := Lib.hid (G.out.trans (grown_below hb8 hgw G.out.size))
    clear hr8 hb8
    go_wp2_with fail
    refine (turned_any w8 _ g _ _ 0 Q.out (by simp only [List.length_append]; omega)).mono ?_
    rw [step_enc t _ (by omega), hbt.out]
    rintro e w9 ⟨rfl, hr9, hb9⟩
    have Q := Lib.hid hr9
    have G := Lib.hid (G.out.trans (grown_below hb9 hgw G.out.size))
    clear hr9 hb9
    go_wp2_with fail
    refine (rest_any w9 _ g _ _ 0 Q.out).mono ?_
    rintro e x9 ⟨rfl, rfl⟩
    go_wp2_with fail
    refine (err_any w9 _ g _ _ 0 Q.out).mono ?_
    rintro e x9 ⟨rfl, rfl⟩
    go_wp2_with fail
    refine (lives_any _).mono ?_
    rintro e w10 ⟨rfl, hb10⟩
    have G := Lib.hid (G.out.trans (hb10.mono G.out.size))
    clear hb10
    go_wp2_with fail
    go_ret
    exact ⟨rfl, G.out⟩
-- END
set_option maxRecDepth 100000 in
theorem lifted (os : Os) (started : os.Started) (H : Type) (enc : TypeId × Value → H) :
    ReturnsInHanded {} Try.checked os 5 .any (Rows.varyRoundSpec.pre6 enc Try.prog Try.f5 Rows.varyRoundRow.domain false) (Rows.varyRoundSpec.post enc Try.prog Try.f5 false true false false) := by
  refine returnsInHanded_of_change (C := Try.checked) Try.own started (by kernel_rfl) Try.func5
    (ChangeSpec.witness6 (enc := enc) (C := Try.checked) false ⟨#[], #[.int .i64 0, .int .i64 0, .int .i64 0, .string ⟨#[]⟩], []⟩ 8 (by kernel_rfl) (by kernel_rfl) (by kernel_rfl) (by kernel_rfl)) ?_
  intro W base args ds gs before hval0 hW _ _
  have hval : ∀ (j : Nat) t v, Try.f5.params[j]? = some t → args[j]? = some v → Value.okWide Try.prog W .any base t v := hval0
  have hW' := hW
  obtain ⟨p, q, hA0, hV, rfl, _, _⟩ := hW
  have hA : DataW.TrodAll enc Try.prog W 0 (fun _ => true) true Try.f5.params.toList args.toList ds p := hA0
  rw [Try.params5] at hA hval
  obtain ⟨v0, v1, v2, v3, d0, d1, d2, d3, p0, p1, p2, p3, rfl, rfl, rfl, h0, h1, h2, h3⟩ := trodAll_four hA
  obtain ⟨rfl, rfl⟩ := trodVars_none hV
  obtain ⟨a0, rfl, rfl, rfl, w0⟩ := open_int Try.underlying3 (hval 0 _ v0 rfl rfl) h0
  have w0 := wf_int w0
  obtain ⟨a1, rfl, rfl, rfl, w1⟩ := open_int Try.underlying3 (hval 1 _ v1 rfl rfl) h1
  have w1 := wf_int w1
  obtain ⟨a2, rfl, rfl, rfl, w2⟩ := open_int Try.underlying3 (hval 2 _ v2 rfl rfl) h2
  have w2 := wf_int w2
  obtain ⟨a3, rfl, rfl, rfl, w3⟩ := ChangeMaps.open_string Try.underlying9 (hval 3 _ v3 rfl rfl) h3
  simp only [maxLen] at w3
  refine (core a0 a1 a2 a3 W w0 w1 w2 (by omega)).mono fun e W' ⟨he, hb⟩ => ⟨_, he, ?_⟩
  exact law_post Try.laidOut (by decide +kernel) rfl Try.underlying4 rfl hW' rfl hb

theorem holds : Rows.VaryRoundSaid :=
  OpenClaim.holds_of_wide 5 Try.f5 rfl rfl rfl rfl rfl rfl rfl ⟨rfl, rfl, rfl, rfl, rfl⟩ rfl rfl rfl rfl rfl (by kernel_rfl) Try.func5 (by kernel_rfl)
    (of_decide_eq_true (by kernel_rfl)) (by unfold Func.isWrapper; first | (rw [if_pos (by decide +kernel)]; kernel_rfl) | (rw [if_neg (by decide +kernel)]; exact ⟨rfl, rfl⟩))
    (fun os started H enc _ => lifted os started H enc)
end Go.Proofs.Yticfjpnocpcopaa.L03
