/- Layer 8: a block out of versions, by the document, as far as the laws ask. -/
import Derived.Test.YtefjdmlmmoeoaaaTc
namespace Go.Proofs.Ytefjdmlmmoeoaaa
open Go.RowKit
set_option linter.unusedVariables false

theorem okTo_snoc {acc : List Ver} {p : Ver} (h : okTo acc acc.length = true) (hm : mayV p = true) (hl : acc.length = 0 ∨ lessV (acc.getD (acc.length - 1) zeroV) p = true) : okTo (acc ++ [p]) (acc ++ [p]).length = true := by
  have hg : ∀ i, i < acc.length → (acc ++ [p]).getD i zeroV = acc.getD i zeroV := fun i hi => by
    rw [List.getD_eq_getElem?_getD, List.getD_eq_getElem?_getD, List.getElem?_append_left hi]
  have hp : (acc ++ [p]).getD acc.length zeroV = p := by rw [List.getD_eq_getElem?_getD, List.getElem?_concat_length]; rfl
  rw [List.length_append, List.length_singleton, okTo_succ, Bool.and_eq_true]
  constructor
  · unfold okTo at *
    rw [List.all_eq_true] at *
    intro i hi
    have := h i hi
    rw [List.mem_range] at hi
    unfold okAt at *
    rw [hg i hi]
    by_cases h0 : i = 0
    · subst h0; simpa using this
    · rw [hg (i - 1) (by omega)]; exact this
  · unfold okAt
    rw [hp, hm, Bool.true_and]
    rcases hl with h0 | h0
    · simp [h0]
    · by_cases hz : acc.length = 0
      · simp [hz]
      · rw [hg (acc.length - 1) (by omega), h0, Bool.or_true]

set_option maxHeartbeats 8000000 in
set_option maxRecDepth 100000 in
/-- Versions that may be, each behind the one ahead. -/
theorem ref8_block (va : Value) (l : List Ver) (most : Int) (w : World) (ha : RdVr w w.heap.size va l) (hm : 0 ≤ most ∧ most ≤ 1000) :
    Calls Try.prog 9 #[va, .int .i64 most] w fun e w' => ∃ v' own, e = .returned v' ∧ OwnVr w' w.heap.size v' own ∧ (own.length : Int) ≤ most ∧ okTo own own.length = true ∧ Below w.heap.size w w' := by
  have HA := Lib.hid ha
  obtain ⟨A, ca, rfl, hla, hca, -⟩ := ha
  go_enter Try.func9, Try.ntmps9
  go_wp2_with fail
  refine (ref6_good _ l most _ HA.out hm).mono ?_
  rintro e w1 ⟨v1, s1, rfl, ho1, hs1, hm1, hb1⟩
  have S1 := Lib.hid ho1
  have G1 := Lib.hid hb1
  clear ho1 hb1
  go_wp2_with fail
  refine (ref6_sorted _ s1 _ S1.out.rd (by omega)).mono ?_
  rintro e w2 ⟨v2, s, rfl, ho2, hs2, hm2, hb2⟩
  have HS := Lib.hid ho2.rd
  have HMS := Lib.hid (show ∀ x ∈ s, mayV x = true from fun x hx => hm1 x (hm2 x hx))
  have HSL := Lib.hid (show (s.length : Int) ≤ most ∧ s.length ≤ 1000 from by omega)
  have G2 := Lib.hid (G1.out.trans (hb2.mono G1.out.size))
  obtain ⟨SA, sc, es, -⟩ := ho2.rd
  subst es
  clear ho2 hb2 hs1 hm1 hs2 hm2
  go_wp2_with fail
  go_loopw [6, 7] (fun x i wr => ∃ (k : Nat) (acc : List Ver), i = .int .i64 k ∧ k ≤ s.length ∧ OwnVr wr w2.heap.size x acc ∧ acc.length ≤ k ∧ okTo acc acc.length = true ∧ Below w2.heap.size w2 wr) (fun _ i _ => s.length - (intOf i).toNat)
  case atStart => exact ⟨0, [], rfl, Nat.zero_le _, OwnX.nil _ _, by simp, rfl, Below.refl _ _⟩
  case round =>
    obtain ⟨k, acc, rfl, hk, ho, hal, hok, hbw⟩ := hrel
    have O := Lib.hid ho
    have HAL := Lib.hid hal
    have OK := Lib.hid hok
    have G := Lib.hid hbw
    obtain ⟨OA, oc, eo, -⟩ := ho.rd
    subst eo
    clear ho hal hok hbw
    by_cases hlt : k < s.length
    · have zl : decide ((k : Int) < (s.length : Int)) = true := by simp; omega
      have hk2 : k < 1000 := by have := HSL.out; omega
      obtain ⟨b, o, rfl, hbb, -⟩ := RdVr.here HS.out k hlt
      obtain ⟨p, hp⟩ : ∃ p, s[k] = p := ⟨_, rfl⟩
      have hmp := HMS.out s[k] (List.getElem_mem hlt)
      rw [hp] at hmp
      obtain ⟨kk, bb, ee, ss, ⟨xx, yy⟩, uu, gg⟩ := p
      have PP := Lib.hid hp
      have MP := Lib.hid hmp
      clear hp hbb hmp
      by_cases h0 : acc.length = 0
      · obtain rfl : acc = [] := List.eq_nil_of_length_eq_zero h0
        go_wp2_with fail
        go_quiet (fail)
        obtain ⟨-, e0, e1, e2, e3, e4, e5, e6, e7⟩ := RdVr.cells1 (HS.out.below (G.out.drewN nq)) k hlt PP.out
        have G0 := Lib.hid (G.out.drewN nq)
        have hal1 := Lib.hid (show ([] : List Ver).length + 1 ≤ 1000000000 from by have := HAL.out; have := HSL.out; omega)
        have hsz := Lib.hid G0.out.size
        go_wp2_with (at_builtin; go_loud (refine wpl_appX rfl (.tmp 34) (.tmp 39) rfl Try.underlying22 ver_info rfl w2.heap.size _ [] [(⟨kk, bb, ee, ss, (xx, yy), uu, gg⟩ : Ver)] _ _ _ rfl rfl rfl rfl (show OwnVr (wr.drewN nq) w2.heap.size _ [] from O.out) hsz.out hal1.out (by decide) ?_); intro v3 w5 ho3 hg3 hb5)
        have O5 := Lib.hid ho3
        have GS := Lib.hid (G0.out.trans hb5)
        have HAL5 := Lib.hid (show ([] ++ [(⟨kk, bb, ee, ss, (xx, yy), uu, gg⟩ : Ver)]).length ≤ k + 1 from by rw [List.length_append, List.length_singleton]; have := HAL.out; omega)
        have OK5 := Lib.hid (okTo_snoc OK.out MP.out (.inl rfl))
        clear ho3 hg3 hb5
        go_roundw
        case rel => exact ⟨k + 1, _, by go_num, by omega, O5.out, HAL5.out, OK5.out, GS.out⟩
        case measure => simp [intOf]; omega
      · have z0 : ((acc.length : Int) == 0) = false := by rw [beq_eq_false_iff_ne]; omega
        have hj1 : acc.length - 1 < acc.length := by omega
        have hsub : (acc.length : Int) - 1 = ((acc.length - 1 : Nat) : Int) := by omega
        have hw64 : IntKind.i64.wrap ((acc.length - 1 : Nat) : Int) = ((acc.length - 1 : Nat) : Int) := by rw [IntKind.wrap_i64]; have := HAL.out; have := HSL.out; omega
        have hi1 : ((acc.length - 1 : Nat) : Int) < (acc.length : Int) := by omega
        obtain ⟨-, c0, c1, c2, c3, c4, c5, c6, c7⟩ := RdVr.cells1 (HS.out.below G.out) k hlt PP.out
        obtain ⟨b', o', rfl, hbb', d0, d1, d2, d3, d4, d5, d6, d7⟩ := RdVr.here O.out.rd (acc.length - 1) hj1
        have LS := Lib.hid (fun w => ref6_less acc[acc.length - 1] ⟨kk, bb, ee, ss, (xx, yy), uu, gg⟩ w)
        have LSG := Lib.hid (show acc.getD (acc.length - 1) zeroV = acc[acc.length - 1] from getD_at hj1)
        have H0 := Lib.hid h0
        clear h0
        generalize acc[acc.length - 1] = q at *
        obtain ⟨kk', bb', ee', ss', ⟨xx', yy'⟩, uu', gg'⟩ := q
        unfold verV at LS
        simp only at LS c0 c1 c2 c3 c4 c5 c6 c7 d0 d1 d2 d3 d4 d5 d6 d7
        cases hls : lessV ⟨kk', bb', ee', ss', (xx', yy'), uu', gg'⟩ ⟨kk, bb, ee, ss, (xx, yy), uu, gg⟩
        · rw [hls] at LS
          clear hls
          go_wp2_with fail
          have HI : (fun W => W = wr.drew) wr.drew := rfl
          refine regk_start [14] (fun W => W = wr.drew) (by kernel_rfl) ?_
          refine regk_free 0 18 (v := ?_) (T' := ?_) (fun _ => HI) (by kernel_rfl) (by kernel_rfl) (by kernel_rfl) (by kernel_rfl) (fun _ _ _ h => h) (fun o ho => ?_) ?_ ?_
          rotate_left 2
          · cases ho
            refine ⟨rfl, rfl, fun W => ?_⟩
            go_simp; (try with_reducible rfl)
          · simp only [List.setIfInBounds_toArray, List.set_cons_succ, List.set_cons_zero]; exact rfl
          refine regk_free 1 19 (v := ?_) (T' := ?_) (fun _ => HI) (by kernel_rfl) (by kernel_rfl) (by kernel_rfl) (by kernel_rfl) (fun _ _ _ h => h) (fun o ho => ?_) ?_ ?_
          rotate_left 2
          · cases ho
            refine ⟨rfl, rfl, fun W => ?_⟩
            go_simp; (try with_reducible rfl)
          · simp only [List.setIfInBounds_toArray, List.set_cons_succ, List.set_cons_zero]; exact rfl
          refine regk_free 2 20 (v := ?_) (T' := ?_) (fun _ => HI) (by kernel_rfl) (by kernel_rfl) (by kernel_rfl) (by kernel_rfl) (fun _ _ _ h => h) (fun o ho => ?_) ?_ ?_
          rotate_left 2
          · cases ho
            refine ⟨rfl, rfl, fun W => ?_⟩
            go_simp; (try with_reducible rfl)
          · simp only [List.setIfInBounds_toArray, List.set_cons_succ, List.set_cons_zero]; exact rfl
          refine regk_free 3 21 (v := ?_) (T' := ?_) (fun _ => HI) (by kernel_rfl) (by kernel_rfl) (by kernel_rfl) (by kernel_rfl) (fun _ _ _ h => h) (fun o ho => ?_) ?_ ?_
          rotate_left 2
          · cases ho
            refine ⟨rfl, rfl, fun W => ?_⟩
            go_simp; (try with_reducible rfl)
          · simp only [List.setIfInBounds_toArray, List.set_cons_succ, List.set_cons_zero]; exact rfl
          refine regk_free 4 22 (v := ?_) (T' := ?_) (fun _ => HI) (by kernel_rfl) (by kernel_rfl) (by kernel_rfl) (by kernel_rfl) (fun _ _ _ h => h) (fun o ho => ?_) ?_ ?_
          rotate_left 2
          · cases ho
            refine ⟨rfl, rfl, fun W => ?_⟩
            go_simp; (try with_reducible rfl)
          · simp only [List.setIfInBounds_toArray, List.set_cons_succ, List.set_cons_zero]; exact rfl
          refine regk_free 5 23 (v := ?_) (T' := ?_) (fun _ => HI) (by kernel_rfl) (by kernel_rfl) (by kernel_rfl) (by kernel_rfl) (fun _ _ _ h => h) (fun o ho => ?_) ?_ ?_
          rotate_left 2
          · cases ho
            refine ⟨rfl, rfl, fun W => ?_⟩
            go_simp; (try with_reducible rfl)
          · simp only [List.setIfInBounds_toArray, List.set_cons_succ, List.set_cons_zero]; exact rfl
          refine regk_free 6 24 (v := ?_) (T' := ?_) (fun _ => HI) (by kernel_rfl) (by kernel_rfl) (by kernel_rfl) (by kernel_rfl) (fun _ _ _ h => h) (fun o ho => ?_) ?_ ?_
          rotate_left 2
          · cases ho
            refine ⟨rfl, rfl, fun W => ?_⟩
            go_simp; (try with_reducible rfl)
          · simp only [List.setIfInBounds_toArray, List.set_cons_succ, List.set_cons_zero]; exact rfl
          refine regk_free 7 25 (v := ?_) (T' := ?_) (fun _ => HI) (by kernel_rfl) (by kernel_rfl) (by kernel_rfl) (by kernel_rfl) (fun _ _ _ h => h) (fun o ho => ?_) ?_ ?_
          rotate_left 2
          · cases ho
            refine ⟨rfl, rfl, fun W => ?_⟩
            go_simp; (try with_reducible rfl)
          · simp only [List.setIfInBounds_toArray, List.set_cons_succ, List.set_cons_zero]; exact rfl
          refine regk_free 8 26 (v := ?_) (T' := ?_) (fun _ => HI) (by kernel_rfl) (by kernel_rfl) (by kernel_rfl) (by kernel_rfl) (fun _ _ _ h => h) (fun o ho => ?_) ?_ ?_
          rotate_left 2
          · cases ho
            refine ⟨rfl, rfl, fun W => ?_⟩
            go_simp; (try with_reducible rfl)
          · simp only [List.setIfInBounds_toArray, List.set_cons_succ, List.set_cons_zero]; exact rfl
          refine regk_take 9 27 (v := ?_) (T' := ?_) HI (by kernel_rfl) (by kernel_rfl) (by kernel_rfl) (by kernel_rfl) (by kernel_rfl) (by kernel_rfl) (fun _ _ _ h => h) (fun o ho => ?_) ?_ ?_
          rotate_left 2
          · cases ho
            refine ⟨rfl, rfl, fun W hW => ?_⟩
            have hW := (show W = _ from hW); subst hW; go_simp; (try with_reducible rfl)
          · simp only [List.setIfInBounds_toArray, List.set_cons_succ, List.set_cons_zero]; exact rfl
          refine regk_free 10 28 (v := ?_) (T' := ?_) (fun _ => HI) (by kernel_rfl) (by kernel_rfl) (by kernel_rfl) (by kernel_rfl) (fun _ _ _ h => h) (fun o ho => ?_) ?_ ?_
          rotate_left 2
          · cases ho
            refine ⟨rfl, rfl, fun W => ?_⟩
            go_simp; (try with_reducible rfl)
          · simp only [List.setIfInBounds_toArray, List.set_cons_succ, List.set_cons_zero]; exact rfl
          refine regk_free 11 29 (v := ?_) (T' := ?_) (fun _ => HI) (by kernel_rfl) (by kernel_rfl) (by kernel_rfl) (by kernel_rfl) (fun _ _ _ h => h) (fun o ho => ?_) ?_ ?_
          rotate_left 2
          · cases ho
            refine ⟨rfl, rfl, fun W => ?_⟩
            go_simp; (try with_reducible rfl)
          · simp only [List.setIfInBounds_toArray, List.set_cons_succ, List.set_cons_zero]; exact rfl
          refine regk_free 12 30 (v := ?_) (T' := ?_) (fun _ => HI) (by kernel_rfl) (by kernel_rfl) (by kernel_rfl) (by kernel_rfl) (fun _ _ _ h => h) (fun o ho => ?_) ?_ ?_
          rotate_left 2
          · cases ho
            refine ⟨rfl, rfl, fun W => ?_⟩
            go_simp; (try with_reducible rfl)
          · simp only [List.setIfInBounds_toArray, List.set_cons_succ, List.set_cons_zero]; exact rfl
          refine regk_take 13 31 (v := ?_) (T' := ?_) HI (by kernel_rfl) (by kernel_rfl) (by kernel_rfl) (by kernel_rfl) (by kernel_rfl) (by kernel_rfl) (fun _ _ _ h => h) (fun o ho => ?_) ?_ ?_
          rotate_left 2
          · cases ho
            refine ⟨rfl, rfl, fun W hW => ?_⟩
            have hW := (show W = _ from hW); subst hW; go_simp; (try with_reducible rfl)
          · simp only [List.setIfInBounds_toArray, List.set_cons_succ, List.set_cons_zero]; exact rfl
          refine regk_call (I' := (fun W => W = wr.drew)) (fun _ h => h) 14 32 (by kernel_rfl) 27 #[.agg #[.string kk', .int .i64 bb', .int .i64 ee', .int .i64 ss', .int .i64 xx', .int .i64 yy', .string uu', .bool gg'], .agg #[.string kk, .int .i64 bb, .int .i64 ee, .int .i64 ss, .int .i64 xx, .int .i64 yy, .string uu, .bool gg]] (fun o ho => by cases ho; exact ⟨rfl, rfl, fun W => by go_simp⟩) ?_
          refine (LS.out _).mono ?_
          rintro e w3 ⟨rfl, hb3⟩
          have G3 := Lib.hid (G.out.drew.trans (hb3.mono G.out.size))
          have O3 := Lib.hid ((show OwnVr wr.drew w2.heap.size _ acc from O.out).on hb3)
          clear hb3
          refine ⟨_, _, rfl, noB_no (by kernel_rfl), (by simp only [List.setIfInBounds_toArray, List.set_cons_succ, List.set_cons_zero]; exact rfl), ?_⟩
          refine regk_free 15 33 (v := ?_) (T' := ?_) (noB_no (by kernel_rfl)) (by kernel_rfl) (by kernel_rfl) (by kernel_rfl) (by kernel_rfl) (fun _ _ _ h => h) (fun o ho => ?_) ?_ ?_
          rotate_left 2
          · cases ho
            refine ⟨rfl, rfl, fun W => ?_⟩
            go_simp; (try with_reducible rfl)
          · simp only [List.setIfInBounds_toArray, List.set_cons_succ, List.set_cons_zero]; exact rfl
          refine regk_done (by kernel_rfl) ?_
          go_wp2_with fail
          go_roundw
          case rel => exact ⟨k + 1, acc, by go_num, by omega, O3.out, by have := HAL.out; omega, OK.out, G3.out⟩
          case measure => simp [intOf]; omega
        · rw [hls] at LS
          have HLS := Lib.hid hls
          clear hls
          go_wp2_with fail
          have HI : (fun W => W = wr.drew) wr.drew := rfl
          refine regk_start [14] (fun W => W = wr.drew) (by kernel_rfl) ?_
          refine regk_free 0 18 (v := ?_) (T' := ?_) (fun _ => HI) (by kernel_rfl) (by kernel_rfl) (by kernel_rfl) (by kernel_rfl) (fun _ _ _ h => h) (fun o ho => ?_) ?_ ?_
          rotate_left 2
          · cases ho
            refine ⟨rfl, rfl, fun W => ?_⟩
            go_simp; (try with_reducible rfl)
          · simp only [List.setIfInBounds_toArray, List.set_cons_succ, List.set_cons_zero]; exact rfl
          refine regk_free 1 19 (v := ?_) (T' := ?_) (fun _ => HI) (by kernel_rfl) (by kernel_rfl) (by kernel_rfl) (by kernel_rfl) (fun _ _ _ h => h) (fun o ho => ?_) ?_ ?_
          rotate_left 2
          · cases ho
            refine ⟨rfl, rfl, fun W => ?_⟩
            go_simp; (try with_reducible rfl)
          · simp only [List.setIfInBounds_toArray, List.set_cons_succ, List.set_cons_zero]; exact rfl
          refine regk_free 2 20 (v := ?_) (T' := ?_) (fun _ => HI) (by kernel_rfl) (by kernel_rfl) (by kernel_rfl) (by kernel_rfl) (fun _ _ _ h => h) (fun o ho => ?_) ?_ ?_
          rotate_left 2
          · cases ho
            refine ⟨rfl, rfl, fun W => ?_⟩
            go_simp; (try with_reducible rfl)
          · simp only [List.setIfInBounds_toArray, List.set_cons_succ, List.set_cons_zero]; exact rfl
          refine regk_free 3 21 (v := ?_) (T' := ?_) (fun _ => HI) (by kernel_rfl) (by kernel_rfl) (by kernel_rfl) (by kernel_rfl) (fun _ _ _ h => h) (fun o ho => ?_) ?_ ?_
          rotate_left 2
          · cases ho
            refine ⟨rfl, rfl, fun W => ?_⟩
            go_simp; (try with_reducible rfl)
          · simp only [List.setIfInBounds_toArray, List.set_cons_succ, List.set_cons_zero]; exact rfl
          refine regk_free 4 22 (v := ?_) (T' := ?_) (fun _ => HI) (by kernel_rfl) (by kernel_rfl) (by kernel_rfl) (by kernel_rfl) (fun _ _ _ h => h) (fun o ho => ?_) ?_ ?_
          rotate_left 2
          · cases ho
            refine ⟨rfl, rfl, fun W => ?_⟩
            go_simp; (try with_reducible rfl)
          · simp only [List.setIfInBounds_toArray, List.set_cons_succ, List.set_cons_zero]; exact rfl
          refine regk_free 5 23 (v := ?_) (T' := ?_) (fun _ => HI) (by kernel_rfl) (by kernel_rfl) (by kernel_rfl) (by kernel_rfl) (fun _ _ _ h => h) (fun o ho => ?_) ?_ ?_
          rotate_left 2
          · cases ho
            refine ⟨rfl, rfl, fun W => ?_⟩
            go_simp; (try with_reducible rfl)
          · simp only [List.setIfInBounds_toArray, List.set_cons_succ, List.set_cons_zero]; exact rfl
          refine regk_free 6 24 (v := ?_) (T' := ?_) (fun _ => HI) (by kernel_rfl) (by kernel_rfl) (by kernel_rfl) (by kernel_rfl) (fun _ _ _ h => h) (fun o ho => ?_) ?_ ?_
          rotate_left 2
          · cases ho
            refine ⟨rfl, rfl, fun W => ?_⟩
            go_simp; (try with_reducible rfl)
          · simp only [List.setIfInBounds_toArray, List.set_cons_succ, List.set_cons_zero]; exact rfl
          refine regk_free 7 25 (v := ?_) (T' := ?_) (fun _ => HI) (by kernel_rfl) (by kernel_rfl) (by kernel_rfl) (by kernel_rfl) (fun _ _ _ h => h) (fun o ho => ?_) ?_ ?_
          rotate_left 2
          · cases ho
            refine ⟨rfl, rfl, fun W => ?_⟩
            go_simp; (try with_reducible rfl)
          · simp only [List.setIfInBounds_toArray, List.set_cons_succ, List.set_cons_zero]; exact rfl
          refine regk_free 8 26 (v := ?_) (T' := ?_) (fun _ => HI) (by kernel_rfl) (by kernel_rfl) (by kernel_rfl) (by kernel_rfl) (fun _ _ _ h => h) (fun o ho => ?_) ?_ ?_
          rotate_left 2
          · cases ho
            refine ⟨rfl, rfl, fun W => ?_⟩
            go_simp; (try with_reducible rfl)
          · simp only [List.setIfInBounds_toArray, List.set_cons_succ, List.set_cons_zero]; exact rfl
          refine regk_take 9 27 (v := ?_) (T' := ?_) HI (by kernel_rfl) (by kernel_rfl) (by kernel_rfl) (by kernel_rfl) (by kernel_rfl) (by kernel_rfl) (fun _ _ _ h => h) (fun o ho => ?_) ?_ ?_
          rotate_left 2
          · cases ho
            refine ⟨rfl, rfl, fun W hW => ?_⟩
            have hW := (show W = _ from hW); subst hW; go_simp; (try with_reducible rfl)
          · simp only [List.setIfInBounds_toArray, List.set_cons_succ, List.set_cons_zero]; exact rfl
          refine regk_free 10 28 (v := ?_) (T' := ?_) (fun _ => HI) (by kernel_rfl) (by kernel_rfl) (by kernel_rfl) (by kernel_rfl) (fun _ _ _ h => h) (fun o ho => ?_) ?_ ?_
          rotate_left 2
          · cases ho
            refine ⟨rfl, rfl, fun W => ?_⟩
            go_simp; (try with_reducible rfl)
          · simp only [List.setIfInBounds_toArray, List.set_cons_succ, List.set_cons_zero]; exact rfl
          refine regk_free 11 29 (v := ?_) (T' := ?_) (fun _ => HI) (by kernel_rfl) (by kernel_rfl) (by kernel_rfl) (by kernel_rfl) (fun _ _ _ h => h) (fun o ho => ?_) ?_ ?_
          rotate_left 2
          · cases ho
            refine ⟨rfl, rfl, fun W => ?_⟩
            go_simp; (try with_reducible rfl)
          · simp only [List.setIfInBounds_toArray, List.set_cons_succ, List.set_cons_zero]; exact rfl
          refine regk_free 12 30 (v := ?_) (T' := ?_) (fun _ => HI) (by kernel_rfl) (by kernel_rfl) (by kernel_rfl) (by kernel_rfl) (fun _ _ _ h => h) (fun o ho => ?_) ?_ ?_
          rotate_left 2
          · cases ho
            refine ⟨rfl, rfl, fun W => ?_⟩
            go_simp; (try with_reducible rfl)
          · simp only [List.setIfInBounds_toArray, List.set_cons_succ, List.set_cons_zero]; exact rfl
          refine regk_take 13 31 (v := ?_) (T' := ?_) HI (by kernel_rfl) (by kernel_rfl) (by kernel_rfl) (by kernel_rfl) (by kernel_rfl) (by kernel_rfl) (fun _ _ _ h => h) (fun o ho => ?_) ?_ ?_
          rotate_left 2
          · cases ho
            refine ⟨rfl, rfl, fun W hW => ?_⟩
            have hW := (show W = _ from hW); subst hW; go_simp; (try with_reducible rfl)
          · simp only [List.setIfInBounds_toArray, List.set_cons_succ, List.set_cons_zero]; exact rfl
          refine regk_call (I' := (fun W => W = wr.drew)) (fun _ h => h) 14 32 (by kernel_rfl) 27 #[.agg #[.string kk', .int .i64 bb', .int .i64 ee', .int .i64 ss', .int .i64 xx', .int .i64 yy', .string uu', .bool gg'], .agg #[.string kk, .int .i64 bb, .int .i64 ee, .int .i64 ss, .int .i64 xx, .int .i64 yy, .string uu, .bool gg]] (fun o ho => by cases ho; exact ⟨rfl, rfl, fun W => by go_simp⟩) ?_
          refine (LS.out _).mono ?_
          rintro e w3 ⟨rfl, hb3⟩
          have G3 := Lib.hid (G.out.drew.trans (hb3.mono G.out.size))
          have O3 := Lib.hid ((show OwnVr wr.drew w2.heap.size _ acc from O.out).on hb3)
          clear hb3
          refine ⟨_, _, rfl, noB_no (by kernel_rfl), (by simp only [List.setIfInBounds_toArray, List.set_cons_succ, List.set_cons_zero]; exact rfl), ?_⟩
          refine regk_free 15 33 (v := ?_) (T' := ?_) (noB_no (by kernel_rfl)) (by kernel_rfl) (by kernel_rfl) (by kernel_rfl) (by kernel_rfl) (fun _ _ _ h => h) (fun o ho => ?_) ?_ ?_
          rotate_left 2
          · cases ho
            refine ⟨rfl, rfl, fun W => ?_⟩
            go_simp; (try with_reducible rfl)
          · simp only [List.setIfInBounds_toArray, List.set_cons_succ, List.set_cons_zero]; exact rfl
          refine regk_done (by kernel_rfl) ?_
          obtain ⟨-, e0, e1, e2, e3, e4, e5, e6, e7⟩ := RdVr.cells1 (HS.out.below (G3.out)) k hlt PP.out
          have G0 := Lib.hid (G3.out)
          have hal1 := Lib.hid (show acc.length + 1 ≤ 1000000000 from by have := HAL.out; have := HSL.out; omega)
          have hsz := Lib.hid G0.out.size
          go_wp2_with (at_builtin; go_loud (refine wpl_appX rfl (.tmp 34) (.tmp 39) rfl Try.underlying22 ver_info rfl w2.heap.size _ acc [(⟨kk, bb, ee, ss, (xx, yy), uu, gg⟩ : Ver)] _ _ _ rfl rfl rfl rfl O3.out hsz.out hal1.out (by decide) ?_); intro v3 w5 ho3 hg3 hb5)
          have O5 := Lib.hid ho3
          have GS := Lib.hid (G0.out.trans hb5)
          have HAL5 := Lib.hid (show (acc ++ [(⟨kk, bb, ee, ss, (xx, yy), uu, gg⟩ : Ver)]).length ≤ k + 1 from by rw [List.length_append, List.length_singleton]; have := HAL.out; omega)
          have OK5 := Lib.hid (okTo_snoc OK.out MP.out (.inr (by rw [LSG.out]; exact HLS.out)))
          clear ho3 hg3 hb5
          go_roundw
          case rel => exact ⟨k + 1, _, by go_num, by omega, O5.out, HAL5.out, OK5.out, GS.out⟩
          case measure => simp [intOf]; omega
    · have zl : decide ((k : Int) < (s.length : Int)) = false := by rw [decide_eq_false_iff_not]; omega
      have hke : (acc.length : Int) ≤ most := by have := HAL.out; have := HSL.out; omega
      go_wp2_with fail
      go_ret
      first | exact ⟨_, rfl, acc, OwnX.mono O.out G2.out.size, hke, OK.out, G2.out.trans (G.out.mono G2.out.size)⟩ | exact ⟨_, acc, rfl, OwnX.mono O.out G2.out.size, hke, OK.out, G2.out.trans (G.out.mono G2.out.size)⟩
end Go.Proofs.Ytefjdmlmmoeoaaa
