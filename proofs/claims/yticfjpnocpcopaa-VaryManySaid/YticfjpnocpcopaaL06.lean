/- VaryMany: for all numbers (the first 8), and every text (its first 30 bytes), put at once they are the same bytes as put one by one. No conditions. -/
import Derived.Test.YticfjpnocpcopaaVe
import Derived.Test.YticfjpnocpcopaaBreg
import Derived.ChangeMaps5
namespace Go.Proofs.Yticfjpnocpcopaa.L06
open Go.RowKit Go.ChangeShapes Go.WideShapes Go.ChangeAt
set_option linter.unusedVariables false

set_option maxHeartbeats 4000000 in
set_option maxRecDepth 1000000 in
theorem walk (va : Value) (l : List Int) (s0 : ByteArray) (w : World) (ha : RdI w w.heap.size va l) (hn : ∀ n ∈ l, -9223372036854775808 ≤ n ∧ n ≤ 9223372036854775807) (hs0 : s0.size ≤ 9223372036854775807) :
    Calls Try.prog 8 #[va, .string s0] w fun e w' => e = .returned (.bool true) ∧ Below w.heap.size w w' := by
  have HS0 : s0.size ≤ 30 ∨ 30 < s0.size := by omega
  obtain ⟨A, c, K, m, hr, hmK, hK, hml, hcase⟩ := cut_nums ha
  have R0 := Lib.hid hr
  have HN := Lib.hid (show ∀ n ∈ m, n ≤ 9223372036854775807 from fun n h => (hn n (hml n h)).2)
  clear hr ha hn hml
  rcases HS0 with hs | hs <;> rcases hcase with ⟨hl, rfl, hKl⟩ | ⟨hl, A0, c0, rfl, hsl⟩
  all_goals
    first
      | (have hd8 : decide (8 < (l.length : Int)) = true := by simp; omega)
      | (have hd8 : decide (8 < (K : Int)) = false := by simp; omega)
    first
      | (have hd30 : decide (30 < (s0.size : Int)) = true := by simp; omega)
      | (have hd30 : decide (30 < (s0.size : Int)) = false := by simp; omega)
    try clear hKl
    go_enter Try.func8, Try.ntmps8
    go_wp2_with fail
    first
      | (obtain ⟨s, hss⟩ : ∃ s, s = s0.extract 0 30 := ⟨_, rfl⟩
         have hs30 : s.size ≤ 30 := by rw [hss, ByteArray.size_extract]; omega
         have hs31 : 30 < s0.size := hs
         rw [← hss]
         clear hss)
      | (obtain ⟨s, rfl⟩ : ∃ s, s = s0 := ⟨_, rfl⟩
         have hs30 : s.size ≤ 30 := hs)
    have HSS := Lib.hid (show ∀ x ∈ [s, s], x.size ≤ 1000000 from by simp; omega)
    have HS1 := Lib.hid (show ∀ x ∈ [s], x.size ≤ 1000000 from by simp; omega)
    go_loopw [5, 6] (fun x i wr => ∃ k : Nat, k ≤ K ∧ i = .int .i64 k ∧ RdB wr wr.heap.size x (encNs (m.take k)) ∧ Below w.heap.size w wr) (fun _ i _ => K - (intOf i).toNat)
    case atStart => exact ⟨0, Nat.zero_le _, rfl, RdB.nil _ _, Below.refl _ _⟩
    case round =>
      obtain ⟨k, hk, rfl, hb, hbw⟩ := hrel
      have HB := Lib.hid hb
      have G := Lib.hid hbw
      have R0 := Lib.hid ((R0.out.below hbw).more hbw.size)
      have hel := encNs_len (m.take k) (fun n hn => HN.out n (List.mem_of_mem_take hn))
      rw [List.length_take] at hel
      have HEL := Lib.hid (show (encNs (m.take k)).length ≤ 72 from by omega)
      clear hb hbw hel
      by_cases hlt : k < K
      · have hkm : k < m.length := by omega
        obtain ⟨A', c', e1, _, _, hcell⟩ := R0.out
        obtain ⟨b, o, e2, hb, hcell2⟩ := hcell (by omega)
        cases e1
        cases e2
        have c1 : wr.cell? ⟨b, o + k, none⟩ = some (.int .i64 m[k]) := hcell2 k m[k] (List.getElem?_eq_getElem hkm)
        have HS := Lib.hid (encNs_snoc m k hkm)
        have hnb := Lib.hid (HN.out m[k] (List.getElem_mem hkm))
        generalize m[k] = n at c1 HS hnb
        clear hcell hcell2 hkm
        go_wp2_with fail
        refine (vary_put _ _ (encNs (m.take k)) [n] _ (HB.out.on (alloc_below wr _)) (RdV.lit wr _ _ [n] 1 _ rfl rfl (by simp) (by simp)) (by have := HEL.out; omega) (by simpa using hnb.out) (by simp)).mono ?_
        rintro e w2 ⟨v2, rfl, ho2, hb2⟩
        have HO := Lib.hid ho2.rd
        have G := Lib.hid ((G.out.trans ((alloc_below wr _).mono G.out.size)).trans (hb2.mono (by have := G.out.size; simp; omega)))
        clear ho2 hb2
        go_wp2_with fail
        go_roundw
        case rel => exact ⟨k + 1, by omega, by go_num, by rw [HS.out]; simpa [encNs] using HO.out, G.out⟩
        case measure => simp [intOf]; omega
      · have hke := Lib.hid (show m.take k = m from List.take_of_length_le (by omega))
        have RB := Lib.hid (show RdB wr wr.heap.size u5 (encNs m) from by have := HB.out; rw [hke.out] at this; exact this)
        clear HB HEL hke
        go_wp2_with fail
        refine (vary_text _ _ [] [s] _ (RdB.nil _ _) (RdV.lit wr _ _ [s] 1 _ rfl rfl (by simp) (by simp)) (by simp) HS1.out (by simp)).mono ?_
        rintro e w2 ⟨v2, rfl, ho2, hb2⟩
        have hb2 := (alloc_below wr _).trans (hb2.mono (by simp))
        rw [List.nil_append] at ho2
        have RB := Lib.hid (RB.out.on hb2)
        have R0 := Lib.hid ((R0.out.below hb2).more hb2.size)
        have RC := Lib.hid ho2.rd
        have G := Lib.hid (G.out.trans (hb2.mono G.out.size))
        clear ho2 hb2
        go_wp2_with fail
        have hlt := encTs_len [s] HS1.out
        refine (vary_text _ _ (encTs [s]) [s] _ (RC.out.on (alloc_below w2 _)) (RdV.lit w2 _ _ [s] 1 _ rfl rfl (by simp) (by simp)) (by simp only [List.length_singleton] at hlt; omega) HS1.out (by simp)).mono ?_
        clear hlt
        rintro e w3 ⟨v3, rfl, ho3, hb3⟩
        have hb3 := (alloc_below w2 _).trans (hb3.mono (by simp))
        have RB := Lib.hid (RB.out.on hb3).drew
        have R0 := Lib.hid (RdV.drew ((R0.out.below hb3).more hb3.size))
        have RC := Lib.hid (RdB.drew ho3.rd)
        have G := Lib.hid (G.out.trans (hb3.mono G.out.size)).drew
        have hcc := Lib.hid (show ([] : List UInt8) ++ encTs [s, s] = encTs [s] ++ encTs [s] from by simp [encTs])
        clear ho3 hb3
        go_wp2_with fail
-- REGION
        refine reg_start (by kernel_rfl) ?_
        refine reg_take2 0 37 (v := ?_) (T' := ?_) (Later.refl _) (by kernel_rfl) (by kernel_rfl) (by kernel_rfl) (fun _ _ _ h => h) (fun o ho => ?_) ?_ ?_
        rotate_left 2
        · cases ho
          refine ⟨rfl, rfl, fun W hW => ?_⟩
          go_simp; (try with_reducible rfl)
        · simp only [List.setIfInBounds_toArray, List.set_cons_succ, List.set_cons_zero]; exact rfl
        refine reg_take2 3 40 (v := ?_) (T' := ?_) (Later.refl _) (by kernel_rfl) (by kernel_rfl) (by kernel_rfl) (fun _ _ _ h => h) (fun o ho => ?_) ?_ ?_
        rotate_left 2
        · cases ho
          refine ⟨rfl, rfl, fun W hW => ?_⟩
          go_simp; (try with_reducible rfl)
        · simp only [List.setIfInBounds_toArray, List.set_cons_succ, List.set_cons_zero]; exact rfl
        refine reg_take2 4 41 (v := ?_) (T' := ?_) (Later.refl _) (by kernel_rfl) (by kernel_rfl) (by kernel_rfl) (fun _ _ _ h => h) (fun o ho => ?_) ?_ ?_
        rotate_left 2
        · cases ho
          refine ⟨rfl, rfl, fun W hW => ?_⟩
          have hcv := RdB.str (RdB.below RB.out hW)
          go_simp; (try with_reducible rfl)
        · simp only [List.setIfInBounds_toArray, List.set_cons_succ, List.set_cons_zero]; exact rfl
        refine reg_call2 1 38 (Later.refl _) (by kernel_rfl) 11 #[.slice none 0 0, .slice A K c] (fun o ho => by cases ho; exact ⟨rfl, rfl, fun W => by go_simp⟩) ?_
        refine (vary_put _ _ [] m _ (RdB.nil _ _) R0.out (by simp) HN.out (by omega)).mono ?_
        rintro e x1 ⟨y1, rfl, hy1, hb1⟩
        rw [List.nil_append] at hy1
        have Y1 := Lib.hid hy1.rd
        have G := Lib.hid (G.out.trans (hb1.mono G.out.size))
        have RB := Lib.hid (RB.out.on hb1)
        have RC := Lib.hid (RC.out.on hb1)
        refine ⟨y1, _, rfl, hb1, (by simp only [List.setIfInBounds_toArray, List.set_cons_succ, List.set_cons_zero]; exact rfl), ?_⟩
        clear hy1 hb1
        refine reg_take2 2 39 (v := ?_) (T' := ?_) (Later.refl _) (by kernel_rfl) (by kernel_rfl) (by kernel_rfl) (fun _ _ _ h => h) (fun o ho => ?_) ?_ ?_
        rotate_left 2
        · cases ho
          refine ⟨rfl, rfl, fun W hW => ?_⟩
          have hcv := RdB.str (RdB.below Y1.out hW)
          go_simp; (try with_reducible rfl)
        · simp only [List.setIfInBounds_toArray, List.set_cons_succ, List.set_cons_zero]; exact rfl
        refine reg_take2 5 42 (v := ?_) (T' := ?_) (Later.refl _) (by kernel_rfl) (by kernel_rfl) (by kernel_rfl) (fun _ _ _ h => h) (fun o ho => ?_) ?_ ?_
        rotate_left 2
        · cases ho
          refine ⟨rfl, rfl, fun W hW => ?_⟩
          go_simp; (try with_reducible rfl)
        · simp only [List.setIfInBounds_toArray, List.set_cons_succ, List.set_cons_zero]; exact rfl
        refine reg_take2 6 43 (v := ?_) (T' := ?_) (Later.refl _) (by kernel_rfl) (by kernel_rfl) (by kernel_rfl) (fun _ _ _ h => h) (fun o ho => ?_) ?_ ?_
        rotate_left 2
        · cases ho
          refine ⟨rfl, rfl, fun W hW => ?_⟩
          go_simp; (try with_reducible rfl)
        · simp only [List.setIfInBounds_toArray, List.set_cons_succ, List.set_cons_zero]; exact rfl
        refine reg_take2 7 44 (v := ?_) (T' := ?_) (Later.refl _) (by kernel_rfl) (by kernel_rfl) (by kernel_rfl) (fun _ _ _ h => h) (fun o ho => ?_) ?_ ?_
        rotate_left 2
        · cases ho
          refine ⟨rfl, rfl, fun W hW => ?_⟩
          go_simp; (try with_reducible rfl)
        · simp only [List.setIfInBounds_toArray, List.set_cons_succ, List.set_cons_zero]; exact rfl
        refine reg_take2 8 45 (v := ?_) (T' := ?_) (Later.refl _) (by kernel_rfl) (by kernel_rfl) (by kernel_rfl) (fun _ _ _ h => h) (fun o ho => ?_) ?_ ?_
        rotate_left 2
        · cases ho
          refine ⟨rfl, rfl, fun W hW => ?_⟩
          go_simp; (try with_reducible rfl)
        · simp only [List.setIfInBounds_toArray, List.set_cons_succ, List.set_cons_zero]; exact rfl
        refine reg_take2 12 49 (v := ?_) (T' := ?_) (Later.refl _) (by kernel_rfl) (by kernel_rfl) (by kernel_rfl) (fun _ _ _ h => h) (fun o ho => ?_) ?_ ?_
        rotate_left 2
        · cases ho
          refine ⟨rfl, rfl, fun W hW => ?_⟩
          go_simp; (try with_reducible rfl)
        · simp only [List.setIfInBounds_toArray, List.set_cons_succ, List.set_cons_zero]; exact rfl
        refine reg_take2 13 50 (v := ?_) (T' := ?_) (Later.refl _) (by kernel_rfl) (by kernel_rfl) (by kernel_rfl) (fun _ _ _ h => h) (fun o ho => ?_) ?_ ?_
        rotate_left 2
        · cases ho
          refine ⟨rfl, rfl, fun W hW => ?_⟩
          have hcv := RdB.str (RdB.below RC.out hW)
          go_simp; (try with_reducible rfl)
        · simp only [List.setIfInBounds_toArray, List.set_cons_succ, List.set_cons_zero]; exact rfl
        refine reg_make2 9 46 (v := ?_) (w' := ?_) (T' := ?_) (Later.refl _) (by kernel_rfl) (fun o ho => ?_) ?_ ?_ ?_
        rotate_left 3
        · cases ho
          refine ⟨rfl, rfl, ?_⟩
          go_simp; constructor <;> with_reducible rfl
        · exact Later.alloc _ _
        · simp only [List.setIfInBounds_toArray, List.set_cons_succ, List.set_cons_zero]; exact rfl
        refine reg_call2 10 47 (Later.refl _) (by kernel_rfl) 13 #[.slice none 0 0, .slice (some ⟨x1.heap.size, 0, none⟩) 2 2] (fun o ho => by cases ho; exact ⟨rfl, rfl, fun W => by go_simp⟩) ?_
        refine (vary_text _ _ [] [s, s] _ (RdB.nil _ _) (RdV.lit x1 _ _ [s, s] 2 _ rfl rfl (by simp) (by simp)) (by simp) HSS.out (by simp)).mono ?_
        rintro e x3 ⟨y3, rfl, hy3, hb3⟩
        have Y3 := Lib.hid hy3.rd
        have hb4 := (alloc_below x1 _).trans (hb3.mono (by simp))
        have G := Lib.hid (G.out.trans (hb4.mono G.out.size))
        have RC := Lib.hid (RC.out.on hb4)
        refine ⟨y3, _, rfl, hb3, (by simp only [List.setIfInBounds_toArray, List.set_cons_succ, List.set_cons_zero]; exact rfl), ?_⟩
        clear hy3 hb3 hb4
        refine reg_take2 11 48 (v := ?_) (T' := ?_) (Later.refl _) (by kernel_rfl) (by kernel_rfl) (by kernel_rfl) (fun _ _ _ h => h) (fun o ho => ?_) ?_ ?_
        rotate_left 2
        · cases ho
          refine ⟨rfl, rfl, fun W hW => ?_⟩
          have hcv := RdB.str (RdB.below Y3.out hW)
          rw [hcc.out] at hcv
          go_simp; (try with_reducible rfl)
        · simp only [List.setIfInBounds_toArray, List.set_cons_succ, List.set_cons_zero]; exact rfl
        refine reg_take2 14 51 (v := ?_) (T' := ?_) (Later.refl _) (by kernel_rfl) (by kernel_rfl) (by kernel_rfl) (fun _ _ _ h => h) (fun o ho => ?_) ?_ ?_
        rotate_left 2
        · cases ho
          refine ⟨rfl, rfl, fun W hW => ?_⟩
          go_simp; (try with_reducible rfl)
        · simp only [List.setIfInBounds_toArray, List.set_cons_succ, List.set_cons_zero]; exact rfl
        refine reg_take2 15 52 (v := ?_) (T' := ?_) (Later.refl _) (by kernel_rfl) (by kernel_rfl) (by kernel_rfl) (fun _ _ _ h => h) (fun o ho => ?_) ?_ ?_
        rotate_left 2
        · cases ho
          refine ⟨rfl, rfl, fun W hW => ?_⟩
          go_simp; (try with_reducible rfl)
        · simp only [List.setIfInBounds_toArray, List.set_cons_succ, List.set_cons_zero]; exact rfl
        refine reg_take2 16 53 (v := ?_) (T' := ?_) (Later.refl _) (by kernel_rfl) (by kernel_rfl) (by kernel_rfl) (fun _ _ _ h => h) (fun o ho => ?_) ?_ ?_
        rotate_left 2
        · cases ho
          refine ⟨rfl, rfl, fun W hW => ?_⟩
          go_simp; (try with_reducible rfl)
        · simp only [List.setIfInBounds_toArray, List.set_cons_succ, List.set_cons_zero]; exact rfl
        refine reg_call2 17 54 (Later.refl _) (by kernel_rfl) 14 #[] (fun o ho => by cases ho; exact ⟨rfl, rfl, fun W => by go_simp⟩) ?_
        refine (lives_any _).mono ?_
        rintro e x6 ⟨rfl, hb6⟩
        have G := Lib.hid (G.out.trans (hb6.mono G.out.size))
        refine ⟨.bool true, _, rfl, hb6, (by simp only [List.setIfInBounds_toArray, List.set_cons_succ, List.set_cons_zero]; exact rfl), ?_⟩
        clear hb6
        refine reg_take2 18 55 (v := ?_) (T' := ?_) (Later.refl _) (by kernel_rfl) (by kernel_rfl) (by kernel_rfl) (fun _ _ _ h => h) (fun o ho => ?_) ?_ ?_
        rotate_left 2
        · cases ho
          refine ⟨rfl, rfl, fun W hW => ?_⟩
          go_simp; (try with_reducible rfl)
        · simp only [List.setIfInBounds_toArray, List.set_cons_succ, List.set_cons_zero]; exact rfl
        refine reg_take2 19 4 (v := ?_) (T' := ?_) (Later.refl _) (by kernel_rfl) (by kernel_rfl) (by kernel_rfl) (fun _ _ _ h => h) (fun o ho => ?_) ?_ ?_
        rotate_left 2
        · cases ho
          refine ⟨rfl, rfl, fun W hW => ?_⟩
          go_simp; (try with_reducible rfl)
        · simp only [List.setIfInBounds_toArray, List.set_cons_succ, List.set_cons_zero]; exact rfl
        refine reg_done (by kernel_rfl) ?_
          -- DONE
        go_wp2
        go_ret
        exact ⟨rfl, G.out⟩

-- END
set_option maxRecDepth 100000 in
theorem lifted (os : Os) (started : os.Started) (H : Type) (enc : TypeId × Value → H) :
    ReturnsInHanded {} Try.checked os 8 .any (Rows.varyManySpec.pre6 enc Try.prog Try.f8 Rows.varyManyRow.domain false) (Rows.varyManySpec.post enc Try.prog Try.f8 false true false false) := by
  refine returnsInHanded_of_change (C := Try.checked) Try.own started (by kernel_rfl) Try.func8
    (ChangeSpec.witness6 (enc := enc) (C := Try.checked) false ⟨#[], #[.slice none 0 0, .string ⟨#[]⟩], []⟩ 8 (by kernel_rfl) (by kernel_rfl) (by kernel_rfl) (by kernel_rfl)) ?_
  intro W base args ds gs before hval0 hW _ _
  have hval : ∀ (j : Nat) t v, Try.f8.params[j]? = some t → args[j]? = some v → Value.okWide Try.prog W .any base t v := hval0
  have hW' := hW
  obtain ⟨p, q, hA0, hV, rfl, _, _⟩ := hW
  have hA : DataW.TrodAll enc Try.prog W 0 (fun _ => true) true Try.f8.params.toList args.toList ds p := hA0
  rw [Try.params8] at hA hval
  obtain ⟨v0, v1, d0, d1, p0, p1, rfl, rfl, rfl, h0, h1⟩ := trodAll_two hA
  obtain ⟨rfl, rfl⟩ := trodVars_none hV
  have hlt := fun x hx => hW'.lt x hx
  obtain ⟨a0, r0, b0⟩ := open_nums (hval 0 _ v0 rfl rfl) h0 (fun x hx => by simpa using hlt x (by simp [hx]))
  obtain ⟨a1, rfl, rfl, rfl, w1⟩ := ChangeMaps.open_string Try.underlying9 (hval 1 _ v1 rfl rfl) h1
  simp only [maxLen] at w1
  refine (walk v0 a0 a1 W r0 b0 (by omega)).mono fun e W' ⟨he, hb⟩ => ⟨_, he, ?_⟩
  exact law_post Try.laidOut (by decide +kernel) rfl Try.underlying4 rfl hW' rfl hb

theorem holds : Rows.VaryManySaid :=
  OpenClaim.holds_of_wide 8 Try.f8 rfl rfl rfl rfl rfl rfl rfl ⟨rfl, rfl, rfl, rfl, rfl⟩ rfl rfl rfl rfl rfl (by kernel_rfl) Try.func8 (by kernel_rfl)
    (of_decide_eq_true (by kernel_rfl)) (by unfold Func.isWrapper; first | (rw [if_pos (by decide +kernel)]; kernel_rfl) | (rw [if_neg (by decide +kernel)]; exact ⟨rfl, rfl⟩))
    (fun os started H enc _ => lifted os started H enc)
end Go.Proofs.Yticfjpnocpcopaa.L06
