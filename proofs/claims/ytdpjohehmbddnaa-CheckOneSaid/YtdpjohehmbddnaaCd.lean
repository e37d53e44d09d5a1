/- Layer 3: frames, as the document's answer has them. -/
import Derived.Test.YtdpjohehmbddnaaCb
import Derived.Test.YtdpjohehmbddnaaCc
import Derived.Test.YtdpjohehmbddnaaBrow
import Derived.Test.YtdpjohehmbddnaaBreg
namespace Go.Proofs.Ytdpjohehmbddnaa
open Go.RowKit
set_option linter.unusedVariables false

/-- A frame's bytes. -/
def frm (l : List UInt8) : List UInt8 := enc4 l.length ++ enc4 (crcN l) ++ l
theorem frm_length (l : List UInt8) : (frm l).length = l.length + 8 := by simp [frm, enc4]
/-- The frame at the beginning: its bytes, how long it is, the error. -/
def fst1 (l : List UInt8) : List UInt8 × Nat × Int :=
  if l.length < 8 ∨ l.length < 8 + dec4 l then ([], 0, 3) else
    if crcN ((l.drop 8).take (dec4 l)) ≠ dec4 (l.drop 4) then ([], 8 + dec4 l, 4) else ((l.drop 8).take (dec4 l), 8 + dec4 l, 0)

theorem dec4_take (l : List UInt8) (h : 4 ≤ l.length) : dec4 (l.take 4) = dec4 l := by
  obtain ⟨a, b, c, d, r, rfl⟩ := four h
  rfl

set_option maxHeartbeats 400000 in
theorem ref_frame (v : Value) (l : List UInt8) (w : World) (h : RdB w w.heap.size v l) (hl : l.length ≤ 1000000000) :
    Calls Try.prog 14 #[v] w fun e w' => ∃ v', e = .returned v' ∧ OwnB w' w.heap.size v' (frm l) ∧ Below w.heap.size w w' := by
  have H := Lib.hid h
  have HW := Lib.hid h
  have hcr := crcN_lt l
  have HC := Lib.hid hcr
  obtain ⟨A, c, rfl, -⟩ := h
  clear hcr
  go_enter Try.func14, Try.ntmps14
  go_wp2_with fail
  refine (ref_four l.length _ (by omega)).mono ?_
  rintro e w1 ⟨v1, rfl, ho1, hb1⟩
  have O1 := Lib.hid ho1
  have H := Lib.hid (H.out.on hb1)
  have G := Lib.hid hb1
  clear ho1 hb1
  go_wp2_with fail
  refine (ref_sum _ l _ H.out hl).mono ?_
  rintro e w2 ⟨rfl, hb2⟩
  have O1 := Lib.hid (O1.out.on hb2)
  have H := Lib.hid (H.out.on hb2)
  have G := Lib.hid (G.out.trans (hb2.mono G.out.size))
  clear hb2
  generalize hn : crcN l = n at *
  have HN := Lib.hid hn
  clear hn
  go_wp2_with fail
  refine (ref_four n _ (by have := HC.out; omega)).mono ?_
  rintro e w3 ⟨v3, rfl, ho3, hb3⟩
  have O1 := Lib.hid (O1.out.on hb3)
  have H := Lib.hid (H.out.on hb3)
  have G := Lib.hid (G.out.trans (hb3.mono G.out.size))
  have R3 := Lib.hid ho3.rd
  clear ho3 hb3
  go_wp2_with (first
    | (at_builtin; refine wpl_app_bytes_b rfl (.tmp 7) (.tmp 10) rfl w.heap.size _ _ _ (enc4 l.length) (enc4 n) rfl rfl O1.out R3.out ?_ ?_ ?_; rotate_left 2; intro v4 w4 ho4 hb4)
    | (at_builtin; refine wpl_app_bytes_b rfl (.tmp 12) (.tmp 13) rfl w.heap.size _ _ _ (enc4 l.length ++ enc4 n) l rfl rfl ho4 (HW.out.below (G.out.trans hb4)) ?_ ?_ ?_; rotate_left 2; intro v5 w5 ho5 hb5))
  · go_ret
    exact ⟨v5, rfl, by unfold frm; rw [HN.out]; exact ho5, (G.out.trans hb4).trans hb5⟩
  · have := G.out.size; have := hb4.size; omega
  · simp [enc4]; omega
  · exact G.out.size
  · simp [enc4]

set_option maxHeartbeats 2000000 in
theorem ref_first (v : Value) (l : List UInt8) (w : World) (h : RdB w w.heap.size v l) (hl : l.length ≤ 1000000000) :
    Calls Try.prog 28 #[v] w fun e w' => ∃ v', e = .returned (.tuple #[v', .int .i64 (fst1 l).2.1, .int .i64 (fst1 l).2.2]) ∧ RdB w' w.heap.size v' (fst1 l).1 ∧ (∀ k, v'.ownBlock = some k → v.ownBlock = some k) ∧ Below w.heap.size w w' := by
  have HW := Lib.hid h
  by_cases h8 : l.length < 8
  · rw [show fst1 l = ([], 0, 3) from by unfold fst1; rw [if_pos (.inl h8)]]
    obtain ⟨A, c, rfl, -⟩ := h
    go_enter Try.func28, Try.ntmps28
    go_wp2
    go_ret3
    exact ⟨_, rfl, RdB.nil _ _, by simp [Value.ownBlock], Below.refl _ _⟩
  · have z8 : decide ((l.length : Int) < 8) = false := by simp; omega
    by_cases hd : l.length < 8 + dec4 l
    · rw [show fst1 l = ([], 0, 3) from by unfold fst1; rw [if_pos (.inr hd)]]
      obtain ⟨A, c, rfl, -⟩ := h
      go_enter Try.func28, Try.ntmps28
      go_wp2_with fail
      refine (ref_num _ _ l _ HW.out (by omega)).mono ?_
      rintro e w1 ⟨rfl, hb1⟩
      have hd4 := dec4_lt l
      generalize dec4 l = n at *
      go_wp2_with fail
      go_ret3
      exact ⟨_, rfl, RdB.nil _ _, by simp [Value.ownBlock], hb1⟩
    · have hd4 := dec4_lt l
      obtain ⟨A1, c1, hs1, hr1, ho1⟩ := sl_mid_own h 8 (8 + dec4 l) 8 (8 + (dec4 l : Int)) rfl (by omega) (by omega) (by omega)
      obtain ⟨A2, c2, hs2, hr2, -⟩ := sl_mid_own h 4 8 4 8 rfl rfl (by omega) (by omega)
      rw [show 8 + dec4 l - 8 = dec4 l from by omega] at hs1 hr1 ho1
      rw [show 8 - 4 = 4 from rfl] at hs2 hr2
      have HD2 := Lib.hid (show dec4 ((l.drop 4).take 4) = dec4 (l.drop 4) from dec4_take _ (by rw [List.length_drop]; omega))
      have S1 := Lib.hid hr1
      have S1W := Lib.hid hr1
      have S2 := Lib.hid hr2
      have O1 := Lib.hid ho1
      have hdle : 8 + dec4 l ≤ l.length := by omega
      have hfst : fst1 l = if crcN ((l.drop 8).take (dec4 l)) ≠ dec4 (l.drop 4) then ([], 8 + dec4 l, 4) else ((l.drop 8).take (dec4 l), 8 + dec4 l, 0) := by
        unfold fst1; rw [if_neg (by omega)]
      have HF := Lib.hid hfst
      obtain ⟨A, c, rfl, -⟩ := h
      clear hr1 hr2 ho1 hfst hd h8
      go_enter Try.func28, Try.ntmps28
      go_wp2_with fail
      refine (ref_num _ _ l _ HW.out (by omega)).mono ?_
      rintro e w1 ⟨rfl, hb1⟩
      have G := Lib.hid hb1
      go_wp2_with fail
      refine (ref_num _ _ l _ (HW.out.on hb1) (by omega)).mono ?_
      rintro e w2 ⟨rfl, hb2⟩
      have G := Lib.hid ((G.out.trans (hb2.mono G.out.size)).drew)
      have S1 := Lib.hid (RdB.drew (S1.out.on (hb1.trans (hb2.mono hb1.size))))
      have S2 := Lib.hid (RdB.drew (S2.out.on (hb1.trans (hb2.mono hb1.size))))
      clear hb1 hb2
      by_cases hc : crcN ((l.drop 8).take (dec4 l)) = dec4 (l.drop 4)
      · have HFF := Lib.hid (show fst1 l = ((l.drop 8).take (dec4 l), 8 + dec4 l, 0) from by rw [HF.out, if_neg (by simpa using hc)])
        have hne : ((crcN ((l.drop 8).take (dec4 l)) : Int) != (dec4 ((l.drop 4).take 4) : Int)) = false := by rw [HD2.out]; simp [hc]
        go_wp2_with fail
-- REGION
        refine reg_start (by kernel_rfl) ?_
        refine reg_take2 0 24 (v := ?_) (T' := ?_) (Later.refl _) (by kernel_rfl) (by kernel_rfl) (by kernel_rfl) (fun _ _ _ h => h) (fun o ho => ?_) ?_ ?_
        rotate_left 2
        · cases ho
          refine ⟨rfl, rfl, fun W hW => ?_⟩
          go_simp; (try with_reducible rfl)
        · simp only [List.setIfInBounds_toArray, List.set_cons_succ, List.set_cons_zero]; exact rfl
        refine reg_take2 2 26 (v := ?_) (T' := ?_) (Later.refl _) (by kernel_rfl) (by kernel_rfl) (by kernel_rfl) (fun _ _ _ h => h) (fun o ho => ?_) ?_ ?_
        rotate_left 2
        · cases ho
          refine ⟨rfl, rfl, fun W hW => ?_⟩
          go_simp; (try with_reducible rfl)
        · simp only [List.setIfInBounds_toArray, List.set_cons_succ, List.set_cons_zero]; exact rfl
        refine reg_take2 3 27 (v := ?_) (T' := ?_) (Later.refl _) (by kernel_rfl) (by kernel_rfl) (by kernel_rfl) (fun _ _ _ h => h) (fun o ho => ?_) ?_ ?_
        rotate_left 2
        · cases ho
          refine ⟨rfl, rfl, fun W hW => ?_⟩
          go_simp; (try with_reducible rfl)
        · simp only [List.setIfInBounds_toArray, List.set_cons_succ, List.set_cons_zero]; exact rfl
        refine reg_call2 1 25 (Later.refl _) (by kernel_rfl) 12 #[.slice A1 (dec4 l) c1] (fun o ho => by cases ho; exact ⟨rfl, rfl, fun W => by go_simp⟩) ?_
        refine (ref_sum _ _ _ (S1.out) (by rw [List.length_take, List.length_drop]; omega)).mono ?_
        rintro e w4 ⟨rfl, hb4⟩
        have G := Lib.hid (G.out.trans (hb4.mono G.out.size))
        have S1 := Lib.hid (S1.out.on hb4)
        have S2 := Lib.hid (S2.out.on hb4)
        refine ⟨_, _, rfl, hb4, (by simp only [List.setIfInBounds_toArray, List.set_cons_succ, List.set_cons_zero]; exact rfl), ?_⟩
        clear hb4
        refine reg_call2 4 28 (Later.refl _) (by kernel_rfl) 32 #[.slice A2 4 c2] (fun o ho => by cases ho; exact ⟨rfl, rfl, fun W => by go_simp⟩) ?_
        refine (ref_num _ _ _ _ S2.out (by rw [List.length_take, List.length_drop]; omega)).mono ?_
        rintro e w5 ⟨rfl, hb5⟩
        have G := Lib.hid (G.out.trans (hb5.mono G.out.size))
        have S1 := Lib.hid (S1.out.on hb5)
        refine ⟨_, _, rfl, hb5, (by simp only [List.setIfInBounds_toArray, List.set_cons_succ, List.set_cons_zero]; exact rfl), ?_⟩
        clear hb5
        refine reg_take2 5 29 (v := ?_) (T' := ?_) (Later.refl _) (by kernel_rfl) (by kernel_rfl) (by kernel_rfl) (fun _ _ _ h => h) (fun o ho => ?_) ?_ ?_
        rotate_left 2
        · cases ho
          refine ⟨rfl, rfl, fun W hW => ?_⟩
          go_simp; (try with_reducible rfl)
        · simp only [List.setIfInBounds_toArray, List.set_cons_succ, List.set_cons_zero]; exact rfl
        refine reg_done (by kernel_rfl) ?_
-- DONE
        go_wp2
        go_ret3
        rw [HFF.out]
        exact ⟨_, rfl, S1W.out.below G.out, O1.out, G.out⟩
      · have HFF := Lib.hid (show fst1 l = ([], 8 + dec4 l, 4) from by rw [HF.out, if_pos hc])
        have hne : ((crcN ((l.drop 8).take (dec4 l)) : Int) != (dec4 ((l.drop 4).take 4) : Int)) = true := by rw [HD2.out]; simp; omega
        go_wp2_with fail
-- REGION
        refine reg_start (by kernel_rfl) ?_
        refine reg_take2 0 24 (v := ?_) (T' := ?_) (Later.refl _) (by kernel_rfl) (by kernel_rfl) (by kernel_rfl) (fun _ _ _ h => h) (fun o ho => ?_) ?_ ?_
        rotate_left 2
        · cases ho
          refine ⟨rfl, rfl, fun W hW => ?_⟩
          go_simp; (try with_reducible rfl)
        · simp only [List.setIfInBounds_toArray, List.set_cons_succ, List.set_cons_zero]; exact rfl
        refine reg_take2 2 26 (v := ?_) (T' := ?_) (Later.refl _) (by kernel_rfl) (by kernel_rfl) (by kernel_rfl) (fun _ _ _ h => h) (fun o ho => ?_) ?_ ?_
        rotate_left 2
        · cases ho
          refine ⟨rfl, rfl, fun W hW => ?_⟩
          go_simp; (try with_reducible rfl)
        · simp only [List.setIfInBounds_toArray, List.set_cons_succ, List.set_cons_zero]; exact rfl
        refine reg_take2 3 27 (v := ?_) (T' := ?_) (Later.refl _) (by kernel_rfl) (by kernel_rfl) (by kernel_rfl) (fun _ _ _ h => h) (fun o ho => ?_) ?_ ?_
        rotate_left 2
        · cases ho
          refine ⟨rfl, rfl, fun W hW => ?_⟩
          go_simp; (try with_reducible rfl)
        · simp only [List.setIfInBounds_toArray, List.set_cons_succ, List.set_cons_zero]; exact rfl
        refine reg_call2 1 25 (Later.refl _) (by kernel_rfl) 12 #[.slice A1 (dec4 l) c1] (fun o ho => by cases ho; exact ⟨rfl, rfl, fun W => by go_simp⟩) ?_
        refine (ref_sum _ _ _ (S1.out) (by rw [List.length_take, List.length_drop]; omega)).mono ?_
        rintro e w4 ⟨rfl, hb4⟩
        have G := Lib.hid (G.out.trans (hb4.mono G.out.size))
        have S1 := Lib.hid (S1.out.on hb4)
        have S2 := Lib.hid (S2.out.on hb4)
        refine ⟨_, _, rfl, hb4, (by simp only [List.setIfInBounds_toArray, List.set_cons_succ, List.set_cons_zero]; exact rfl), ?_⟩
        clear hb4
        refine reg_call2 4 28 (Later.refl _) (by kernel_rfl) 32 #[.slice A2 4 c2] (fun o ho => by cases ho; exact ⟨rfl, rfl, fun W => by go_simp⟩) ?_
        refine (ref_num _ _ _ _ S2.out (by rw [List.length_take, List.length_drop]; omega)).mono ?_
        rintro e w5 ⟨rfl, hb5⟩
        have G := Lib.hid (G.out.trans (hb5.mono G.out.size))
        have S1 := Lib.hid (S1.out.on hb5)
        refine ⟨_, _, rfl, hb5, (by simp only [List.setIfInBounds_toArray, List.set_cons_succ, List.set_cons_zero]; exact rfl), ?_⟩
        clear hb5
        refine reg_take2 5 29 (v := ?_) (T' := ?_) (Later.refl _) (by kernel_rfl) (by kernel_rfl) (by kernel_rfl) (fun _ _ _ h => h) (fun o ho => ?_) ?_ ?_
        rotate_left 2
        · cases ho
          refine ⟨rfl, rfl, fun W hW => ?_⟩
          go_simp; (try with_reducible rfl)
        · simp only [List.setIfInBounds_toArray, List.set_cons_succ, List.set_cons_zero]; exact rfl
        refine reg_done (by kernel_rfl) ?_
-- DONE
        go_wp2
        go_ret3
        rw [HFF.out]
        exact ⟨_, rfl, RdB.nil _ _, by simp [Value.ownBlock], G.out⟩
end Go.Proofs.Ytdpjohehmbddnaa
