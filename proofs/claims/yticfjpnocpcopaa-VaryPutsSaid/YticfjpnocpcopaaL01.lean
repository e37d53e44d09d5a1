/- VaryPuts: for all bytes (the first 100), all numbers (the first 8), and every text (its first 100 bytes), what is put behind bytes is the document's. No conditions. -/
import Derived.Test.YticfjpnocpcopaaVe
import Derived.Test.YticfjpnocpcopaaBreg
import Derived.ChangeMaps5
namespace Go.Proofs.Yticfjpnocpcopaa.L01
open Go.RowKit Go.ChangeShapes Go.WideShapes Go.ChangeAt
set_option linter.unusedVariables false

theorem two_small {s : ByteArray} (h : s.size ≤ 100) : ∀ x ∈ [s, (⟨#[120]⟩ : ByteArray)], x.size ≤ 1000000 := by
  intro x hx
  simp at hx
  rcases hx with rfl | rfl
  · omega
  · decide
theorem enc_x : encT ⟨#[120]⟩ = [1, 120] := by
  show encN 1 ++ _ = _
  rw [encN_lt (by omega)]; rfl

set_option maxHeartbeats 4000000 in
set_option maxRecDepth 1000000 in
theorem walk (v0 va : Value) (b0 : List UInt8) (l : List Int) (s0 : ByteArray) (w : World) (hb : RdB w w.heap.size v0 b0) (ha : RdI w w.heap.size va l) (hn : ∀ n ∈ l, -9223372036854775808 ≤ n ∧ n ≤ 9223372036854775807) (hs0 : s0.size ≤ 9223372036854775807) :
    Calls Try.prog 3 #[v0, va, .string s0] w fun e w' => e = .returned (.bool true) ∧ Below w.heap.size w w' := by
  have HS0 : s0.size ≤ 100 ∨ 100 < s0.size := by omega
  obtain ⟨A, c, K, m, hr, hmK, hK, hml, hcase⟩ := cut_nums ha
  have R0 := Lib.hid hr
  have HB0 := Lib.hid hb
  have HN := Lib.hid (show ∀ n ∈ m, n ≤ 9223372036854775807 from fun n h => (hn n (hml n h)).2)
  have hb1l : (b0.take 100).length ≤ 100 := List.length_take_le _ _
  clear hr ha hn hml hb
  rcases HS0 with hs | hs <;> rcases hcase with ⟨hl, rfl, hKl⟩ | ⟨hl, A0, c0, rfl, hsl⟩
  all_goals
    first
      | (have hd8 : decide (8 < (l.length : Int)) = true := by simp; omega)
      | (have hd8 : decide (8 < (K : Int)) = false := by simp; omega)
    first
      | (have hd30 : decide (100 < (s0.size : Int)) = true := by simp; omega)
      | (have hd30 : decide (100 < (s0.size : Int)) = false := by simp; omega)
    try clear hKl
    go_enter Try.func3, Try.ntmps3
    go_wp2_with fail
    refine (few_any _ b0 _ HB0.out).mono ?_
    rintro e w1 ⟨vb, rfl, hrb, rfl⟩
    have RB := Lib.hid hrb
    clear hrb
    generalize b0.take 100 = b1 at *
    go_wp2_with (at_builtin; refine wpl_app_bytes_b rfl (.tmp 23) (.tmp 24) rfl w.heap.size _ _ _ [] b1 rfl rfl (OwnB.nil _ _) RB.out ?_ ?_ ?_; rotate_left 2; intro v2 w2 ho2 hb2)
    · first
        | (obtain ⟨s, hss⟩ : ∃ s, s = s0.extract 0 100 := ⟨_, rfl⟩
           have hs30 : s.size ≤ 100 := by rw [hss, ByteArray.size_extract]; omega
           have hs31 : 100 < s0.size := hs
           rw [← hss]
           clear hss)
        | (obtain ⟨s, rfl⟩ : ∃ s, s = s0 := ⟨_, rfl⟩
           have hs30 : s.size ≤ 100 := hs)
      rw [List.nil_append] at ho2
      have HSS := Lib.hid (show ∀ x ∈ [s, ⟨#[120]⟩], x.size ≤ 1000000 from two_small hs30)
      have HO := Lib.hid ho2
      have HW := Lib.hid hb2
      clear ho2 hb2
      go_loopw [7, 8] (fun x i wr => ∃ k : Nat, k ≤ K ∧ i = .int .i64 k ∧ OwnB wr w.heap.size x (b1 ++ encNs (m.take k)) ∧ Below w.heap.size w wr) (fun _ i _ => K - (intOf i).toNat)
      case atStart => exact ⟨0, Nat.zero_le _, rfl, by simpa [encNs] using HO.out, HW.out⟩
      case round =>
        obtain ⟨k, hk, rfl, ho, hbg⟩ := hrel
        have G := Lib.hid hbg
        have R0 := Lib.hid ((R0.out.below hbg).more hbg.size)
        have RB := Lib.hid (RB.out.on hbg)
        have HO := Lib.hid ho
        have hel := encNs_len (m.take k) (fun n hn => HN.out n (List.mem_of_mem_take hn))
        rw [List.length_take] at hel
        have HEL := Lib.hid (show (b1 ++ encNs (m.take k)).length ≤ 172 from by rw [List.length_append]; omega)
        clear ho hel hbg
        by_cases hlt : k < K
        · have hkm : k < m.length := by omega
          obtain ⟨A', c', e1, _, _, hcell⟩ := R0.out
          obtain ⟨b, o, e2, hb, hcell2⟩ := hcell (by omega)
          cases e1
          cases e2
          have c1 : wr.cell? ⟨b, o + k, none⟩ = some (.int .i64 m[k]) := hcell2 k m[k] (List.getElem?_eq_getElem hkm)
          have HS := Lib.hid (encNs_snoc m k hkm)
          have hnb := Lib.hid (HN.out m[k] (List.getElem_mem hkm))
          have h9 := Lib.hid (encN_nine m[k].toNat (by have := hnb.out; omega))
          generalize m[k] = n at c1 HS hnb h9
          clear hcell hcell2 hkm
          go_wp2_with (first
            | (go_at_call 10; refine (ref_put n _ hnb.out).mono ?_; rintro e w3 ⟨v3, rfl, ho3, hb3⟩)
            | (at_builtin; refine wpl_app_bytes_b rfl (.tmp 32) (.tmp 37) rfl w.heap.size _ _ _ (b1 ++ encNs (m.take k)) (encN n.toNat) rfl rfl (HO.out.on hb3) ho3.rd ?_ ?_ ?_; rotate_left 2; intro v4 w4 ho4 hb4))
          · go_roundw
            case rel =>
              exact ⟨k + 1, by omega, by go_num, by rw [HS.out, ← List.append_assoc]; exact ho4, (G.out.trans (hb3.mono G.out.size)).trans hb4⟩
            case measure => simp [intOf]; omega
          · have := G.out.size; have := hb3.size; omega
          · have := HEL.out; have := h9.out; omega
        · have hke := Lib.hid (show m.take k = m from List.take_of_length_le (by omega))
          have RW := Lib.hid (RdB.drew (show RdB wr wr.heap.size u7 (b1 ++ encNs m) from by have := HO.out.rd; rw [hke.out] at this; exact this))
          have RB := Lib.hid (RdB.drew RB.out)
          have R0 := Lib.hid (RdV.drew R0.out)
          have G := Lib.hid G.out.drew
          clear HO HEL hke
          go_wp2_with fail
-- REGION A
          refine reg_start (by kernel_rfl) ?_
          refine reg_take2 0 39 (v := ?_) (T' := ?_) (Later.refl _) (by kernel_rfl) (by kernel_rfl) (by kernel_rfl) (fun _ _ _ h => h) (fun o ho => ?_) ?_ ?_
          rotate_left 2
          · cases ho
            refine ⟨rfl, rfl, fun W hW => ?_⟩
            go_simp; (try with_reducible rfl)
          · simp only [List.setIfInBounds_toArray, List.set_cons_succ, List.set_cons_zero]; exact rfl
          refine reg_take2 1 40 (v := ?_) (T' := ?_) (Later.refl _) (by kernel_rfl) (by kernel_rfl) (by kernel_rfl) (fun _ _ _ h => h) (fun o ho => ?_) ?_ ?_
          rotate_left 2
          · cases ho
            refine ⟨rfl, rfl, fun W hW => ?_⟩
            go_simp; (try with_reducible rfl)
          · simp only [List.setIfInBounds_toArray, List.set_cons_succ, List.set_cons_zero]; exact rfl
          refine reg_take2 4 43 (v := ?_) (T' := ?_) (Later.refl _) (by kernel_rfl) (by kernel_rfl) (by kernel_rfl) (fun _ _ _ h => h) (fun o ho => ?_) ?_ ?_
          rotate_left 2
          · cases ho
            refine ⟨rfl, rfl, fun W hW => ?_⟩
            go_simp; (try with_reducible rfl)
          · simp only [List.setIfInBounds_toArray, List.set_cons_succ, List.set_cons_zero]; exact rfl
          refine reg_take2 5 44 (v := ?_) (T' := ?_) (Later.refl _) (by kernel_rfl) (by kernel_rfl) (by kernel_rfl) (fun _ _ _ h => h) (fun o ho => ?_) ?_ ?_
          rotate_left 2
          · cases ho
            refine ⟨rfl, rfl, fun W hW => ?_⟩
            have hcv := RdB.str (RdB.below RW.out hW)
            go_simp; (try with_reducible rfl)
          · simp only [List.setIfInBounds_toArray, List.set_cons_succ, List.set_cons_zero]; exact rfl
          refine reg_call2 2 41 (Later.refl _) (by kernel_rfl) 11 #[vb, .slice A K c] (fun o ho => by cases ho; exact ⟨rfl, rfl, fun W => by go_simp⟩) ?_
          refine (vary_put _ _ b1 m _ RB.out R0.out (by omega) HN.out (by omega)).mono ?_
          rintro e x1 ⟨y1, rfl, hy1, hb1⟩
          have Y1 := Lib.hid hy1.rd
          have G := Lib.hid (G.out.trans (hb1.mono G.out.size))
          have RB := Lib.hid (RB.out.on hb1)
          have RW := Lib.hid (RW.out.on hb1)
          refine ⟨y1, _, rfl, hb1, (by simp only [List.setIfInBounds_toArray, List.set_cons_succ, List.set_cons_zero]; exact rfl), ?_⟩
          clear hy1 hb1
          refine reg_take2 3 42 (v := ?_) (T' := ?_) (Later.refl _) (by kernel_rfl) (by kernel_rfl) (by kernel_rfl) (fun _ _ _ h => h) (fun o ho => ?_) ?_ ?_
          rotate_left 2
          · cases ho
            refine ⟨rfl, rfl, fun W hW => ?_⟩
            have hcv := RdB.str (RdB.below Y1.out hW)
            go_simp; (try with_reducible rfl)
          · simp only [List.setIfInBounds_toArray, List.set_cons_succ, List.set_cons_zero]; exact rfl
          refine reg_take2 6 45 (v := ?_) (T' := ?_) (Later.refl _) (by kernel_rfl) (by kernel_rfl) (by kernel_rfl) (fun _ _ _ h => h) (fun o ho => ?_) ?_ ?_
          rotate_left 2
          · cases ho
            refine ⟨rfl, rfl, fun W hW => ?_⟩
            go_simp; (try with_reducible rfl)
          · simp only [List.setIfInBounds_toArray, List.set_cons_succ, List.set_cons_zero]; exact rfl
          refine reg_take2 7 9 (v := ?_) (T' := ?_) (Later.refl _) (by kernel_rfl) (by kernel_rfl) (by kernel_rfl) (fun _ _ _ h => h) (fun o ho => ?_) ?_ ?_
          rotate_left 2
          · cases ho
            refine ⟨rfl, rfl, fun W hW => ?_⟩
            go_simp; (try with_reducible rfl)
          · simp only [List.setIfInBounds_toArray, List.set_cons_succ, List.set_cons_zero]; exact rfl
          refine reg_done (by kernel_rfl) ?_
        -- DONE A
          go_wp2_with (first
            | (go_at_call 12; first
                | (refine (ref_text ⟨#[120]⟩ _ (by decide)).mono ?_; rintro e z5 ⟨v5, rfl, ho5, hb5⟩)
                | (refine (ref_text s _ (by omega)).mono ?_; rintro e z3 ⟨v3, rfl, ho3, hb3⟩))
            | (at_builtin; refine wpl_app_bytes_b rfl (.tmp 46) (.tmp 47) rfl x1.heap.size _ _ _ [] b1 rfl rfl (OwnB.nil _ _) RB.out ?_ ?_ ?_; rotate_left 2; intro t2 z2 to2 tb2)
            | (at_builtin; refine wpl_app_bytes_b rfl (.tmp 49) (.tmp 51) rfl x1.heap.size _ _ _ ([] ++ b1) (encT s) rfl rfl (to2.on hb3) ho3.rd ?_ ?_ ?_; rotate_left 2; intro t4 z4 to4 tb4)
            | (at_builtin; refine wpl_app_bytes_b rfl (.tmp 53) (.tmp 54) rfl x1.heap.size _ _ _ ([] ++ b1 ++ encT s) (encT ⟨#[120]⟩) rfl rfl (to4.on hb5) ho5.rd ?_ ?_ ?_; rotate_left 2; intro t6 z6 to6 tb6))
          · have hz := (((tb2.trans (hb3.mono tb2.size)).trans tb4).trans (hb5.mono (by have := tb2.size; have := hb3.size; have := tb4.size; omega))).trans tb6
            have RB := Lib.hid (RdB.drew (RB.out.on hz))
            have RW := Lib.hid (RdB.drew to6.rd)
            have G := Lib.hid (G.out.trans (hz.mono G.out.size)).drew
            have hcc := Lib.hid (show b1 ++ encTs [s, ⟨#[120]⟩] = [] ++ b1 ++ encT s ++ encT ⟨#[120]⟩ from by simp [encTs])
            clear hz to2 to4 to6 tb2 tb4 tb6 hb3 hb5 ho3 ho5
-- REGION B
            refine reg_start (by kernel_rfl) ?_
            refine reg_take2 0 56 (v := ?_) (T' := ?_) (Later.refl _) (by kernel_rfl) (by kernel_rfl) (by kernel_rfl) (fun _ _ _ h => h) (fun o ho => ?_) ?_ ?_
            rotate_left 2
            · cases ho
              refine ⟨rfl, rfl, fun W hW => ?_⟩
              go_simp; (try with_reducible rfl)
            · simp only [List.setIfInBounds_toArray, List.set_cons_succ, List.set_cons_zero]; exact rfl
            refine reg_take2 1 57 (v := ?_) (T' := ?_) (Later.refl _) (by kernel_rfl) (by kernel_rfl) (by kernel_rfl) (fun _ _ _ h => h) (fun o ho => ?_) ?_ ?_
            rotate_left 2
            · cases ho
              refine ⟨rfl, rfl, fun W hW => ?_⟩
              go_simp; (try with_reducible rfl)
            · simp only [List.setIfInBounds_toArray, List.set_cons_succ, List.set_cons_zero]; exact rfl
            refine reg_take2 2 58 (v := ?_) (T' := ?_) (Later.refl _) (by kernel_rfl) (by kernel_rfl) (by kernel_rfl) (fun _ _ _ h => h) (fun o ho => ?_) ?_ ?_
            rotate_left 2
            · cases ho
              refine ⟨rfl, rfl, fun W hW => ?_⟩
              go_simp; (try with_reducible rfl)
            · simp only [List.setIfInBounds_toArray, List.set_cons_succ, List.set_cons_zero]; exact rfl
            refine reg_take2 3 59 (v := ?_) (T' := ?_) (Later.refl _) (by kernel_rfl) (by kernel_rfl) (by kernel_rfl) (fun _ _ _ h => h) (fun o ho => ?_) ?_ ?_
            rotate_left 2
            · cases ho
              refine ⟨rfl, rfl, fun W hW => ?_⟩
              go_simp; (try with_reducible rfl)
            · simp only [List.setIfInBounds_toArray, List.set_cons_succ, List.set_cons_zero]; exact rfl
            refine reg_take2 7 63 (v := ?_) (T' := ?_) (Later.refl _) (by kernel_rfl) (by kernel_rfl) (by kernel_rfl) (fun _ _ _ h => h) (fun o ho => ?_) ?_ ?_
            rotate_left 2
            · cases ho
              refine ⟨rfl, rfl, fun W hW => ?_⟩
              go_simp; (try with_reducible rfl)
            · simp only [List.setIfInBounds_toArray, List.set_cons_succ, List.set_cons_zero]; exact rfl
            refine reg_take2 8 64 (v := ?_) (T' := ?_) (Later.refl _) (by kernel_rfl) (by kernel_rfl) (by kernel_rfl) (fun _ _ _ h => h) (fun o ho => ?_) ?_ ?_
            rotate_left 2
            · cases ho
              refine ⟨rfl, rfl, fun W hW => ?_⟩
              have hcv := RdB.str (RdB.below RW.out hW)
              go_simp; (try with_reducible rfl)
            · simp only [List.setIfInBounds_toArray, List.set_cons_succ, List.set_cons_zero]; exact rfl
            refine reg_make2 4 60 (v := ?_) (w' := ?_) (T' := ?_) (Later.refl _) (by kernel_rfl) (fun o ho => ?_) ?_ ?_ ?_
            rotate_left 3
            · cases ho
              refine ⟨rfl, rfl, ?_⟩
              go_simp; constructor <;> with_reducible rfl
            · exact Later.alloc _ _
            · simp only [List.setIfInBounds_toArray, List.set_cons_succ, List.set_cons_zero]; exact rfl
            refine reg_call2 5 61 (Later.refl _) (by kernel_rfl) 13 #[vb, .slice (some ⟨z6.heap.size, 0, none⟩) 2 2] (fun o ho => by cases ho; exact ⟨rfl, rfl, fun W => by go_simp⟩) ?_
            refine (vary_text _ _ b1 [s, ⟨#[120]⟩] _ (RB.out.on (alloc_below z6.drew _)) (RdV.lit z6.drew _ _ [s, ⟨#[120]⟩] 2 _ rfl rfl (by simp) (by simp)) (by omega) HSS.out (by simp)).mono ?_
            rintro e x6 ⟨y6, rfl, hy6, hb6⟩
            have Y6 := Lib.hid hy6.rd
            have hb7 := (alloc_below z6.drew _).trans (hb6.mono (by simp))
            have G := Lib.hid (G.out.trans (hb7.mono G.out.size))
            have RW := Lib.hid (RW.out.on hb7)
            refine ⟨y6, _, rfl, hb6, (by simp only [List.setIfInBounds_toArray, List.set_cons_succ, List.set_cons_zero]; exact rfl), ?_⟩
            clear hy6 hb6 hb7
            refine reg_take2 6 62 (v := ?_) (T' := ?_) (Later.refl _) (by kernel_rfl) (by kernel_rfl) (by kernel_rfl) (fun _ _ _ h => h) (fun o ho => ?_) ?_ ?_
            rotate_left 2
            · cases ho
              refine ⟨rfl, rfl, fun W hW => ?_⟩
              have hcv := RdB.str (RdB.below Y6.out hW)
              rw [hcc.out] at hcv
              go_simp; (try with_reducible rfl)
            · simp only [List.setIfInBounds_toArray, List.set_cons_succ, List.set_cons_zero]; exact rfl
            refine reg_take2 9 65 (v := ?_) (T' := ?_) (Later.refl _) (by kernel_rfl) (by kernel_rfl) (by kernel_rfl) (fun _ _ _ h => h) (fun o ho => ?_) ?_ ?_
            rotate_left 2
            · cases ho
              refine ⟨rfl, rfl, fun W hW => ?_⟩
              go_simp; (try with_reducible rfl)
            · simp only [List.setIfInBounds_toArray, List.set_cons_succ, List.set_cons_zero]; exact rfl
            refine reg_take2 10 66 (v := ?_) (T' := ?_) (Later.refl _) (by kernel_rfl) (by kernel_rfl) (by kernel_rfl) (fun _ _ _ h => h) (fun o ho => ?_) ?_ ?_
            rotate_left 2
            · cases ho
              refine ⟨rfl, rfl, fun W hW => ?_⟩
              go_simp; (try with_reducible rfl)
            · simp only [List.setIfInBounds_toArray, List.set_cons_succ, List.set_cons_zero]; exact rfl
            refine reg_take2 11 67 (v := ?_) (T' := ?_) (Later.refl _) (by kernel_rfl) (by kernel_rfl) (by kernel_rfl) (fun _ _ _ h => h) (fun o ho => ?_) ?_ ?_
            rotate_left 2
            · cases ho
              refine ⟨rfl, rfl, fun W hW => ?_⟩
              go_simp; (try with_reducible rfl)
            · simp only [List.setIfInBounds_toArray, List.set_cons_succ, List.set_cons_zero]; exact rfl
            refine reg_call2 12 68 (Later.refl _) (by kernel_rfl) 14 #[] (fun o ho => by cases ho; exact ⟨rfl, rfl, fun W => by go_simp⟩) ?_
            refine (lives_any _).mono ?_
            rintro e x8 ⟨rfl, hb8⟩
            have G := Lib.hid (G.out.trans (hb8.mono G.out.size))
            refine ⟨.bool true, _, rfl, hb8, (by simp only [List.setIfInBounds_toArray, List.set_cons_succ, List.set_cons_zero]; exact rfl), ?_⟩
            clear hb8
            refine reg_take2 13 69 (v := ?_) (T' := ?_) (Later.refl _) (by kernel_rfl) (by kernel_rfl) (by kernel_rfl) (fun _ _ _ h => h) (fun o ho => ?_) ?_ ?_
            rotate_left 2
            · cases ho
              refine ⟨rfl, rfl, fun W hW => ?_⟩
              go_simp; (try with_reducible rfl)
            · simp only [List.setIfInBounds_toArray, List.set_cons_succ, List.set_cons_zero]; exact rfl
            refine reg_take2 14 6 (v := ?_) (T' := ?_) (Later.refl _) (by kernel_rfl) (by kernel_rfl) (by kernel_rfl) (fun _ _ _ h => h) (fun o ho => ?_) ?_ ?_
            rotate_left 2
            · cases ho
              refine ⟨rfl, rfl, fun W hW => ?_⟩
              go_simp; (try with_reducible rfl)
            · simp only [List.setIfInBounds_toArray, List.set_cons_succ, List.set_cons_zero]; exact rfl
            refine reg_done (by kernel_rfl) ?_
            -- DONE B
            go_wp2
            go_ret
            exact ⟨rfl, G.out⟩
          · have := tb2.size; have := hb3.size; have := tb4.size; have := hb5.size; omega
          · have := encT_len s (by omega); rw [enc_x]; simp; omega
          · have := tb2.size; have := hb3.size; omega
          · have := encT_len s (by omega); simp; omega
          · exact Nat.le_refl _
          · simp; omega
    all_goals first | omega | (simp only [List.length_nil]; omega)
-- END
set_option maxRecDepth 100000 in
theorem lifted (os : Os) (started : os.Started) (H : Type) (enc : TypeId × Value → H) :
    ReturnsInHanded {} Try.checked os 3 .any (Rows.varyPutsSpec.pre6 enc Try.prog Try.f3 Rows.varyPutsRow.domain false) (Rows.varyPutsSpec.post enc Try.prog Try.f3 false true false false) := by
  refine returnsInHanded_of_change (C := Try.checked) Try.own started (by kernel_rfl) Try.func3
    (ChangeSpec.witness6 (enc := enc) (C := Try.checked) false ⟨#[], #[.slice none 0 0, .slice none 0 0, .string ⟨#[]⟩], []⟩ 8 (by kernel_rfl) (by kernel_rfl) (by kernel_rfl) (by kernel_rfl)) ?_
  intro W base args ds gs before hval0 hW _ _
  have hval : ∀ (j : Nat) t v, Try.f3.params[j]? = some t → args[j]? = some v → Value.okWide Try.prog W .any base t v := hval0
  have hW' := hW
  obtain ⟨p, q, hA0, hV, rfl, _, _⟩ := hW
  have hA : DataW.TrodAll enc Try.prog W 0 (fun _ => true) true Try.f3.params.toList args.toList ds p := hA0
  rw [Try.params3] at hA hval
  obtain ⟨v0, v1, v2, d0, d1, d2, p0, p1, p2, rfl, rfl, rfl, h0, h1, h2⟩ := trodAll_three hA
  obtain ⟨rfl, rfl⟩ := trodVars_none hV
  have hlt := fun x hx => hW'.lt x hx
  obtain ⟨a0, r0⟩ := open_bytes (hval 0 _ v0 rfl rfl) h0 (fun x hx => by simpa using hlt x (by simp [hx]))
  obtain ⟨a1, r1, b1⟩ := open_nums (hval 1 _ v1 rfl rfl) h1 (fun x hx => by simpa using hlt x (by simp [hx]))
  obtain ⟨a2, rfl, rfl, rfl, w2⟩ := ChangeMaps.open_string Try.underlying9 (hval 2 _ v2 rfl rfl) h2
  simp only [maxLen] at w2
  refine (walk v0 v1 a0 a1 a2 W r0 r1 b1 (by omega)).mono fun e W' ⟨he, hb⟩ => ⟨_, he, ?_⟩
  exact law_post Try.laidOut (by decide +kernel) rfl Try.underlying4 rfl hW' rfl hb

theorem holds : Rows.VaryPutsSaid :=
  OpenClaim.holds_of_wide 3 Try.f3 rfl rfl rfl rfl rfl rfl rfl ⟨rfl, rfl, rfl, rfl, rfl⟩ rfl rfl rfl rfl rfl (by kernel_rfl) Try.func3 (by kernel_rfl)
    (of_decide_eq_true (by kernel_rfl)) (by unfold Func.isWrapper; first | (rw [if_pos (by decide +kernel)]; kernel_rfl) | (rw [if_neg (by decide +kernel)]; exact ⟨rfl, rfl⟩))
    (fun os started H enc _ => lifted os started H enc)
end Go.Proofs.Yticfjpnocpcopaa.L01
