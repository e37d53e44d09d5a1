/- OrderNumbers: for every two numbers, and every two texts (their first 40 bytes), a number's bytes are 9, in the numbers' order, and keys are in the order of their texts. No conditions. -/
import Derived.Test.YtnapadpkfjpklaaOq
import Derived.ChangeMaps5
namespace Go.Proofs.Ytnapadpkfjpklaa.L08
open Go.RowKit Go.ChangeShapes Go.WideShapes Go.ChangeAt Go.ChangeMaps
set_option linter.unusedVariables false

theorem num_bytes (a : Int) : encParts [⟨false, a, ⟨#[]⟩⟩] = 1 :: encNum a := by simp [encParts, encPart]
theorem num_less (a b : Int) (ha : -9223372036854775808 ≤ a ∧ a ≤ 9223372036854775807) (hb : -9223372036854775808 ≤ b ∧ b ≤ 9223372036854775807) : Op.bytesLess (1 :: encNum a) (1 :: encNum b) = decide (a < b) := by
  have := cmp_encParts [⟨false, a, ⟨#[]⟩⟩] [⟨false, b, ⟨#[]⟩⟩] (by simpa using ha) (by simpa using hb)
  rw [num_bytes, num_bytes] at this
  rw [less_iff, this]
  simp only [cmpParts, cmpPart, cmpInt]
  by_cases h1 : a < b
  · simp [h1]
  · by_cases h2 : b < a
    · simp [h1, h2]
    · simp [h1, h2]
theorem key_less (n : Int) (s t : ByteArray) : Op.bytesLess (keyBytes n s) (keyBytes n t) = Op.bytesLess s.toList t.toList := by
  rw [less_iff, less_iff, ByteArray.toList_eq, ByteArray.toList_eq]
  unfold keyBytes
  rw [cmpStr_app]
  simp only [encPart, if_true]
  rw [cmpStr_cons]
  rcases cmp_text s.data.toList t.data.toList with h | h
  · rw [h, cmpStr_eq, cmpStr_eq]
  · rw [h [] []]

/-- The bytes of a tuple of one number, written. -/
theorem write_num (a : Int) (w : World) (ha : -9223372036854775808 ≤ a ∧ a ≤ 9223372036854775807) :
    Calls Try.prog 12 #[.slice (some ⟨w.heap.size, 0, none⟩) 1 1] (w.alloc (.cells #[.bool false, .int .i64 a, .string ⟨#[]⟩] 43)) fun e w' => ∃ A c, e = .returned (.slice A 9 c) ∧ RdB w' w'.heap.size (.slice A 9 c) (1 :: encNum a) ∧ Below w.heap.size w w' := by
  refine (order_write _ [⟨false, a, ⟨#[]⟩⟩] (w.alloc (.cells #[.bool false, .int .i64 a, .string ⟨#[]⟩] 43)) (by simpa using rd_one w ⟨false, a, ⟨#[]⟩⟩) (by intro p hp; simp at hp; subst hp; exact partOk_mk ha.1 ha.2 (by decide)) (by simp)).mono ?_
  rintro e w' ⟨v, rfl, ho, hb⟩
  rw [num_bytes] at ho
  have hr := ho.rd
  obtain ⟨A, c, rfl, h1, h2, h3⟩ := hr
  have hl : (1 :: encNum a).length = 9 := by simp [encNum_length]
  rw [hl]
  exact ⟨A, c, rfl, ⟨A, c, by rw [hl], h1, h2, h3⟩, ((Below.refl _ _).alloc (Nat.le_refl _) _).trans (hb.mono (by simp))⟩

set_option maxHeartbeats 1000000 in
theorem walk (a b : Int) (s t : ByteArray) (w : World) (ha : -9223372036854775808 ≤ a ∧ a ≤ 9223372036854775807) (hb : -9223372036854775808 ≤ b ∧ b ≤ 9223372036854775807) (hs : s.size ≤ 9223372036854775807) (ht : t.size ≤ 9223372036854775807) :
    Calls Try.prog 10 #[.int .i64 a, .int .i64 b, .string s, .string t] w fun e w' => e = .returned (.bool true) ∧ Below w.heap.size w w' := by
  have HA := Lib.hid ha
  have HB := Lib.hid hb
  have n1 := num_less a b ha hb
  have k1 := fun s t => key_less 2 s t
  have K1 := Lib.hid k1
  have N1 := Lib.hid n1
  clear n1 k1 ha hb
  by_cases h1 : 40 < s.size <;> by_cases h2 : 40 < t.size
  all_goals
    go_enter Try.func10, Try.ntmps10
    go_wp2_with fail
    refine (write_num a _ HA.out).mono ?_
    rintro e w1 ⟨A1, c1, rfl, hr1, hb1⟩
    have H1 := Lib.hid hb1
    have hs1 := hb1.size
    have R1 := Lib.hid hr1
    clear hb1 hr1
    go_wp2_with fail
    refine (write_num b _ HB.out).mono ?_
    rintro e w2 ⟨A2, c2, rfl, hr2, hb2⟩
    have R2 := Lib.hid hr2
    have R1 := Lib.hid (R1.out.on hb2)
    have H2 := Lib.hid (H1.out.trans (hb2.mono hs1))
    have hs2 := H2.out.size
    clear hb2 hr2
    go_wp2_with fail
    refine (key_ok 2 _ _ (by omega) (by omega) (by first | assumption | (simp only [ByteArray.size_extract]; omega) | omega)).mono ?_
    rintro e w3 ⟨rfl, hb3⟩
    have R2 := Lib.hid (R2.out.on hb3)
    have R1 := Lib.hid (R1.out.on hb3)
    have H3 := Lib.hid (H2.out.trans (hb3.mono hs2))
    have hs3 := H3.out.size
    clear hb3
    go_wp2_with fail
    refine (key_ok 2 _ _ (by omega) (by omega) (by first | assumption | (simp only [ByteArray.size_extract]; omega) | omega)).mono ?_
    rintro e w4 ⟨rfl, hb4⟩
    have R2 := Lib.hid (R2.out.on hb4)
    have R1 := Lib.hid (R1.out.on hb4)
    have H4 := Lib.hid (H3.out.trans (hb4.mono hs3))
    have hs4 := H4.out.size
    have cv1 := R1.out.str
    have cv2 := R2.out.str
    have n1 := N1.out
    have k1 := K1.out
    clear hb4
    go_wp2_with fail
    refine (lives_any _).mono ?_
    rintro e w6 ⟨rfl, hb6⟩
    have H6 := Lib.hid (H4.out.trans (hb6.mono hs4))
    clear hb6
    go_wp2_with fail
    go_ret
    exact ⟨rfl, H6.out⟩

set_option maxRecDepth 100000 in
theorem lifted (os : Os) (started : os.Started) (H : Type) (enc : TypeId × Value → H) :
    ReturnsInHanded {} Try.checked os 10 .any (Rows.orderNumbersSpec.pre6 enc Try.prog Try.f10 Rows.orderNumbersRow.domain false) (Rows.orderNumbersSpec.post enc Try.prog Try.f10 false true false false) := by
  refine returnsInHanded_of_change (C := Try.checked) Try.own started (by kernel_rfl) Try.func10
    (ChangeSpec.witness6 (enc := enc) (C := Try.checked) false ⟨#[], #[.int .i64 0, .int .i64 0, .string ⟨#[]⟩, .string ⟨#[]⟩], []⟩ 8 (by kernel_rfl) (by kernel_rfl) (by kernel_rfl) (by kernel_rfl)) ?_
  intro W base args ds gs before hval0 hW _ _
  have hval : ∀ (j : Nat) t v, Try.f10.params[j]? = some t → args[j]? = some v → Value.okWide Try.prog W .any base t v := hval0
  have hW' := hW
  obtain ⟨p, q, hA0, hV, rfl, _, _⟩ := hW
  have hA : DataW.TrodAll enc Try.prog W 0 (fun _ => true) true Try.f10.params.toList args.toList ds p := hA0
  rw [Try.params10] at hA hval
  obtain ⟨v0, v1, v2, v3, d0, d1, d2, d3, p0, p1, p2, p3, rfl, rfl, rfl, h0, h1, h2, h3⟩ := trodAll_four hA
  obtain ⟨rfl, rfl⟩ := trodVars_none hV
  obtain ⟨a, rfl, rfl, rfl, wa⟩ := open_int Try.underlying3 (hval 0 _ v0 rfl rfl) h0
  obtain ⟨b, rfl, rfl, rfl, wb⟩ := open_int Try.underlying3 (hval 1 _ v1 rfl rfl) h1
  obtain ⟨s, rfl, rfl, rfl, ws⟩ := open_string Try.underlying9 (hval 2 _ v2 rfl rfl) h2
  obtain ⟨t, rfl, rfl, rfl, wt⟩ := open_string Try.underlying9 (hval 3 _ v3 rfl rfl) h3
  simp only [maxLen] at ws wt
  refine (walk a b s t W (wf_int wa) (wf_int wb) (by omega) (by omega)).mono fun e W' ⟨he, hb⟩ => ⟨_, he, ?_⟩
  exact law_post Try.laidOut (by decide +kernel) rfl Try.underlying4 rfl hW' rfl hb

theorem holds : Rows.OrderNumbersSaid :=
  OpenClaim.holds_of_wide 10 Try.f10 rfl rfl rfl rfl rfl rfl rfl ⟨rfl, rfl, rfl, rfl, rfl⟩ rfl rfl rfl rfl rfl (by kernel_rfl) Try.func10 (by kernel_rfl)
    (of_decide_eq_true (by kernel_rfl)) (by unfold Func.isWrapper; first | (rw [if_pos (by decide +kernel)]; kernel_rfl) | (rw [if_neg (by decide +kernel)]; exact ⟨rfl, rfl⟩))
    (fun os started H enc _ => lifted os started H enc)
end Go.Proofs.Ytnapadpkfjpklaa.L08
