/- OrderKeys: for every table and text (its first 60 bytes) the key is the document's, and is split as it was, or it is refused. No conditions. -/
import Derived.Test.YtnapadpkfjpklaaOk3
import Derived.ChangeMaps5
namespace Go.Proofs.Ytnapadpkfjpklaa.L05
open Go.RowKit Go.ChangeShapes Go.WideShapes Go.ChangeAt Go.ChangeMaps
set_option linter.unusedVariables false

theorem key_back (t : Int) (s : ByteArray) (h1 : 0 ≤ t) (h2 : t ≤ 3) (h3 : s.size ≤ 40) : splitOf (keyBytes t s) = (t, s, 0) := by
  have e : keyBytes t s = encParts [⟨false, t, ⟨#[]⟩⟩, ⟨true, 0, s⟩] := by simp [keyBytes, encParts]
  have hr := rdAll_written [⟨false, t, ⟨#[]⟩⟩, ⟨true, 0, s⟩] (by
    intro p hp
    simp only [List.mem_cons, List.not_mem_nil, or_false] at hp
    rcases hp with rfl | rfl
    · exact ⟨by show _ ≤ t; omega, by show t ≤ _; omega⟩
    · exact ⟨by show _ ≤ (0 : Int); omega, by show (0 : Int) ≤ _; omega⟩)
  have h4 : t < 4 := by omega
  unfold splitOf
  rw [e, hr]
  simp [norm, keyOf, h1, h4, h3]
theorem key_size (t : Int) (s : ByteArray) (h3 : s.size ≤ 40) : (keyBytes t s).length ≤ 1000 := by
  have := encText_length s.data.toList
  have : s.data.toList.length = s.size := by simp
  simp [keyBytes, encPart, encNum_length]; omega

set_option maxHeartbeats 800000 in
theorem good (t : Int) (s : ByteArray) (w : World) (h1 : 0 ≤ t) (h2 : t ≤ 3) (h3 : s.size ≤ 40) :
    Calls Try.prog 7 #[.int .i64 t, .string s] w fun e w' => e = .returned (.bool true) ∧ Below w.heap.size w w' := by
  have hkb := Lib.hid (key_back t s h1 h2 h3)
  have hks := key_size t s h3
  go_enter Try.func7, Try.ntmps7
  go_wp2_with fail
  refine (key_ok t s _ h1 h2 h3).mono ?_
  rintro e w1 ⟨rfl, hb1⟩
  have H1 := Lib.hid hb1
  clear hb1
  go_wp2_with fail
  refine (order_split _ _ (by show (keyBytes t s).toArray.size ≤ 1000000; rw [List.size_toArray]; omega)).mono ?_
  rintro e w2 ⟨rfl, hb2⟩
  have H2 := Lib.hid (H1.out.trans (hb2.mono H1.out.size))
  clear hb2
  rw [hkb.out]
  go_wp2_with fail
  refine (ref_key t s _ (by omega) (by omega) (by omega)).mono ?_
  rintro e w3 ⟨rfl, hb3⟩
  have H3 := Lib.hid (H2.out.trans (hb3.mono H2.out.size))
  clear hb3
  go_wp2_with fail
  refine (lives_any _).mono ?_
  rintro e w6 ⟨rfl, hb6⟩
  have H6 := Lib.hid (H3.out.trans (hb6.mono (H3.out.size)))
  clear hb6
  go_wp2_with fail
  go_ret
  exact ⟨rfl, H6.out⟩

set_option maxHeartbeats 800000 in
theorem long (t : Int) (s : ByteArray) (w : World) (h1 : 0 ≤ t) (h2 : t ≤ 3) (h3 : 40 < s.size) (h4 : s.size ≤ 9223372036854775807) :
    Calls Try.prog 7 #[.int .i64 t, .string s] w fun e w' => e = .returned (.bool true) ∧ Below w.heap.size w w' := by
  by_cases h5 : 60 < s.size
  all_goals
    go_enter Try.func7, Try.ntmps7
    go_wp2_with fail
    refine (key_long t _ _ h1 h2 (by first | omega | (simp only [ByteArray.size_extract]; omega))).mono ?_
    rintro e w1 ⟨rfl, rfl⟩
    have H1 := Lib.hid (Below.refl w.heap.size w)
    go_wp2_with fail
    refine (lives_any _).mono ?_
    rintro e w6 ⟨rfl, hb6⟩
    have H6 := Lib.hid (H1.out.trans (hb6.mono (H1.out.size)))
    clear hb6
    go_wp2_with fail
    go_ret
    exact ⟨rfl, H6.out⟩

set_option maxHeartbeats 800000 in
theorem none_ (t : Int) (s : ByteArray) (w : World) (h1 : t < 0 ∨ 3 < t) (h4 : s.size ≤ 9223372036854775807) :
    Calls Try.prog 7 #[.int .i64 t, .string s] w fun e w' => e = .returned (.bool true) ∧ Below w.heap.size w w' := by
  have h1' := h1
  rcases h1' with h6 | h6 <;> by_cases h5 : 60 < s.size
  all_goals
    go_enter Try.func7, Try.ntmps7
    go_wp2_with fail
    refine (key_arg t _ _ h1).mono ?_
    rintro e w1 ⟨rfl, rfl⟩
    have H1 := Lib.hid (Below.refl w.heap.size w)
    go_wp2_with fail
    refine (lives_any _).mono ?_
    rintro e w6 ⟨rfl, hb6⟩
    have H6 := Lib.hid (H1.out.trans (hb6.mono (H1.out.size)))
    clear hb6
    go_wp2_with fail
    go_ret
    exact ⟨rfl, H6.out⟩

theorem walk (t : Int) (s : ByteArray) (w : World) (h4 : s.size ≤ 9223372036854775807) :
    Calls Try.prog 7 #[.int .i64 t, .string s] w fun e w' => e = .returned (.bool true) ∧ Below w.heap.size w w' := by
  by_cases h1 : 0 ≤ t ∧ t ≤ 3
  · by_cases h3 : s.size ≤ 40
    · exact good t s w h1.1 h1.2 h3
    · exact long t s w h1.1 h1.2 (by omega) h4
  · exact none_ t s w (by omega) h4

set_option maxRecDepth 100000 in
theorem lifted (os : Os) (started : os.Started) (H : Type) (enc : TypeId × Value → H) :
    ReturnsInHanded {} Try.checked os 7 .any (Rows.orderKeysSpec.pre6 enc Try.prog Try.f7 Rows.orderKeysRow.domain false) (Rows.orderKeysSpec.post enc Try.prog Try.f7 false true false false) := by
  refine returnsInHanded_of_change (C := Try.checked) Try.own started (by kernel_rfl) Try.func7
    (ChangeSpec.witness6 (enc := enc) (C := Try.checked) false ⟨#[], #[.int .i64 0, .string ⟨#[]⟩], []⟩ 8 (by kernel_rfl) (by kernel_rfl) (by kernel_rfl) (by kernel_rfl)) ?_
  intro W base args ds gs before hval0 hW _ _
  have hval : ∀ (j : Nat) t v, Try.f7.params[j]? = some t → args[j]? = some v → Value.okWide Try.prog W .any base t v := hval0
  have hW' := hW
  obtain ⟨p, q, hA0, hV, rfl, _, _⟩ := hW
  have hA : DataW.TrodAll enc Try.prog W 0 (fun _ => true) true Try.f7.params.toList args.toList ds p := hA0
  rw [Try.params7] at hA hval
  obtain ⟨v0, v1, d0, d1, p0, p1, rfl, rfl, rfl, h0, h1⟩ := trodAll_two hA
  obtain ⟨rfl, rfl⟩ := trodVars_none hV
  obtain ⟨a, rfl, rfl, rfl, wa⟩ := open_int Try.underlying3 (hval 0 _ v0 rfl rfl) h0
  obtain ⟨s, rfl, rfl, rfl, ws⟩ := open_string Try.underlying9 (hval 1 _ v1 rfl rfl) h1
  refine (walk a s W (by simpa [maxLen] using ws)).mono fun e W' ⟨he, hb⟩ => ⟨_, he, ?_⟩
  exact law_post Try.laidOut (by decide +kernel) rfl Try.underlying4 rfl hW' rfl hb

theorem holds : Rows.OrderKeysSaid :=
  OpenClaim.holds_of_wide 7 Try.f7 rfl rfl rfl rfl rfl rfl rfl ⟨rfl, rfl, rfl, rfl, rfl⟩ rfl rfl rfl rfl rfl (by kernel_rfl) Try.func7 (by kernel_rfl)
    (of_decide_eq_true (by kernel_rfl)) (by unfold Func.isWrapper; first | (rw [if_pos (by decide +kernel)]; kernel_rfl) | (rw [if_neg (by decide +kernel)]; exact ⟨rfl, rfl⟩))
    (fun os started H enc _ => lifted os started H enc)
end Go.Proofs.Ytnapadpkfjpklaa.L05
