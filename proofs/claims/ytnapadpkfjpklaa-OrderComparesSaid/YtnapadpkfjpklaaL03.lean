/- OrderCompares: for every two tuples the program's order is the document's, and turned round it is its negative. No conditions. -/
import Derived.Test.YtnapadpkfjpklaaOk
import Derived.Test.YtnapadpkfjpklaaOl
namespace Go.Proofs.Ytnapadpkfjpklaa.L03
open Go.RowKit Go.ChangeShapes Go.WideShapes Go.ChangeAt
set_option linter.unusedVariables false

theorem cmpInt_anti (a b : Int) : cmpInt b a = - cmpInt a b := by
  unfold cmpInt
  by_cases h1 : a < b
  · rw [if_neg (by omega), if_pos h1, if_pos h1]; rfl
  · by_cases h2 : b < a
    · rw [if_pos h2, if_neg h1, if_pos h2]
    · rw [if_neg h2, if_neg h1, if_neg h1, if_neg h2]; rfl
theorem cmpStr_anti (a b : List UInt8) : cmpStr b a = - cmpStr a b := by
  by_cases h1 : Op.bytesLess a b = true
  · rw [cmpStr_lt h1, cmpStr_gt h1]; rfl
  · have h1' : Op.bytesLess a b = false := by simpa using h1
    by_cases h2 : a = b
    · subst h2; rw [cmpStr_eq]; rfl
    · have h3 := less_total _ _ h1' h2
      rw [cmpStr_lt h3, cmpStr_gt h3]
theorem cmpPart_anti (p q : PartD) : cmpPart q p = - cmpPart p q := by
  unfold cmpPart
  rcases p with ⟨_ | _, n, s⟩ <;> rcases q with ⟨_ | _, m, t⟩ <;> simp [cmpInt_anti n m, cmpStr_anti s.toList t.toList]
theorem cmpParts_anti : ∀ (l m : List PartD), cmpParts m l = - cmpParts l m
  | [], [] => rfl
  | [], _ :: _ => rfl
  | _ :: _, [] => rfl
  | p :: l, q :: m => by
    unfold cmpParts
    rw [cmpPart_anti p q, cmpParts_anti l m]
    by_cases h : cmpPart p q = 0
    · simp [h]
    · have : ¬ - cmpPart p q = 0 := by omega
      simp [h, this]
theorem cmpStr_bd (a b : List UInt8) : -1 ≤ cmpStr a b ∧ cmpStr a b ≤ 1 := by
  unfold cmpStr; split
  · omega
  · split <;> omega
theorem cmpInt_bd (a b : Int) : -1 ≤ cmpInt a b ∧ cmpInt a b ≤ 1 := by
  unfold cmpInt; split
  · omega
  · split <;> omega
theorem cmpPart_bd (p q : PartD) : -1 ≤ cmpPart p q ∧ cmpPart p q ≤ 1 := by
  unfold cmpPart
  split
  · split
    · exact cmpStr_bd _ _
    · omega
  · split
    · omega
    · exact cmpInt_bd _ _
theorem cmpParts_bd : ∀ (l m : List PartD), -1 ≤ cmpParts l m ∧ cmpParts l m ≤ 1
  | [], [] => by simp [cmpParts]
  | [], _ :: _ => by simp [cmpParts]
  | _ :: _, [] => by simp [cmpParts]
  | p :: l, q :: m => by
    unfold cmpParts
    split
    · exact cmpParts_bd l m
    · exact cmpPart_bd p q

set_option maxHeartbeats 400000 in
theorem walk (va vb : Value) (l m : List PartD) (w : World) (ha : RdParts w w.heap.size va l) (hb : RdParts w w.heap.size vb m) :
    Calls Try.prog 5 #[va, vb] w fun e w' => e = .returned (.bool true) ∧ Below w.heap.size w w' := by
  have hA := Lib.hid ha
  have hB := Lib.hid hb
  clear ha hb
  obtain ⟨hc1, hc2⟩ := cmpParts_bd (cutL l) (cutL m)
  have hanti := Lib.hid (cmpParts_anti (cutL l) (cutL m))
  have hbd := cmpParts_bd (cutL m) (cutL l)
  generalize hcc : cmpParts (cutL l) (cutL m) = c at *
  have HC := Lib.hid hcc
  clear hcc
  go_enter Try.func5, Try.ntmps5
  go_wp2_with fail
  refine (ref_cut va l _ hA.out).mono ?_
  rintro e w1 ⟨v1, rfl, ho1, hb1⟩
  have hb' := Lib.hid (hB.out.on hb1)
  have HO1 := Lib.hid ho1.rd
  have hs1 := hb1.size
  have H1 := Lib.hid hb1
  clear ho1 hb1
  go_wp2_with fail
  refine (ref_cut vb m _ hb'.out).mono ?_
  rintro e w2 ⟨v2, rfl, ho2, hb2⟩
  have HO2 := Lib.hid ho2.rd
  have HO1' := Lib.hid (HO1.out.on hb2)
  have H2 := Lib.hid (H1.out.trans (hb2.mono hs1))
  have hs2 := H2.out.size
  clear ho2 hb2
  go_wp2_with fail
  refine (order_compare v1 v2 (cutL l) (cutL m) _ HO1'.out HO2.out).mono ?_
  rintro e w3 ⟨rfl, hb3⟩
  have HA3 := Lib.hid (HO1'.out.on hb3)
  have HB3 := Lib.hid (HO2.out.on hb3)
  have H3 := Lib.hid (H2.out.trans (hb3.mono hs2))
  have hs3 := H3.out.size
  clear hb3
  rw [HC.out]
  go_wp2_with fail
  refine (ref_compare v1 v2 (cutL l) (cutL m) _ HA3.out HB3.out).mono ?_
  rintro e w4 ⟨rfl, hb4⟩
  have HA4 := Lib.hid (HA3.out.on hb4)
  have HB4 := Lib.hid (HB3.out.on hb4)
  have H4 := Lib.hid (H3.out.trans (hb4.mono hs3))
  have hs4 := H4.out.size
  clear hb4
  rw [HC.out]
  go_wp2_with fail
  refine (order_compare v2 v1 (cutL m) (cutL l) _ HB4.out HA4.out).mono ?_
  rintro e w5 ⟨rfl, hb5⟩
  have H5 := Lib.hid (H4.out.trans (hb5.mono hs4))
  have hs5 := H5.out.size
  clear hb5
  rw [hanti.out]
  go_wp2_with fail
  refine (lives_any _).mono ?_
  rintro e w6 ⟨rfl, hb6⟩
  have H6 := Lib.hid (H5.out.trans (hb6.mono hs5))
  clear hb6
  go_wp2_with fail
  go_ret
  exact ⟨rfl, H6.out⟩

set_option maxRecDepth 100000 in
theorem lifted (os : Os) (started : os.Started) (H : Type) (enc : TypeId × Value → H) :
    ReturnsInHanded {} Try.checked os 5 .any (Rows.orderComparesSpec.pre6 enc Try.prog Try.f5 Rows.orderComparesRow.domain false) (Rows.orderComparesSpec.post enc Try.prog Try.f5 false true false false) := by
  refine returnsInHanded_of_change (C := Try.checked) Try.own started (by kernel_rfl) Try.func5
    (ChangeSpec.witness6 (enc := enc) (C := Try.checked) false ⟨#[], #[.slice none 0 0, .slice none 0 0], []⟩ 8 (by kernel_rfl) (by kernel_rfl) (by kernel_rfl) (by kernel_rfl)) ?_
  intro W base args ds gs before hval0 hW _ _
  have hval : ∀ (j : Nat) t v, Try.f5.params[j]? = some t → args[j]? = some v → Value.okWide Try.prog W .any base t v := hval0
  have hW' := hW
  obtain ⟨p, q, hA0, hV, rfl, _, _⟩ := hW
  have hA : DataW.TrodAll enc Try.prog W 0 (fun _ => true) true Try.f5.params.toList args.toList ds p := hA0
  rw [Try.params5] at hA hval
  obtain ⟨v0, v1, d0, d1, p0, p1, rfl, rfl, rfl, h0, h1⟩ := trodAll_two hA
  obtain ⟨rfl, rfl⟩ := trodVars_none hV
  have hlt : ∀ x ∈ p0 ++ p1, x.block < W.heap.size := fun x hx => by simpa using hW'.lt x (by simpa using hx)
  obtain ⟨l, hl, _⟩ := open_parts (hval 0 _ v0 rfl rfl) h0 (fun x hx => hlt x (by simp [hx]))
  obtain ⟨m, hm, _⟩ := open_parts (hval 1 _ v1 rfl rfl) h1 (fun x hx => hlt x (by simp [hx]))
  refine (walk v0 v1 l m W hl hm).mono fun e W' ⟨he, hb⟩ => ⟨_, he, ?_⟩
  exact law_post Try.laidOut (by decide +kernel) rfl Try.underlying4 rfl hW' rfl hb

theorem holds : Rows.OrderComparesSaid :=
  OpenClaim.holds_of_wide 5 Try.f5 rfl rfl rfl rfl rfl rfl rfl ⟨rfl, rfl, rfl, rfl, rfl⟩ rfl rfl rfl rfl rfl (by kernel_rfl) Try.func5 (by kernel_rfl)
    (of_decide_eq_true (by kernel_rfl)) (by unfold Func.isWrapper; first | (rw [if_pos (by decide +kernel)]; kernel_rfl) | (rw [if_neg (by decide +kernel)]; exact ⟨rfl, rfl⟩))
    (fun os started H enc _ => lifted os started H enc)
end Go.Proofs.Ytnapadpkfjpklaa.L03
