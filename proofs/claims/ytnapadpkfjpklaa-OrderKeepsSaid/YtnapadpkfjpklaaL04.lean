/- OrderKeeps: for every two tuples their bytes are in their order. No conditions. -/
import Derived.Test.YtnapadpkfjpklaaOq
namespace Go.Proofs.Ytnapadpkfjpklaa.L04
open Go.RowKit Go.ChangeShapes Go.WideShapes Go.ChangeAt
set_option linter.unusedVariables false

set_option maxHeartbeats 400000 in
theorem walk (va vb : Value) (l m : List PartD) (w : World) (ha : RdParts w w.heap.size va l) (hb : RdParts w w.heap.size vb m) (hl : ∀ p ∈ l, PartIn p) (hm : ∀ p ∈ m, PartIn p) :
    Calls Try.prog 6 #[va, vb] w fun e w' => e = .returned (.bool true) ∧ Below w.heap.size w w' := by
  have hA := Lib.hid ha
  have hB := Lib.hid hb
  clear ha hb
  have okL := Lib.hid (cutL_ok hl)
  have okM := Lib.hid (cutL_ok hm)
  have lnL := cutL_length l
  have lnM := cutL_length m
  obtain ⟨hc1, hc2⟩ := cmpParts_bd (cutL l) (cutL m)
  have key : cmpStr (encParts (cutL l)) (encParts (cutL m)) = cmpParts (cutL l) (cutL m) := cmp_encParts _ _ (fun p hp => ⟨(cutL_ok hl p hp).1, (cutL_ok hl p hp).2.1⟩) (fun p hp => ⟨(cutL_ok hm p hp).1, (cutL_ok hm p hp).2.1⟩)
  have b1 := less_iff (encParts (cutL l)) (encParts (cutL m))
  have b2 := more_iff (encParts (cutL l)) (encParts (cutL m))
  rw [key] at b1 b2
  clear hl hm key
  generalize hcc : cmpParts (cutL l) (cutL m) = c at *
  have HC := Lib.hid hcc
  clear hcc
  have b3 : (Op.bytesLess (encParts (cutL l)) (encParts (cutL m)) || encParts (cutL l) == encParts (cutL m)) = !decide (0 < c) := by rw [← b2]; simp
  have B1 := Lib.hid b1
  have B3 := Lib.hid b3
  clear b1 b2 b3
  go_enter Try.func6, Try.ntmps6
  go_wp2_with fail
  refine (ref_cut va l _ hA.out).mono ?_
  rintro e w1 ⟨v1, rfl, ho1, hb1⟩
  have hb' := Lib.hid (hB.out.on hb1)
  have HO1 := Lib.hid ho1.rd
  have hs1 := hb1.size
  have H1 := Lib.hid hb1
  clear ho1 hb1
  go_wp2_with fail
  refine (ref_cut vb m _ hb'.out).mono ?_
  rintro e w2 ⟨v2, rfl, ho2, hb2⟩
  have HO2 := Lib.hid ho2.rd
  have HO1' := Lib.hid (HO1.out.on hb2)
  have H2 := Lib.hid (H1.out.trans (hb2.mono hs1))
  have hs2 := H2.out.size
  clear ho2 hb2
  go_wp2_with fail
  refine (order_write v1 (cutL l) _ HO1'.out okL.out (by omega)).mono ?_
  rintro e w3 ⟨x, rfl, hox, hb3⟩
  have HA3 := Lib.hid (HO1'.out.on hb3)
  have HB3 := Lib.hid (HO2.out.on hb3)
  have H3 := Lib.hid (H2.out.trans (hb3.mono hs2))
  have hs3 := H3.out.size
  have cx := hox.str
  clear hb3 hox
  go_wp2_with fail
  refine (order_write v2 (cutL m) _ HB3.out okM.out (by omega)).mono ?_
  rintro e w4 ⟨y, rfl, hoy, hb4⟩
  have HA4 := Lib.hid (HA3.out.on hb4)
  have HB4 := Lib.hid (HB3.out.on hb4)
  have H4 := Lib.hid (H3.out.trans (hb4.mono hs3))
  have hs4 := H4.out.size
  have cy := hoy.str
  clear hb4 hoy cx
  go_wp2_with fail
  refine (order_compare v1 v2 (cutL l) (cutL m) _ HA4.out HB4.out).mono ?_
  rintro e w5 ⟨rfl, hb5⟩
  have H5 := Lib.hid (H4.out.trans (hb5.mono hs4))
  have hs5 := H5.out.size
  clear hb5 cy
  rw [HC.out]
  have b1 := B1.out
  have b3 := B3.out
  generalize encParts (cutL l) = s at *
  generalize encParts (cutL m) = t at *
  have b4 : Op.bytesLess s t = false → (s == t) = !decide (0 < c) := fun h => by rw [h, Bool.false_or] at b3; exact b3
  clear b3
  rcases (by omega : c = -1 ∨ c = 0 ∨ c = 1) with rfl | rfl | rfl
  · have b5 : Op.bytesLess s t = true := by rw [b1]; rfl
    clear b1 b4
    go_wp2_with fail
    refine (lives_any _).mono ?_
    rintro e w6 ⟨rfl, hb6⟩
    have H6 := Lib.hid (H5.out.trans (hb6.mono hs5))
    clear hb6
    go_wp2_with fail
    go_ret
    exact ⟨rfl, H6.out⟩
  · have b5 : Op.bytesLess s t = false := by rw [b1]; rfl
    have b6 : (s == t) = true := by rw [b4 b5]; rfl
    clear b1 b4
    go_wp2_with fail
    refine (lives_any _).mono ?_
    rintro e w6 ⟨rfl, hb6⟩
    have H6 := Lib.hid (H5.out.trans (hb6.mono hs5))
    clear hb6
    go_wp2_with fail
    go_ret
    exact ⟨rfl, H6.out⟩
  · have b5 : Op.bytesLess s t = false := by rw [b1]; rfl
    have b6 : (s == t) = false := by rw [b4 b5]; rfl
    clear b1 b4
    go_wp2_with fail
    refine (lives_any _).mono ?_
    rintro e w6 ⟨rfl, hb6⟩
    have H6 := Lib.hid (H5.out.trans (hb6.mono hs5))
    clear hb6
    go_wp2_with fail
    go_ret
    exact ⟨rfl, H6.out⟩

set_option maxRecDepth 100000 in
theorem lifted (os : Os) (started : os.Started) (H : Type) (enc : TypeId × Value → H) :
    ReturnsInHanded {} Try.checked os 6 .any (Rows.orderKeepsSpec.pre6 enc Try.prog Try.f6 Rows.orderKeepsRow.domain false) (Rows.orderKeepsSpec.post enc Try.prog Try.f6 false true false false) := by
  refine returnsInHanded_of_change (C := Try.checked) Try.own started (by kernel_rfl) Try.func6
    (ChangeSpec.witness6 (enc := enc) (C := Try.checked) false ⟨#[], #[.slice none 0 0, .slice none 0 0], []⟩ 8 (by kernel_rfl) (by kernel_rfl) (by kernel_rfl) (by kernel_rfl)) ?_
  intro W base args ds gs before hval0 hW _ _
  have hval : ∀ (j : Nat) t v, Try.f6.params[j]? = some t → args[j]? = some v → Value.okWide Try.prog W .any base t v := hval0
  have hW' := hW
  obtain ⟨p, q, hA0, hV, rfl, _, _⟩ := hW
  have hA : DataW.TrodAll enc Try.prog W 0 (fun _ => true) true Try.f6.params.toList args.toList ds p := hA0
  rw [Try.params6] at hA hval
  obtain ⟨v0, v1, d0, d1, p0, p1, rfl, rfl, rfl, h0, h1⟩ := trodAll_two hA
  obtain ⟨rfl, rfl⟩ := trodVars_none hV
  have hlt : ∀ x ∈ p0 ++ p1, x.block < W.heap.size := fun x hx => by simpa using hW'.lt x (by simpa using hx)
  obtain ⟨l, hl, hli⟩ := open_parts (hval 0 _ v0 rfl rfl) h0 (fun x hx => hlt x (by simp [hx]))
  obtain ⟨m, hm, hmi⟩ := open_parts (hval 1 _ v1 rfl rfl) h1 (fun x hx => hlt x (by simp [hx]))
  refine (walk v0 v1 l m W hl hm hli hmi).mono fun e W' ⟨he, hb⟩ => ⟨_, he, ?_⟩
  exact law_post Try.laidOut (by decide +kernel) rfl Try.underlying4 rfl hW' rfl hb

theorem holds : Rows.OrderKeepsSaid :=
  OpenClaim.holds_of_wide 6 Try.f6 rfl rfl rfl rfl rfl rfl rfl ⟨rfl, rfl, rfl, rfl, rfl⟩ rfl rfl rfl rfl rfl (by kernel_rfl) Try.func6 (by kernel_rfl)
    (of_decide_eq_true (by kernel_rfl)) (by unfold Func.isWrapper; first | (rw [if_pos (by decide +kernel)]; kernel_rfl) | (rw [if_neg (by decide +kernel)]; exact ⟨rfl, rfl⟩))
    (fun os started H enc _ => lifted os started H enc)
end Go.Proofs.Ytnapadpkfjpklaa.L04
