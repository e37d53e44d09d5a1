/- MergeVersions: merged versions are the document's, at once and one by one: any lists (the first 5, the first 12 of each, sorted). No conditions. -/
import Derived.Test.YtnioiojafnkmhaaNm
import Derived.Test.YtnioiojafnkmhaaMo
import Derived.ChangeMaps5
import Derived.TacticsInMore
import Derived.OwnWalkIn
namespace Go.Proofs.Ytnioiojafnkmhaa.L01
open Go.RowKit Go.ChangeShapes Go.WideShapes Go.ChangeAt Go.Shelf
set_option linter.unusedVariables false
attribute [local go_sem] Oper.semAt_some

set_option maxHeartbeats 8000000 in
set_option maxRecDepth 100000 in
theorem walk (v : Value) (ls : List (List Ver)) (w : World) (h : RdXX verL w w.heap.size v ls) :
    Calls Try.prog 3 #[v] w fun e w' => e = .returned (.bool true) ∧ Below w.heap.size w w' := by
  have LV := Lib.hid (law10_lives num_k)
  have FLN := Lib.hid (Nat.le_trans (lists_flat ls) (show 60 ≤ 1000 from by decide))
  have ASC := Lib.hid (lists_asc (ls.take 5))
  have HL5 := Lib.hid (show (listsV (ls.take 5)).length ≤ 1000 from by simp only [listsV, List.length_map, List.length_take]; omega)
  have HL := Lib.hid (law10_lists v ls w h)
  obtain ⟨A, ca, rfl, -⟩ := h.form
  clear h
  generalize listsV (ls.take 5) = LS at *
  refine (callsIn_wide (n := 4)).1 ?_
  refine callsIn_of_wp_marks Try.func3 rfl trivial ?_ rfl
  simp only [Try.ntmps3, List.size_toArray, List.length_cons, List.length_nil, Nat.reduceAdd, Nat.reduceSub, Array.replicate_succ, Array.replicate_zero, List.push_toArray, List.append_toArray, List.nil_append, List.cons_append]
  gi_wp2_with fail
  refine ⟨trivial, (callsIn_wide.2 HL.out).mono ?_⟩
  rintro z w1 ⟨v1, rfl, ho1, hb1⟩
  have O1 := Lib.hid ho1.rd
  have G := Lib.hid hb1
  obtain ⟨A1, c1, e1, -⟩ := ho1.rd.form
  subst e1
  clear ho1 hb1 HL
  gi_wp2_with fail
  refine ⟨trivial, (callsIn_wide.2 (ref10_versions _ LS _ O1.out FLN.out)).mono ?_⟩
  rintro z w2 ⟨v2, rfl, ho2, hb2⟩
  have O1 := Lib.hid (O1.out.on hb2)
  have O2 := Lib.hid (OwnX.mono ho2 G.out.size)
  have G := Lib.hid (G.out.trans (hb2.mono G.out.size))
  obtain ⟨A2, c2, e2, -⟩ := ho2.rd
  subst e2
  clear ho2 hb2
  gi_wp2_with fail
  refine ⟨trivial, (callsIn_wide.2 (all_k _ LS _ O1.out ASC.out FLN.out)).mono ?_⟩
  rintro z w3 ⟨v3, rfl, ho3, hb3⟩
  have O1 := Lib.hid (O1.out.on hb3)
  have O2 := Lib.hid (O2.out.on hb3)
  have O3 := Lib.hid ho3.rd
  have G := Lib.hid (G.out.trans (hb3.mono G.out.size))
  obtain ⟨A3, c3, e3, -⟩ := ho3.rd
  subst e3
  clear ho3 hb3
  gi_wp2_with fail
  refine ⟨trivial, (callsIn_wide.2 (ref6_same _ _ _ _ _ O3.out O2.out.rd)).mono ?_⟩
  rintro z w4 ⟨r, rfl, hr, hb4⟩
  obtain rfl : r = true := hr.2 rfl
  have O1 := Lib.hid (O1.out.on hb4)
  have O2 := Lib.hid (O2.out.on hb4)
  have G := Lib.hid (G.out.trans (hb4.mono G.out.size))
  clear hb4 hr O3
  have hb5 := alloc_below w4 (.cells #[.slice none 0 0] 24)
  have O1 := Lib.hid (O1.out.on hb5)
  have B5 := Lib.hid (Boxed.new w4 24 (.slice none 0 0))
  have HV := Lib.hid (show ∀ k, (Value.slice A2 (sortR lessV LS.flatten).length c2).ownBlock = some k → k < w4.heap.size from fun k hk => (O2.out.lt k hk).2)
  have O2 := Lib.hid (O2.out.on hb5)
  have G5 := Lib.hid (G.out.trans (hb5.mono G.out.size))
  have Z5 := Lib.hid (show (w4.alloc (.cells #[.slice none 0 0] 24)).heap.size = w4.heap.size + 1 from by simp)
  have GS := Lib.hid G.out.size
  clear hb5 G
  gi_wp2_with fail
  generalize w4.alloc (.cells #[.slice none 0 0] 24) = W5 at *
  refine ⟨trivial, (callsIn_wide.2 (each_k _ LS _ O1.out ASC.out FLN.out HL5.out)).mono ?_⟩
  rintro z W6 ⟨s1, s2, m, rfl, hb6, hm1, hm2, hT⟩
  have TL := Lib.hid (hT TAV False w.heap.size ta_freeV (by decide))
  have O2 := Lib.hid (O2.out.on hb6)
  have B6 := Lib.hid (show Boxed W6 w4.heap.size 24 (.slice none 0 0) from (hb6.block _ B5.out.lt).trans B5.out)
  have G6 := Lib.hid (G5.out.trans (hb6.mono G5.out.size))
  have M1 := Lib.hid hm1
  have M2 := Lib.hid hm2
  clear hb6 hm1 hm2 hT O1 B5
  have hqf := fun (W : World) => run_eql_func_nil (P := Try.prog) W Try.underlying36 ⟨_, _, _, rfl⟩ (.func 34) #[] #[.pointer (some ⟨s1, 0, none⟩), .pointer (some ⟨s2, 0, none⟩)]
  gi_wp2_with fail
  clear hqf
  generalize hXS : sortR lessV LS.flatten = XS at *
  have HXL := Lib.hid (show XS.length ≤ 1000 from by rw [← hXS, sortR_len]; exact FLN.out)
  clear hXS
  have hz5 := Z5.out
  have hm1 := M1.out
  have hm2 := M2.out
  have hgs := GS.out
  refine wpIn_rangeTell2 (P := Try.prog) (Z := False) (T := TAV) (Kp := fun k => W5.heap.size ≤ k ∧ k < m) (gf := 34) rfl (enters_of Try.func34 (by kernel_rfl) rfl) TL.out G6.out.size (fun k h => by omega) (Below.refl _ _) (fun _ => rfl)
    (fun pre X => (∃ u, Boxed X w4.heap.size 24 u ∧ OwnVr X m u pre) ∧ OwnVr X w.heap.size (.slice A2 XS.length c2) XS ∧ Below w.heap.size w X ∧ m ≤ X.heap.size)
    (fun _ _ _ => False)
    (fun s X Y hs htw => by
      obtain ⟨⟨v, h1, h2⟩, h5, h3, h4⟩ := hs
      exact ⟨⟨v, htw.cells _ _ _ _ h1 (by decide), htw.own h2 (by decide)⟩, htw.own h5 (by decide), h3.trans (htw.below (by omega) (by omega)), Nat.le_trans h4 htw.size⟩)
    (fun _ _ _ _ hs _ => hs)
    ⟨⟨_, B6.out, OwnX.nil _ _⟩, O2.out, G6.out, by omega⟩
    (fun x a' X => ∃ Bx, w4.heap.size < Bx ∧ Box X Bx (verL.enc x).toArray 33 ∧ a' = { tmps := #[.slice A ls.length ca, undef, .bool false, .slice A1 LS.length c1, .slice A2 XS.length c2, .bool true, .pointer (some ⟨w4.heap.size, 0, none⟩), .func (.func 34) #[] #[.pointer (some ⟨s1, 0, none⟩), .pointer (some ⟨s2, 0, none⟩)], .pointer (some ⟨Bx, 0, none⟩), .slice A ls.length ca, .slice A1 LS.length c1, .slice A1 LS.length c1, .slice A2 XS.length c2, .slice A1 LS.length c1, .slice A3 XS.length c3, .slice A2 XS.length c2, .bool true, .slice A1 LS.length c1, .func (.func 34) #[] #[.pointer (some ⟨s1, 0, none⟩), .pointer (some ⟨s2, 0, none⟩)], .func (.func 34) #[] #[.pointer (some ⟨s1, 0, none⟩), .pointer (some ⟨s2, 0, none⟩)], .bool false, .func (.func 34) #[] #[.pointer (some ⟨s1, 0, none⟩), .pointer (some ⟨s2, 0, none⟩)], verV x, undef, undef, undef, undef, undef, undef, undef, undef, undef, undef, undef, undef, undef], defers := [] })
    (fun x a' _ X Y hs htw => by obtain ⟨Bx, h1, h2, h3⟩ := hs; exact ⟨Bx, h1, htw.cells _ _ _ _ h2 (by decide), h3⟩)
    ?assign ?body ?done ?stop
  case assign =>
    rintro l2 pre x X K hlt ⟨⟨u, h1, h2⟩, h5, h3, h4⟩ hK
    obtain ⟨kk, bb, ee, ss, ⟨xx, yy⟩, uu, gg⟩ := x
    unfold verV
    clear hz5 hm1 hm2 hgs
    gi_wp2_with fail
    have hz5 := Z5.out
    have hm1 := M1.out
    have hgs := GS.out
    exact hK _ _ ((Kr.refl _ _ _ _ X).alloc h3.size _) ⟨⟨u, h1.alloc _, h2.on (alloc_below X _)⟩, h5.on (alloc_below X _), h3.alloc h3.size _, Nat.le_trans h4 (alloc_below X _).size⟩ ⟨X.heap.size, h1.lt, Box.new X _ _ _ rfl, rfl⟩
  case body =>
    rintro l2 pre x a' X hX ⟨⟨u, h1, h2⟩, h5, h3, h4⟩ ⟨Bx, hBx, hbx, rfl⟩ hlen
    have V := Lib.hid h1
    have O := Lib.hid h2
    have Q := Lib.hid h5
    have G := Lib.hid h3
    have HM := Lib.hid h4
    have c0 := h1.cell
    obtain ⟨kk, bb, ee, ss, ⟨xx, yy⟩, uu, gg⟩ := x
    have hbx : Box X Bx #[.string kk, .int .i64 bb, .int .i64 ee, .int .i64 ss, .int .i64 xx, .int .i64 yy, .string uu, .bool gg] 33 := hbx
    have e0 := hbx.cell 0 _ rfl
    have e1 := hbx.cell 1 _ rfl
    have e2 := hbx.cell 2 _ rfl
    have e3 := hbx.cell 3 _ rfl
    have e4 := hbx.cell 4 _ rfl
    have e5 := hbx.cell 5 _ rfl
    have e6 := hbx.cell 6 _ rfl
    have e7 := hbx.cell 7 _ rfl
    obtain ⟨A0, c0', ev, -⟩ := h2.rd
    subst ev
    unfold verV
    have HNM := Lib.hid (show w4.heap.size < m from by omega)
    clear h1 h2 h3 h4 h5 hbx hz5 hm1 hm2 hgs
    gi_wp2_with (gi_at_builtin; refine wpiX_app (L := verL) rfl (.tmp 23) (.tmp 25) rfl Try.underlying24 ver_info rfl m _ pre [(⟨kk, bb, ee, ss, (xx, yy), uu, gg⟩ : Ver)] _ _ _ rfl rfl rfl rfl O.out HM.out (by rw [List.length_singleton]; omega) (by decide) ?_; intro v5 w5 ho5 hg5; obtain ⟨A5, c5, e5', -⟩ := ho5.rd; rw [List.length_append, List.length_singleton] at e5'; subst e5'; have hv5 := (V.out.alloc (.cells #[.string kk, .int .i64 bb, .int .i64 ee, .int .i64 ss, .int .i64 xx, .int .i64 yy, .string uu, .bool gg] 33)).kept hg5.grown (fun e => by have := O.out.base w4.heap.size e.symm; have := HNM.out; omega); have hc5 := hv5.cell; have hf5 := hv5.frozen)
    have hz5 := Z5.out
    have hm1 := M1.out
    have hgs := GS.out
    have hnm := HNM.out
    have hgx := G.out.size
    have hb1 : Below w.heap.size X (X.alloc (.cells #[.string kk, .int .i64 bb, .int .i64 ee, .int .i64 ss, .int .i64 xx, .int .i64 yy, .string uu, .bool gg] 33)) := (Below.refl _ X).alloc G.out.size _
    have OA := Lib.hid (O.out.on (alloc_below X (.cells #[.string kk, .int .i64 bb, .int .i64 ee, .int .i64 ss, .int .i64 xx, .int .i64 yy, .string uu, .bool gg] 33)))
    have QA := Lib.hid (Q.out.on (alloc_below X (.cells #[.string kk, .int .i64 bb, .int .i64 ee, .int .i64 ss, .int .i64 xx, .int .i64 yy, .string uu, .bool gg] 33)))
    have hb5 := hg5.below (base := w.heap.size) (by simp; omega) (fun k hk => by have := O.out.base k hk; omega)
    have hb6 := (hb1.trans hb5).setCell (p := ⟨w4.heap.size, 0, none⟩) hgs (.slice A5 (pre.length + 1) c5)
    have Q5 := QA.out.keep hg5.grown (by
      cases hq : (Value.slice A2 XS.length c2).ownBlock with
      | none => exact .inl rfl
      | some k =>
        refine .inr fun e => ?_
        have h6 := HV.out k hq
        have h7 := O.out.base k e.symm
        omega)
    have K1 : Kr TAV (fun k => W5.heap.size ≤ k ∧ k < m) w.heap.size W6.heap.size X (X.alloc (.cells #[.string kk, .int .i64 bb, .int .i64 ee, .int .i64 ss, .int .i64 xx, .int .i64 yy, .string uu, .bool gg] 33)) := (Kr.refl _ _ _ _ X).alloc hgx _
    have K2 : Kr TAV (fun k => W5.heap.size ≤ k ∧ k < m) w.heap.size W6.heap.size (X.alloc (.cells #[.string kk, .int .i64 bb, .int .i64 ee, .int .i64 ss, .int .i64 xx, .int .i64 yy, .string uu, .bool gg] 33)) w5 := kr_row OA.out (by decide) (by omega) (fun k h => by omega) (by simp; omega) hg5.grown
    have K3 : Kr TAV (fun k => W5.heap.size ≤ k ∧ k < m) w.heap.size W6.heap.size w5 (w5.setCell ⟨w4.heap.size, 0, none⟩ (.slice A5 (pre.length + 1) c5)) := Kr.of_grown (grownBy_setCell' w5 _ _) (by have := hv5.lt; omega) (fun j hj => ⟨by cases hj; exact hgs, fun hk => by cases hj; have hk : W5.heap.size ≤ w4.heap.size ∧ w4.heap.size < m := hk; omega, fun o ho => by
      cases hj
      rw [show w5.heap[w4.heap.size]? = _ from hv5] at ho
      cases ho
      exact ⟨_, _, _, rfl, by decide⟩⟩)
    refine ⟨(K1.trans K2).trans K3, ⟨_, hv5.set _, OwnX.apart ho5 (fun i hi _ => Below.heap_setCell w5 _ _ i hi) (fun e => by have := ho5.base w4.heap.size e; omega)⟩, OwnX.apart Q5 (fun i hi _ => Below.heap_setCell w5 _ _ i hi) (fun e => by have := HV.out w4.heap.size e; omega), G.out.trans hb6, ?_⟩
    have h8 := ((K1.trans K2).trans K3).size
    have h9 := HM.out
    omega
  case done =>
    rintro D ys X hD rfl ⟨⟨u, h1, h2⟩, h5, h3, h4⟩ hK
    have hc := h1.cell
    have H2 := Lib.hid h2
    have H5 := Lib.hid h5
    have H3 := Lib.hid h3
    have HK := Lib.hid hK
    have HD := Lib.hid (show w.heap.size ≤ D from by have := G6.out.size; omega)
    obtain ⟨A0, c0', ev, -⟩ := h2.rd
    subst ev
    clear h1 h2 h3 h4 h5 hz5 hm1 hm2 hgs hK hD
    gi_wp2_with fail
    refine ⟨trivial, (callsIn_wide.2 (ref6_same _ _ _ _ _ H2.out.rd H5.out.rd)).mono ?_⟩
    rintro z w7 ⟨r, rfl, hr, hb7⟩
    obtain rfl : r = true := hr.2 rfl
    have H3 := Lib.hid (H3.out.trans (hb7.mono H3.out.size))
    have HK := Lib.hid ((hb7.block D (Array.getElem?_eq_some_iff.1 HK.out).1).trans HK.out)
    clear hr hb7
    gi_wp2_with fail
    refine ⟨trivial, (callsIn_wide.2 (LV.out _)).mono ?_⟩
    rintro z w8 ⟨rfl, hb8⟩
    have H3 := Lib.hid (H3.out.trans (hb8.mono H3.out.size))
    have HK := Lib.hid ((hb8.block D (Array.getElem?_eq_some_iff.1 HK.out).1).trans HK.out)
    clear hb8
    gi_wp2_with fail
    refine ⟨by simp, .inl ⟨_, _, rfl, run_takeDeferred (show w8.heap[D]? = _ from HK.out), ?_⟩⟩
    exact ⟨_, results_tmp rfl _ _ _, rfl, H3.out.trans (belowK_b (w := w) (Nat.le_refl _) w8 D _ _ HD.out HK.out rfl rfl)⟩
  case stop =>
    rintro D c pre X _ _ h _
    exact h.elim
-- END
set_option maxRecDepth 100000 in
theorem lifted (os : Os) (started : os.Started) (H : Type) (enc : TypeId × Value → H) :
    ReturnsInHanded {} Try.checked os 3 .any (Rows.mergeVersionsSpec.pre6 enc Try.prog Try.f3 Rows.mergeVersionsRow.domain false) (Rows.mergeVersionsSpec.post enc Try.prog Try.f3 false true false false) := by
  refine returnsInHanded_of_change (C := Try.checked) Try.own started (by kernel_rfl) Try.func3
    (ChangeSpec.witness6 (enc := enc) (C := Try.checked) false ⟨#[], #[.slice none 0 0], []⟩ 8 (by kernel_rfl) (by kernel_rfl) (by kernel_rfl) (by kernel_rfl)) ?_
  intro W base args ds gs before hval0 hW _ _
  have hval : ∀ (j : Nat) t v, Try.f3.params[j]? = some t → args[j]? = some v → Value.okWide Try.prog W .any base t v := hval0
  have hW' := hW
  obtain ⟨p, q, hA0, hV, rfl, _, _⟩ := hW
  have hA : DataW.TrodAll enc Try.prog W 0 (fun _ => true) true Try.f3.params.toList args.toList ds p := hA0
  rw [Try.params3] at hA hval
  obtain ⟨v0, d0, rfl, rfl, h0⟩ := trodAll_one hA
  obtain ⟨rfl, rfl⟩ := trodVars_none hV
  have hlt : ∀ x ∈ p, x.block < W.heap.size := fun x hx => by simpa using hW'.lt x (by simpa using hx)
  obtain ⟨a0, r0, b0⟩ := open_vvs (hval 0 _ v0 rfl rfl) h0 (fun x hx => by simpa using hlt x (by simp [hx]))
  refine (walk v0 a0 _ r0).mono fun e W' ⟨he, hb⟩ => ⟨_, he, ?_⟩
  exact law_post Try.laidOut (by decide +kernel) rfl Try.underlying4 rfl hW' rfl hb

theorem holds : Rows.MergeVersionsSaid :=
  OpenClaim.holds_of_wide 3 Try.f3 rfl rfl rfl rfl rfl rfl rfl ⟨rfl, rfl, rfl, rfl, rfl⟩ rfl rfl rfl rfl rfl (by kernel_rfl) Try.func3 (by kernel_rfl)
    (of_decide_eq_true (by kernel_rfl)) (by unfold Func.isWrapper; first | (rw [if_pos (by decide +kernel)]; kernel_rfl) | (rw [if_neg (by decide +kernel)]; exact ⟨rfl, rfl⟩))
    (fun os started H enc _ => lifted os started H enc)
end Go.Proofs.Ytnioiojafnkmhaa.L01
