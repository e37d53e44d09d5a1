/- ChainAdds: what an index has, of keys, ranges and all, is what the document says, and what is refused is refused as it says: any versions (the first 40, few bytes), any two keys. -/
import Derived.Test.YtigdkflknhdbgaaDo
import Derived.Test.YtigdkflknhdbgaaCo
import Derived.Test.YtigdkflknhdbgaaCf
import Derived.BigQuiet
namespace Go.Proofs.Ytigdkflknhdbgaa.L01
open Go.RowKit Go.ChangeShapes Go.WideShapes Go.ChangeAt
set_option linter.unusedVariables false

set_option maxHeartbeats 8000000 in
set_option maxRecDepth 100000 in
theorem walk0 {Ch : Nat → World → (Nat → Prop) → Value → List Ver → Int → Prop} (K : ChF Ch) (LV : LivesC) (v : Value) (l : List PutC) (key tt : ByteArray) (w : World) (h : RdX putL w w.heap.size v l) (hok : ∀ x ∈ l, inK x.lv) :
    Calls Try.prog 3 #[v, .string key, .string tt] w fun z w' => z = .returned (.bool true) ∧ Below w.heap.size w w' := by
  have FI := Lib.hid (law13_filled K v l w h hok)
  have K := Lib.hid K
  have LV := Lib.hid LV
  obtain ⟨A, ca, rfl, -⟩ := id h
  clear h hok
  go_enter Try.func3, Try.ntmps3
  go_wp2_with fail
  refine FI.out.mono ?_
  rintro z w1 ⟨g, S, vr, r, ht, rfl, hc, hsb, ho, hns, hgood, hrl, hb1⟩
  have C := Lib.hid hc
  have HSB := Lib.hid hsb
  have O := Lib.hid ho
  have HNS := Lib.hid hns
  have GOOD := Lib.hid hgood
  have HR := Lib.hid (show r.length ≤ 1000 from by omega)
  have HR2 := Lib.hid (show r.length ≤ 20000 from by omega)
  have G := Lib.hid hb1
  obtain ⟨Ar, cr, ev, -⟩ := ho.rd
  subst ev
  clear hc hsb ho hns hgood hrl hb1 FI
  go_wp2_with fail
  refine (law13_like K.out _ _ _ _ r _ C.out O.out.rd (by have := HR.out; omega)).mono ?_
  rintro z wq ⟨rfl, hb⟩
  have C := Lib.hid (K.out.on C.out hb)
  have O := Lib.hid (O.out.on hb)
  have G := Lib.hid (G.out.trans (hb.mono G.out.size))
  clear hb
  go_wp2_with fail
  refine (K.out.of _ _ _ _ _ key C.out HR.out).mono ?_
  rintro z wq ⟨p1v, rfl, ho, hb⟩
  have P1 := Lib.hid ho.rd
  have C := Lib.hid (K.out.on C.out hb)
  have O := Lib.hid (O.out.on hb)
  have G := Lib.hid (G.out.trans (hb.mono G.out.size))
  obtain ⟨AP1, cP1, ev, -⟩ := ho.rd
  subst ev
  clear ho hb
  go_wp2_with fail
  refine (ref9_of _ r key _ O.out.rd HR2.out).mono ?_
  rintro z wq ⟨p2v, rfl, ho, hb⟩
  have P1 := Lib.hid (P1.out.on hb)
  have P2 := Lib.hid ho.rd
  have C := Lib.hid (K.out.on C.out hb)
  have O := Lib.hid (O.out.on hb)
  have G := Lib.hid (G.out.trans (hb.mono G.out.size))
  obtain ⟨AP2, cP2, ev, -⟩ := ho.rd
  subst ev
  clear ho hb
  go_wp2_with fail
  refine (ref6_same _ _ _ _ _ P1.out P2.out).mono ?_
  rintro z wq ⟨bq, rfl, hq, hb⟩
  obtain rfl : bq = true := hq.2 rfl
  have C := Lib.hid (K.out.on C.out hb)
  have O := Lib.hid (O.out.on hb)
  have G := Lib.hid (G.out.trans (hb.mono G.out.size))
  clear hb hq
  go_wp2_with fail
  refine (K.out.range _ _ _ _ _ key tt C.out HR.out).mono ?_
  rintro z wq ⟨p3v, rfl, ho, hb⟩
  have P3 := Lib.hid ho.rd
  have C := Lib.hid (K.out.on C.out hb)
  have O := Lib.hid (O.out.on hb)
  have G := Lib.hid (G.out.trans (hb.mono G.out.size))
  obtain ⟨AP3, cP3, ev, -⟩ := ho.rd
  subst ev
  clear ho hb
  go_wp2_with fail
  refine (ref9_range _ r key tt _ O.out.rd HR2.out).mono ?_
  rintro z wq ⟨p4v, rfl, ho, hb⟩
  have P3 := Lib.hid (P3.out.on hb)
  have P4 := Lib.hid ho.rd
  have C := Lib.hid (K.out.on C.out hb)
  have O := Lib.hid (O.out.on hb)
  have G := Lib.hid (G.out.trans (hb.mono G.out.size))
  obtain ⟨AP4, cP4, ev, -⟩ := ho.rd
  subst ev
  clear ho hb
  go_wp2_with fail
  refine (ref6_same _ _ _ _ _ P3.out P4.out).mono ?_
  rintro z wq ⟨bq, rfl, hq, hb⟩
  obtain rfl : bq = true := hq.2 rfl
  have C := Lib.hid (K.out.on C.out hb)
  have O := Lib.hid (O.out.on hb)
  have G := Lib.hid (G.out.trans (hb.mono G.out.size))
  clear hb hq
  go_wp2_with fail
  refine (LV.out _).mono ?_
  rintro z wq ⟨rfl, hb⟩
  have G := Lib.hid (G.out.trans (hb.mono G.out.size))
  clear hb
  go_wp2_with fail
  go_ret
  exact ⟨rfl, G.out⟩
-- END
set_option maxRecDepth 100000 in
theorem lifted (os : Os) (started : os.Started) (H : Type) (enc : TypeId × Value → H) :
    ReturnsInHanded {} Try.checked os 3 .any (Rows.chainAddsSpec.pre6 enc Try.prog Try.f3 Rows.chainAddsRow.domain false) (Rows.chainAddsSpec.post enc Try.prog Try.f3 false true false false) := by
  refine returnsInHanded_of_change (C := Try.checked) Try.own started (by kernel_rfl) Try.func3
    (ChangeSpec.witness6 (enc := enc) (C := Try.checked) false ⟨#[], #[.slice none 0 0, .string ⟨#[]⟩, .string ⟨#[]⟩], []⟩ 8 (by kernel_rfl) (by kernel_rfl) (by kernel_rfl) (by kernel_rfl)) ?_
  intro W base args ds gs before hval0 hW _ _
  have hval : ∀ (j : Nat) t v, Try.f3.params[j]? = some t → args[j]? = some v → Value.okWide Try.prog W .any base t v := hval0
  have hW' := hW
  obtain ⟨p, q, hA0, hV, rfl, _, _⟩ := hW
  have hA : DataW.TrodAll enc Try.prog W 0 (fun _ => true) true Try.f3.params.toList args.toList ds p := hA0
  rw [Try.params3] at hA hval
  obtain ⟨v0, v1, v2, d0, d1, d2, p0, p1, p2, rfl, rfl, rfl, h0, h1, h2⟩ := trodAll_three hA
  obtain ⟨rfl, rfl⟩ := trodVars_none hV
  have hlt := fun x hx => hW'.lt x hx
  obtain ⟨a0, r0, b0⟩ := open_puts (hval 0 _ v0 rfl rfl) h0 (fun x hx => by simpa using hlt x (by simp [hx]))
  obtain ⟨a1, rfl, rfl, rfl, w1⟩ := ChangeMaps.open_string Try.underlying9 (hval 1 _ v1 rfl rfl) h1
  simp only [maxLen] at w1
  obtain ⟨a2, rfl, rfl, rfl, w2⟩ := ChangeMaps.open_string Try.underlying9 (hval 2 _ v2 rfl rfl) h2
  simp only [maxLen] at w2
  refine (walk0 ch_k lives_c v0 a0 a1 a2 _ r0 b0).mono fun e W' ⟨he, hb⟩ => ⟨_, he, ?_⟩
  exact law_post Try.laidOut (by decide +kernel) rfl Try.underlying4 rfl hW' rfl hb

theorem holds : Rows.ChainAddsSaid :=
  OpenClaim.holds_of_wide 3 Try.f3 rfl rfl rfl rfl rfl rfl rfl ⟨rfl, rfl, rfl, rfl, rfl⟩ rfl rfl rfl rfl rfl (by kernel_rfl) Try.func3 (by kernel_rfl)
    (of_decide_eq_true (by kernel_rfl)) (by unfold Func.isWrapper; first | (rw [if_pos (by decide +kernel)]; kernel_rfl) | (rw [if_neg (by decide +kernel)]; exact ⟨rfl, rfl⟩))
    (fun os started H enc _ => lifted os started H enc)
end Go.Proofs.Ytigdkflknhdbgaa.L01
