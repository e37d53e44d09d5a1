/- RunOpens: any bytes (the first 2000) are opened as the document opens them, or refused with its error. No conditions. -/
import Derived.Test.YtefjdmlmmoeoaaaGreatWx
import Derived.Test.YtefjdmlmmoeoaaaGreatWp
import Derived.Test.YtefjdmlmmoeoaaaGreatWr
import Derived.Test.YtefjdmlmmoeoaaaGreatRR
import Derived.Test.YtefjdmlmmoeoaaaGreatBA
import Derived.ChangeMaps5
namespace Go.Proofs.YtefjdmlmmoeoaaaGreat.L07
open Go.RowKit Go.ChangeShapes Go.WideShapes Go.ChangeAt
set_option linter.unusedVariables false

set_option maxHeartbeats 4000000 in
set_option maxRecDepth 100000 in
theorem walk (v : Value) (l : List UInt8) (w : World) (h : RdB w w.heap.size v l) :
    Calls Tryz.prog 3 #[v] w fun e w' => e = .returned (.bool true) ∧ Below w.heap.size w w' := by
  by_cases h1 : 2000 < l.length
  · obtain ⟨A, c, h2, h3⟩ := sl_head h 2000 2000 rfl (by omega)
    have R := Lib.hid h3
    have hl : (l.take 2000).length = 2000 := by rw [List.length_take]; omega
    generalize l.take 2000 = m at *
    have OP := Lib.hid (fun v w h => run_open v m w h (by omega))
    have DO := Lib.hid (fun v w h => ref9_open v m w h (by omega))
    have z1 : decide ((2000 : Int) < (l.length : Int)) = true := by simp; omega
    have hm : m.length ≤ 2000 := by omega
    obtain ⟨A0, c0, rfl, -⟩ := h
    clear h3 hl
    go_enter Tryz.func3, Tryz.ntmps3
    go_wp2_with fail
    refine (OP.out _ _ R.out).mono ?_
    rintro z w1 ⟨p, e, rfl, hb1, hor⟩
    have G := Lib.hid hb1
    have R := Lib.hid (R.out.on hb1)
    rcases hor with ⟨l1, rfl, hr1, hl1, hat⟩ | ⟨rfl, rfl, hno⟩
    case inl =>
      have RA := Lib.hid hat
      obtain ⟨nr, vb, rfl, -⟩ := hat
      have AL := Lib.hid (fun p base w h => run_all p l1 base w h hl1)
      have HR1 := Lib.hid hr1
      clear hr1 hb1
      go_wp2_with fail
      refine (DO.out _ _ R.out).mono ?_
      rintro z w2 ⟨v2, L, f, rfl, ho2, hb2, hor2⟩
      rcases hor2 with ⟨rfl, hr2⟩ | ⟨-, hno⟩
      case inr => exact absurd HR1.out (hno _)
      obtain rfl : l1 = L := IsRun.inj HR1.out hr2 (by omega)
      have RA := Lib.hid (RA.out.on hb2)
      have G := Lib.hid (G.out.trans (hb2.mono G.out.size))
      have O2 := Lib.hid ho2
      obtain ⟨A2, c2, e2, -⟩ := ho2.rd
      subst e2
      clear ho2 hb2 hr2
      go_wp2_with fail
      refine (AL.out _ _ _ RA.out).mono ?_
      rintro z w3 ⟨v3, rfl, ho3, hb3⟩
      have O2 := Lib.hid (O2.out.on hb3)
      have G := Lib.hid (G.out.trans (hb3.mono G.out.size))
      have O3 := Lib.hid ho3
      obtain ⟨A3, c3, e3, -⟩ := ho3.rd
      subst e3
      clear ho3 hb3
      go_wp2_with fail
      refine (ref6_same _ _ l1 l1 _ O3.out.rd O2.out.rd).mono ?_
      rintro z w4 ⟨r, rfl, hr, hb4⟩
      have G := Lib.hid (G.out.trans (hb4.mono G.out.size))
      obtain rfl : r = true := hr.2 rfl
      clear hr hb4
      go_wp2_with fail
      refine (lives_any9 _).mono ?_
      rintro z w8 ⟨rfl, hb⟩
      have G := Lib.hid (G.out.trans (hb.mono G.out.size))
      clear hb
      go_wp2_with fail
      go_ret
      exact ⟨rfl, G.out⟩
    case inr =>
      have HNO := Lib.hid hno
      clear hno hb1
      go_wp2_with fail
      refine (DO.out _ _ R.out).mono ?_
      rintro z w2 ⟨v2, L, f, rfl, ho2, hb2, hor2⟩
      rcases hor2 with ⟨-, hr2⟩ | ⟨rfl, -⟩
      case inl => exact absurd hr2 (HNO.out _)
      have G := Lib.hid (G.out.trans (hb2.mono G.out.size))
      obtain ⟨A2, c2, e2, -⟩ := ho2.rd
      subst e2
      clear ho2 hb2
      go_wp2_with fail
      refine (lives_any9 _).mono ?_
      rintro z w8 ⟨rfl, hb⟩
      have G := Lib.hid (G.out.trans (hb.mono G.out.size))
      clear hb
      go_wp2_with fail
      go_ret
      exact ⟨rfl, G.out⟩
  · have R := Lib.hid h
    have OP := Lib.hid (fun v w h => run_open v l w h (by omega))
    have DO := Lib.hid (fun v w h => ref9_open v l w h (by omega))
    have z1 : decide ((2000 : Int) < (l.length : Int)) = false := by rw [decide_eq_false_iff_not]; omega
    have hm : l.length ≤ 2000 := by omega
    obtain ⟨A0, c0, rfl, -⟩ := h
    go_enter Tryz.func3, Tryz.ntmps3
    go_wp2_with fail
    refine (OP.out _ _ R.out).mono ?_
    rintro z w1 ⟨p, e, rfl, hb1, hor⟩
    have G := Lib.hid hb1
    have R := Lib.hid (R.out.on hb1)
    rcases hor with ⟨l1, rfl, hr1, hl1, hat⟩ | ⟨rfl, rfl, hno⟩
    case inl =>
      have RA := Lib.hid hat
      obtain ⟨nr, vb, rfl, -⟩ := hat
      have AL := Lib.hid (fun p base w h => run_all p l1 base w h hl1)
      have HR1 := Lib.hid hr1
      clear hr1 hb1
      go_wp2_with fail
      refine (DO.out _ _ R.out).mono ?_
      rintro z w2 ⟨v2, L, f, rfl, ho2, hb2, hor2⟩
      rcases hor2 with ⟨rfl, hr2⟩ | ⟨-, hno⟩
      case inr => exact absurd HR1.out (hno _)
      obtain rfl : l1 = L := IsRun.inj HR1.out hr2 (by omega)
      have RA := Lib.hid (RA.out.on hb2)
      have G := Lib.hid (G.out.trans (hb2.mono G.out.size))
      have O2 := Lib.hid ho2
      obtain ⟨A2, c2, e2, -⟩ := ho2.rd
      subst e2
      clear ho2 hb2 hr2
      go_wp2_with fail
      refine (AL.out _ _ _ RA.out).mono ?_
      rintro z w3 ⟨v3, rfl, ho3, hb3⟩
      have O2 := Lib.hid (O2.out.on hb3)
      have G := Lib.hid (G.out.trans (hb3.mono G.out.size))
      have O3 := Lib.hid ho3
      obtain ⟨A3, c3, e3, -⟩ := ho3.rd
      subst e3
      clear ho3 hb3
      go_wp2_with fail
      refine (ref6_same _ _ l1 l1 _ O3.out.rd O2.out.rd).mono ?_
      rintro z w4 ⟨r, rfl, hr, hb4⟩
      have G := Lib.hid (G.out.trans (hb4.mono G.out.size))
      obtain rfl : r = true := hr.2 rfl
      clear hr hb4
      go_wp2_with fail
      refine (lives_any9 _).mono ?_
      rintro z w8 ⟨rfl, hb⟩
      have G := Lib.hid (G.out.trans (hb.mono G.out.size))
      clear hb
      go_wp2_with fail
      go_ret
      exact ⟨rfl, G.out⟩
    case inr =>
      have HNO := Lib.hid hno
      clear hno hb1
      go_wp2_with fail
      refine (DO.out _ _ R.out).mono ?_
      rintro z w2 ⟨v2, L, f, rfl, ho2, hb2, hor2⟩
      rcases hor2 with ⟨-, hr2⟩ | ⟨rfl, -⟩
      case inl => exact absurd hr2 (HNO.out _)
      have G := Lib.hid (G.out.trans (hb2.mono G.out.size))
      obtain ⟨A2, c2, e2, -⟩ := ho2.rd
      subst e2
      clear ho2 hb2
      go_wp2_with fail
      refine (lives_any9 _).mono ?_
      rintro z w8 ⟨rfl, hb⟩
      have G := Lib.hid (G.out.trans (hb.mono G.out.size))
      clear hb
      go_wp2_with fail
      go_ret
      exact ⟨rfl, G.out⟩
-- END
set_option maxRecDepth 100000 in
theorem lifted (os : Os) (started : os.Started) (H : Type) (enc : TypeId × Value → H) :
    ReturnsInHanded {} Tryz.checked os 3 .any (Rows.runOpensSpec.pre6 enc Tryz.prog Tryz.f3 Rows.runOpensRow.domain false) (Rows.runOpensSpec.post enc Tryz.prog Tryz.f3 false true false false) := by
  refine returnsInHanded_of_change (C := Tryz.checked) Tryz.own started (by kernel_rfl) Tryz.func3
    (ChangeSpec.witness6 (enc := enc) (C := Tryz.checked) false ⟨#[], #[.slice none 0 0], []⟩ 8 (by kernel_rfl) (by kernel_rfl) (by kernel_rfl) (by kernel_rfl)) ?_
  intro W base args ds gs before hval0 hW _ _
  have hval : ∀ (j : Nat) t v, Tryz.f3.params[j]? = some t → args[j]? = some v → Value.okWide Tryz.prog W .any base t v := hval0
  have hW' := hW
  obtain ⟨p, q, hA0, hV, rfl, _, _⟩ := hW
  have hA : DataW.TrodAll enc Tryz.prog W 0 (fun _ => true) true Tryz.f3.params.toList args.toList ds p := hA0
  rw [Tryz.params3] at hA hval
  obtain ⟨v0, d0, rfl, rfl, h0⟩ := trodAll_one hA
  obtain ⟨rfl, rfl⟩ := trodVars_none hV
  have hlt : ∀ x ∈ p, x.block < W.heap.size := fun x hx => by simpa using hW'.lt x (by simpa using hx)
  obtain ⟨a0, r0⟩ := open_bytes (hval 0 _ v0 rfl rfl) h0 (fun x hx => by simpa using hlt x (by simp [hx]))
  refine (walk v0 a0 _ r0).mono fun e W' ⟨he, hb⟩ => ⟨_, he, ?_⟩
  exact law_post Tryz.laidOut (by decide +kernel) rfl Tryz.underlying4 rfl hW' rfl hb

theorem holds : Rows.RunOpensSaid :=
  OpenClaim.holds_of_wide 3 Tryz.f3 rfl rfl rfl rfl rfl rfl rfl ⟨rfl, rfl, rfl, rfl, rfl⟩ rfl rfl rfl rfl rfl (by kernel_rfl) Tryz.func3 (by kernel_rfl)
    (of_decide_eq_true (by kernel_rfl)) (by unfold Func.isWrapper; first | (rw [if_pos (by decide +kernel)]; kernel_rfl) | (rw [if_neg (by decide +kernel)]; exact ⟨rfl, rfl⟩))
    (fun os started H enc _ => lifted os started H enc)
end Go.Proofs.YtefjdmlmmoeoaaaGreat.L07
