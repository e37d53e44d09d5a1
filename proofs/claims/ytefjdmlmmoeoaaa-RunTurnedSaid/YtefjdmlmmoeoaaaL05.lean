/- RunTurned: a run of which one byte is another one is refused, or is read as what builds to just those bytes. No conditions. -/
import Derived.Test.YtefjdmlmmoeoaaaTd
import Derived.Test.YtefjdmlmmoeoaaaWr
import Derived.Test.YtefjdmlmmoeoaaaWp
import Derived.Test.YtefjdmlmmoeoaaaCF
import Derived.Test.YtefjdmlmmoeoaaaRR
import Derived.ChangeMaps5
namespace Go.Proofs.Ytefjdmlmmoeoaaa.L05
open Go.RowKit Go.ChangeShapes Go.WideShapes Go.ChangeAt
set_option linter.unusedVariables false

set_option maxHeartbeats 8000000 in
set_option maxRecDepth 100000 in
theorem walk (v0 : Value) (l : List Ver) (at0 : Int) (by0 : Int) (w : World) (h : RdVr w w.heap.size v0 l) (hat : -9223372036854775808 ≤ at0 ∧ at0 ≤ 9223372036854775807) (hby : 0 ≤ by0 ∧ by0 ≤ 255) :
    Calls Try.prog 7 #[v0, .int .i64 at0, .int .u8 by0] w fun e w' => e = .returned (.bool true) ∧ Below w.heap.size w w' := by
  have HA := Lib.hid h
  obtain ⟨A, ca, rfl, -⟩ := h
  obtain ⟨y, rfl⟩ : ∃ y : UInt8, by0 = (y.toNat : Int) := ⟨UInt8.ofNat by0.toNat, by rw [UInt8.toNat_ofNat']; omega⟩
  have hat1 := hat.1
  have hat2 := hat.2
  clear hat hby
  go_enter Try.func7, Try.ntmps7
  go_wp2_with fail
  refine (ref8_block _ l 20 _ HA.out (by omega)).mono ?_
  rintro z w1 ⟨v1, own, rfl, ho1, hlm, hok, hb1⟩
  have O1 := Lib.hid ho1
  have G := Lib.hid hb1
  have hmv := blk_may hok
  have HM := Lib.hid hmv
  have HKY := Lib.hid (show ∀ v ∈ own, v.key.size ≤ 1000000 from fun v hv => Nat.le_trans (may_key (hmv v hv)) (by omega))
  have hl40 : own.length ≤ 20 := by omega
  have BU := Lib.hid (fun va w h => run_build va own w h (by omega) HKY.out)
  rw [if_pos hok, if_pos hok] at BU
  have hle : (encRun own).length ≤ 20000 ∧ 16 ≤ (encRun own).length := by
    have h := encRun_len hok (by omega)
    have h2 : many8 own = (own.length + 7) / 8 := rfl
    refine ⟨by omega, ?_⟩
    unfold encRun
    rw [List.length_append, List.length_append, frm_length, frm_length]
    omega
  obtain ⟨hle, hge⟩ := hle
  have OP := Lib.hid (fun va w h => run_open va (encRun own) w h hle)
  have HYES := Lib.hid (show IsRun (encRun own) own from ⟨hok, rfl⟩)
  have HIN := Lib.hid (fun l (h : IsRun (encRun own) l) => IsRun.inj h HYES.out (by omega))
  obtain ⟨A1, c1, e1, -⟩ := ho1.rd
  subst e1
  clear ho1 hb1 hmv hlm hok
  generalize encRun own = eb at *
  go_wp2_with fail
  refine (BU.out _ _ O1.out.rd).mono ?_
  rintro z w2 ⟨v2, rfl, ho2, hb2⟩
  have HSZ := Lib.hid G.out.size
  have G := Lib.hid (G.out.trans (hb2.mono G.out.size))
  have hpos : 0 < eb.length := by omega
  obtain ⟨g3, c3, rfl, hg4, hg5⟩ := ho2.pos hpos
  have F3 := Lib.hid ho2
  have zz : ((eb.length : Int) == 0) = false := by rw [beq_eq_false_iff_ne]; omega
  obtain ⟨m, hm, hm2⟩ : ∃ m : Nat, (m : Int) ≤ 9223372036854775807 ∧ (at0 = (m : Int) ∨ at0 = -((m : Int) + 1)) := by
    rcases Int.lt_or_le at0 0 with h | h
    · exact ⟨(-(at0 + 1)).toNat, by omega, .inr (by omega)⟩
    · exact ⟨at0.toNat, by omega, .inl (by omega)⟩
  have hml := Nat.mod_lt m hpos
  obtain ⟨c, hc⟩ : ∃ c, eb[m % eb.length] = c := ⟨_, rfl⟩
  have hcf := F3.out.cellAt (m % eb.length) hml
  rw [hc] at hcf
  have hff := F3.out.frozenAt (m % eb.length)
  have F4 := Lib.hid (F3.out.stored (m % eb.length) (c ^^^ y) (bits .xor .u8 (c.toNat : Int) (y.toNat : Int)) (xor_u8 c y)).1
  have G4 := Lib.hid (G.out.setCell (p := ⟨g3, m % eb.length, none⟩) (show w.heap.size ≤ g3 from Nat.le_trans HSZ.out hg4) (.int .u8 (bits .xor .u8 (c.toNat : Int) (y.toNat : Int))))
  have HL4 := Lib.hid (show (eb.set (m % eb.length) (c ^^^ y)).length = eb.length from List.length_set)
  have H0 := Lib.hid (show y = 0 → eb.set (m % eb.length) (c ^^^ y) = eb from fun h => by rw [h, UInt8.xor_zero, ← hc, List.set_getElem_self])
  have hi1 : (0 : Int) ≤ (m : Int) % (eb.length : Int) := by omega
  have hi2 : (m : Int) % (eb.length : Int) < (eb.length : Int) := by omega
  have hnn : -(-((m : Int) + 1) + 1) = (m : Int) := by omega
  have HLE := Lib.hid hle
  clear ho2 hb2 hc hle hge
  rcases hm2 with rfl | rfl
  all_goals
    go_wp2_with fail
    go_region
    have F4 := Lib.hid (show OwnB (w2.setCell ⟨g3, m % eb.length, none⟩ (.int .u8 (bits .xor .u8 (c.toNat : Int) (y.toNat : Int)))).drew _ _ _ from F4.out.on (Below.refl _ _).drew)
    have G4 := Lib.hid G4.out.drew
    clear hcf hff
    generalize (w2.setCell ⟨g3, m % eb.length, none⟩ (.int .u8 (bits .xor .u8 (c.toNat : Int) (y.toNat : Int)))).drew = w4 at *
    go_wp2_with fail
    generalize eb.set (m % eb.length) (c ^^^ y) = fq at *
    have hfl : fq.length ≤ 20000 := by have := HL4.out; have := HLE.out; omega
    refine (run_open _ fq _ F4.out.rd hfl).mono ?_
    rintro z w5 ⟨p, e, rfl, hb5, hor⟩
    have F5 := Lib.hid (F4.out.on hb5)
    have G := Lib.hid (G4.out.trans (hb5.mono G4.out.size))
    clear hb5
    rcases hor with ⟨l', rfl, hr, hl', hat⟩ | ⟨rfl, rfl, hno⟩
    · have RA := Lib.hid hat
      obtain ⟨nr, vb, rfl, -⟩ := hat
      have BU2 := Lib.hid (fun va w h => run_build va l' w h hl' (fun v hv => Nat.le_trans (may_key (blk_may hr.1 v hv)) (by omega)))
      rw [if_pos hr.1, if_pos hr.1, hr.2] at BU2
      have AL2 := Lib.hid (fun p base w h => run_all p l' base w h hl')
      have z9 : (fq == fq) = true := by simp
      clear hr
      go_wp2_with fail
      refine (AL2.out _ _ _ RA.out).mono ?_
      rintro z w6 ⟨v6, rfl, ho6, hb6⟩
      have F5 := Lib.hid (F5.out.on hb6)
      have G := Lib.hid (G.out.trans (hb6.mono G.out.size))
      have O6 := Lib.hid ho6
      obtain ⟨A6, c6, e6, -⟩ := ho6.rd
      subst e6
      clear ho6 hb6
      go_wp2_with fail
      refine (BU2.out _ _ O6.out.rd).mono ?_
      rintro z w7 ⟨v7, rfl, ho7, hb7⟩
      have F5 := Lib.hid (F5.out.on hb7)
      have G := Lib.hid (G.out.trans (hb7.mono G.out.size))
      obtain ⟨A7, c7, e7, -⟩ := own_cap ho7
      subst e7
      have hs1 := ho7.str
      have hs2 := F5.out.str
      clear ho7 hb7
      go_wp2_with fail
      refine (lives_any9 _).mono ?_
      rintro z w8 ⟨rfl, hb⟩
      have G := Lib.hid (G.out.trans (hb.mono G.out.size))
      clear hb
      go_wp2_with fail
      go_ret
      exact ⟨rfl, G.out⟩
    · have hy0 : y ≠ 0 := fun h => hno own (by rw [H0.out h]; exact HYES.out)
      have hyn : y.toNat ≠ 0 := fun e => hy0 (UInt8.toNat_inj.1 (by simpa using e))
      have hyt : ((y.toNat : Int) == 0) = false := by rw [beq_eq_false_iff_ne]; omega
      have hyt2 : ((y.toNat : Int) != 0) = true := by simp; omega
      have hyt3 : (y.toNat == 0) = false := by rw [beq_eq_false_iff_ne]; omega
      clear hy0 hyn hno
      go_wp2_with fail
      refine (lives_any9 _).mono ?_
      rintro z w8 ⟨rfl, hb⟩
      have G := Lib.hid (G.out.trans (hb.mono G.out.size))
      clear hb
      go_wp2_with fail
      go_ret
      exact ⟨rfl, G.out⟩
-- END
set_option maxRecDepth 100000 in
theorem lifted (os : Os) (started : os.Started) (H : Type) (enc : TypeId × Value → H) :
    ReturnsInHanded {} Try.checked os 7 .any (Rows.runTurnedSpec.pre6 enc Try.prog Try.f7 Rows.runTurnedRow.domain false) (Rows.runTurnedSpec.post enc Try.prog Try.f7 false true false false) := by
  refine returnsInHanded_of_change (C := Try.checked) Try.own started (by kernel_rfl) Try.func7
    (ChangeSpec.witness6 (enc := enc) (C := Try.checked) false ⟨#[], #[.slice none 0 0, .int .i64 0, .int .u8 0], []⟩ 8 (by kernel_rfl) (by kernel_rfl) (by kernel_rfl) (by kernel_rfl)) ?_
  intro W base args ds gs before hval0 hW _ _
  have hval : ∀ (j : Nat) t v, Try.f7.params[j]? = some t → args[j]? = some v → Value.okWide Try.prog W .any base t v := hval0
  have hW' := hW
  obtain ⟨p, q, hA0, hV, rfl, _, _⟩ := hW
  have hA : DataW.TrodAll enc Try.prog W 0 (fun _ => true) true Try.f7.params.toList args.toList ds p := hA0
  rw [Try.params7] at hA hval
  obtain ⟨v0, v1, v2, d0, d1, d2, p0, p1, p2, rfl, rfl, rfl, h0, h1, h2⟩ := trodAll_three hA
  obtain ⟨rfl, rfl⟩ := trodVars_none hV
  have hlt := fun x hx => hW'.lt x hx
  obtain ⟨a0, r0, b0⟩ := open_vers (hval 0 _ v0 rfl rfl) h0 (fun x hx => by simpa using hlt x (by simp [hx]))
  obtain ⟨a1, rfl, rfl, rfl, w1⟩ := open_int Try.underlying3 (hval 1 _ v1 rfl rfl) h1
  have w1 := wf_int w1
  obtain ⟨a2, rfl, rfl, rfl, w2⟩ := open_int Try.underlying5 (hval 2 _ v2 rfl rfl) h2
  have w2 := wf_u8 w2
  refine (walk _ _ _ _ _ r0 w1 w2).mono fun e W' ⟨he, hb⟩ => ⟨_, he, ?_⟩
  exact law_post Try.laidOut (by decide +kernel) rfl Try.underlying4 rfl hW' rfl hb

theorem holds : Rows.RunTurnedSaid :=
  OpenClaim.holds_of_wide 7 Try.f7 rfl rfl rfl rfl rfl rfl rfl ⟨rfl, rfl, rfl, rfl, rfl⟩ rfl rfl rfl rfl rfl (by kernel_rfl) Try.func7 (by kernel_rfl)
    (of_decide_eq_true (by kernel_rfl)) (by unfold Func.isWrapper; first | (rw [if_pos (by decide +kernel)]; kernel_rfl) | (rw [if_neg (by decide +kernel)]; exact ⟨rfl, rfl⟩))
    (fun os started H enc _ => lifted os started H enc)
end Go.Proofs.Ytefjdmlmmoeoaaa.L05
