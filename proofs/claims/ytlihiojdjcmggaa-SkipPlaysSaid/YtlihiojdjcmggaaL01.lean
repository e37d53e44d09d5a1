/- SkipPlays: whatever is asked of a list, it answers, and has in each row, just what the document says: any deeds (the first 60, the first 8 bytes of keys), any key. -/
import Derived.Test.YtlihiojdjcmggaaSe
import Derived.Test.YtlihiojdjcmggaaSl
import Derived.Test.YtlihiojdjcmggaaSm
import Derived.Test.YtlihiojdjcmggaaSp
import Derived.Test.YtlihiojdjcmggaaSo
import Derived.Test.YtlihiojdjcmggaaKk
namespace Go.Proofs.Ytlihiojdjcmggaa.L01
open Go.RowKit Go.ChangeShapes Go.WideShapes Go.ChangeAt
set_option linter.unusedVariables false

set_option maxHeartbeats 4000000 in
set_option maxRecDepth 100000 in
theorem walk0 {Sk : Nat → World → Nat → Value → List It → Prop} {P : Obj → Bool} (K : SkK Sk P) (v : Value) (l : List DeedK) (key : ByteArray) (w : World) (h : RdX deedKL w w.heap.size v l) (hok : ∀ x ∈ l, OkDeedK x) :
    Calls Try.prog 3 #[v, .string key] w fun z w' => z = .returned (.bool true) ∧ Below w.heap.size w w' := by
  have LV := Lib.hid (law12_lives K)
  have K := Lib.hid K
  have HA := Lib.hid h
  have HO := Lib.hid hok
  obtain ⟨A, ca, rfl, hla, hca, -⟩ := id h
  have HCA := Lib.hid (Nat.le_trans hla hca)
  have FKS := Lib.hid (Nat.le_trans (fewK_size key) (show 8 ≤ 1000 by decide))
  clear h hok hla hca
  go_enter Try.func3, Try.ntmps3
  go_wp2_with fail
  refine (K.out.new _).mono ?_
  rintro z w1 ⟨p, rfl, hs1, hb1⟩
  obtain ⟨gp, ep⟩ := K.out.ops.ptr hs1
  subst ep
  have S1 := Lib.hid hs1
  have G1 := Lib.hid hb1
  clear hs1 hb1
  go_wp2_with fail
  refine (law_fewK _ _).mono ?_
  rintro z w2 ⟨rfl, rfl⟩
  generalize fewK key = fk at *
  go_wp2_with fail
  go_loopw [6, 7] (fun x i wr => ∃ (k : Nat) (r : List It), i = .int .i64 k ∧ k ≤ l.length ∧ k ≤ 60 ∧ r.length ≤ k ∧ Sk k wr w.heap.size (.pointer (some ⟨gp, 0, none⟩)) r ∧ OwnX itL 46 wr w.heap.size x r ∧ Below w.heap.size w wr) (fun _ i _ => l.length - (intOf i).toNat)
  case atStart => exact ⟨0, [], rfl, Nat.zero_le _, Nat.zero_le _, Nat.le_refl _, S1.out, OwnX.nil _ _, G1.out⟩
  case round =>
    obtain ⟨k, r, rfl, hk, hk4, hrl, hs, ho, hbw⟩ := hrel
    rename World => wo
    have G := Lib.hid hbw
    have S := Lib.hid hs
    have O := Lib.hid ho
    have HRL := Lib.hid hrl
    obtain ⟨A2, c2, e2, -⟩ := ho.rd
    subst e2
    clear hbw hs ho hrl S1 G1
    by_cases hlt : k < l.length ∧ k < 60
    · obtain ⟨hlt, hlt4⟩ := hlt
      have zl : decide ((k : Int) < (l.length : Int)) = true := by simp; omega
      have z4 : decide ((k : Int) < 60) = true := by simp; omega
      have hki : (k : Int) < (l.length : Int) := by omega
      have hw64 : IntKind.i64.wrap ((k : Int) + 1) = (k : Int) + 1 := by rw [IntKind.wrap_i64]; omega
      obtain ⟨x, hx⟩ : ∃ x, l[k] = x := ⟨_, rfl⟩
      have HX := Lib.hid (HO.out x (by rw [← hx]; exact List.getElem_mem hlt))
      obtain ⟨da, db, dc, ds⟩ := x
      obtain ⟨gb, o, rfl, -, e0, e1, e2, e3⟩ := RdX.deed (HA.out.below G.out) k hlt hx
      have DO := Lib.hid (law_doesK K.out.ops wo w.heap.size (.pointer (some ⟨gp, 0, none⟩)) (.slice A2 r.length c2) r ⟨da, db, dc, ds⟩ S.out O.out G.out.size (by omega) (by have := HRL.out; omega) HX.out)
      have HDL := Lib.hid (Nat.le_trans (do_len r ⟨da, db, dc, ds⟩) (Nat.succ_le_succ HRL.out))
      generalize doI r ⟨da, db, dc, ds⟩ = r2 at *
      have HD2 := Lib.hid (show r2.length ≤ 1000 from by have := HDL.out; omega)
      clear hx
      go_wp2_with fail
      refine DO.out.mono ?_
      rintro z w2 ⟨v2, rfl, hs2, ho2, hb2⟩
      have S2 := Lib.hid hs2
      have O2 := Lib.hid ho2
      have G2 := Lib.hid (G.out.trans hb2.below)
      obtain ⟨A3, c3, e3, -⟩ := ho2.rd
      subst e3
      have LK := Lib.hid (law_likeK K.out.ops w2 w.heap.size (.pointer (some ⟨gp, 0, none⟩)) (.slice A3 r2.length c3) r2 fk hs2 ho2.rd G2.out.size HD2.out FKS.out)
      clear hs2 ho2 hb2 DO
      go_wp2_with fail
      refine LK.out.mono ?_
      rintro z w3 ⟨rfl, hb3⟩
      have S2 := Lib.hid (K.out.ops.on S2.out hb3)
      have O2 := Lib.hid (O2.out.on hb3)
      have G2 := Lib.hid (G2.out.trans (hb3.mono G2.out.size))
      clear hb3 LK
      go_wp2_with fail
      go_roundw
      case rel => exact ⟨k + 1, r2, by go_num, by omega, by omega, HDL.out, S2.out, O2.out, G2.out⟩
      case measure => simp [intOf]; omega
    · by_cases hl1 : k < l.length
      case' pos =>
        have h40 : ¬ k < 60 := fun h => hlt ⟨hl1, h⟩
        have zl : decide ((k : Int) < (l.length : Int)) = true := by simp; omega
        have z40 : decide ((k : Int) < 60) = false := by rw [decide_eq_false_iff_not]; omega
      case' neg =>
        have zl : decide ((k : Int) < (l.length : Int)) = false := by rw [decide_eq_false_iff_not]; omega
      all_goals
        go_wp2_with fail
        refine (LV.out _).mono ?_
        rintro z w5 ⟨rfl, hb5⟩
        have G := Lib.hid (G.out.trans (hb5.mono G.out.size))
        clear hb5
        go_wp2_with fail
        go_ret
        exact ⟨rfl, G.out⟩
-- END
set_option maxRecDepth 100000 in
theorem lifted (os : Os) (started : os.Started) (H : Type) (enc : TypeId × Value → H) :
    ReturnsInHanded {} Try.checked os 3 .any (Rows.skipPlaysSpec.pre6 enc Try.prog Try.f3 Rows.skipPlaysRow.domain false) (Rows.skipPlaysSpec.post enc Try.prog Try.f3 false true false false) := by
  refine returnsInHanded_of_change (C := Try.checked) Try.own started (by kernel_rfl) Try.func3
    (ChangeSpec.witness6 (enc := enc) (C := Try.checked) false ⟨#[], #[.slice none 0 0, .string ⟨#[]⟩], []⟩ 8 (by kernel_rfl) (by kernel_rfl) (by kernel_rfl) (by kernel_rfl)) ?_
  intro W base args ds gs before hval0 hW _ _
  have hval : ∀ (j : Nat) t v, Try.f3.params[j]? = some t → args[j]? = some v → Value.okWide Try.prog W .any base t v := hval0
  have hW' := hW
  obtain ⟨p, q, hA0, hV, rfl, _, _⟩ := hW
  have hA : DataW.TrodAll enc Try.prog W 0 (fun _ => true) true Try.f3.params.toList args.toList ds p := hA0
  rw [Try.params3] at hA hval
  obtain ⟨v0, v1, d0, d1, p0, p1, rfl, rfl, rfl, h0, h1⟩ := trodAll_two hA
  obtain ⟨rfl, rfl⟩ := trodVars_none hV
  have hlt := fun x hx => hW'.lt x hx
  obtain ⟨a0, r0, b0⟩ := open_dks (hval 0 _ v0 rfl rfl) h0 (fun x hx => by simpa using hlt x (by simp [hx]))
  obtain ⟨a1, rfl, rfl, rfl, w1⟩ := ChangeMaps.open_string Try.underlying9 (hval 1 _ v1 rfl rfl) h1
  simp only [maxLen] at w1
  refine (walk0 skip_f.one v0 a0 a1 _ r0 b0).mono fun e W' ⟨he, hb⟩ => ⟨_, he, ?_⟩
  exact law_post Try.laidOut (by decide +kernel) rfl Try.underlying4 rfl hW' rfl hb

theorem holds : Rows.SkipPlaysSaid :=
  OpenClaim.holds_of_wide 3 Try.f3 rfl rfl rfl rfl rfl rfl rfl ⟨rfl, rfl, rfl, rfl, rfl⟩ rfl rfl rfl rfl rfl (by kernel_rfl) Try.func3 (by kernel_rfl)
    (of_decide_eq_true (by kernel_rfl)) (by unfold Func.isWrapper; first | (rw [if_pos (by decide +kernel)]; kernel_rfl) | (rw [if_neg (by decide +kernel)]; exact ⟨rfl, rfl⟩))
    (fun os started H enc _ => lifted os started H enc)
end Go.Proofs.Ytlihiojdjcmggaa.L01
