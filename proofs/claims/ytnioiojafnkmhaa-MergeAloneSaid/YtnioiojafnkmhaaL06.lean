/- MergeAlone: one list merged is itself, with empty ones too, and split anywhere: any versions (the first 20, sorted). No conditions. -/
import Derived.Test.YtnioiojafnkmhaaNk
import Derived.Test.YtnioiojafnkmhaaMo
import Derived.Test.YtnioiojafnkmhaaMb
import Derived.ChangeMaps5
namespace Go.Proofs.Ytnioiojafnkmhaa.L06
open Go.RowKit Go.ChangeShapes Go.WideShapes Go.ChangeAt
set_option linter.unusedVariables false

theorem asc_one {l : List Ver} (h : Asc lessV l) : ∀ x ∈ [l], Asc lessV x := fun x hx => by rw [List.mem_singleton.1 hx]; exact h
theorem asc_mid {l : List Ver} (h : Asc lessV l) : ∀ x ∈ [[], l, []], Asc lessV x := fun x hx => by
  simp only [List.mem_cons, List.not_mem_nil, or_false] at hx
  rcases hx with rfl | rfl | rfl
  · exact List.Pairwise.nil
  · exact h
  · exact List.Pairwise.nil
theorem asc_two {l : List Ver} (h : Asc lessV l) (k : Nat) : ∀ x ∈ [l.take k, l.drop k], Asc lessV x := fun x hx => by
  simp only [List.mem_cons, List.not_mem_nil, or_false] at hx
  rcases hx with rfl | rfl
  · exact h.sublist (List.take_sublist _ _)
  · exact h.sublist (List.drop_sublist _ _)

set_option maxHeartbeats 8000000 in
set_option maxRecDepth 100000 in
theorem walk0 (KN : NumK) (KA : AllK) (v : Value) (l : List Ver) (n : Int) (w : World) (h : RdVr w w.heap.size v l) (hn : -9223372036854775808 ≤ n ∧ n ≤ 9223372036854775807) :
    Calls Try.prog 8 #[v, .int .i64 n] w fun e w' => e = .returned (.bool true) ∧ Below w.heap.size w w' := by
  have R := Lib.hid h
  have LV := Lib.hid (law10_lives KN)
  have KA := Lib.hid KA
  clear KN
  obtain ⟨A, ca, rfl, hla, hca, -⟩ := h
  go_enter Try.func8, Try.ntmps8
  have hml : (l.take 20).length ≤ 20 := by rw [List.length_take]; omega
  rcases Nat.lt_or_ge 20 l.length with hg | hg
  case' inl =>
    have z1 : decide ((20 : Int) < (l.length : Int)) = true := by simp; omega
    have z2 : decide (20 < l.length) = true := by simp; omega
    obtain ⟨A1, cc1, h1, rm⟩ := slX_head R.out Try.underlying24 ver_size 20 (20 : Int) rfl (by omega)
    have RM := Lib.hid rm
    clear rm
  case' inr =>
    have z1 : decide ((20 : Int) < (l.length : Int)) = false := by rw [decide_eq_false_iff_not]; omega
    have z2 : decide (20 < l.length) = false := by rw [decide_eq_false_iff_not]; omega
    have RM := Lib.hid (show RdVr w w.heap.size (.slice A l.length ca) (l.take 20) from by rw [List.take_of_length_le hg]; exact R.out)
  all_goals
    generalize l.take 20 = M at *
    have HM := Lib.hid hml
    clear hml
    go_wp2_with fail
    refine (ref6_sorted _ M _ RM.out (Nat.le_trans HM.out (by decide))).mono ?_
    rintro z w1 ⟨v1, rfl, ho1, hb1⟩
    have O1 := Lib.hid ho1
    have G := Lib.hid hb1
    have HAS := Lib.hid (sortR_asc ver_ahead M)
    have hol : (sortR lessV M).length ≤ 20 := by rw [sortR_len]; exact HM.out
    generalize sortR lessV M = own at *
    have FL1 := Lib.hid (show sortR lessV [own].flatten = own from by simpa using sortR_id HAS.out)
    have FL3 := Lib.hid (show sortR lessV [[], own, []].flatten = own from by simpa using sortR_id HAS.out)
    have LE1 := Lib.hid (show [own].flatten.length ≤ 1000 from by simp; omega)
    have LE3 := Lib.hid (show [[], own, []].flatten.length ≤ 1000 from by simp; omega)
    obtain ⟨A1, c1, e1, -⟩ := ho1.rd
    subst e1
    clear ho1 hb1
    have hlb : (own.length : Int) ≤ 20 := by omega
    obtain ⟨m, hm⟩ : ∃ m : Nat, (n < 0 ∧ n = -((m : Int) + 1)) ∨ (0 ≤ n ∧ n = (m : Int)) := by
      rcases Int.lt_or_le n 0 with h | h
      · exact ⟨(-(n + 1)).toNat, .inl ⟨h, by omega⟩⟩
      · exact ⟨n.toNat, .inr ⟨h, by omega⟩⟩
    have hkk : m % (own.length + 1) ≤ own.length := by have := Nat.mod_lt m (show 0 < own.length + 1 from by omega); omega
    have hr1 : (m : Int) % ((own.length : Int) + 1) = ((m % (own.length + 1) : Nat) : Int) := by rw [Int.natCast_emod]; rfl
    have hr2 : Int.tmod (m : Int) ((own.length : Int) + 1) = ((m % (own.length + 1) : Nat) : Int) := rfl
    generalize m % (own.length + 1) = kk at *
    have FL2 := Lib.hid (show sortR lessV [own.take kk, own.drop kk].flatten = own from by simpa using sortR_id HAS.out)
    have LE2 := Lib.hid (show [own.take kk, own.drop kk].flatten.length ≤ 1000 from by simp; omega)
    have AS2 := Lib.hid (asc_two HAS.out kk)
    rcases hm with ⟨hneg, hm⟩ | ⟨hneg, hm⟩
    case' inl =>
      subst hm
      have hnn : -(-((m : Int) + 1) + 1) = (m : Int) := by omega
      have zn : decide (-((m : Int) + 1) < 0) = true := by simp only [decide_eq_true_eq]; omega
      have hw1 : IntKind.i64.wrap (-((m : Int) + 1) + 1) = -((m : Int) + 1) + 1 := by rw [IntKind.wrap_i64]; omega
      have hw2 : IntKind.i64.wrap (m : Int) = (m : Int) := by rw [IntKind.wrap_i64]; omega
    case' inr =>
      subst hm
      have zn : decide ((m : Int) < 0) = false := by rw [decide_eq_false_iff_not]; omega
      have hw2 : IntKind.i64.wrap (m : Int) = (m : Int) := by rw [IntKind.wrap_i64]; omega
    all_goals
    have hz0 : ((own.length : Int) + 1 == 0) = false := by rw [beq_eq_false_iff_ne]; omega
    go_wp2_with fail
    refine (KA.out _ [own] _ (lit1 24 O1.out.rd) (asc_one HAS.out) LE1.out).mono ?_
    rintro z w2 ⟨v2, rfl, ho2, hb2⟩
    rw [FL1.out] at ho2
    have hb2 := (alloc_below w1 (.cells #[.slice A1 own.length c1] 24)).trans (hb2.mono (alloc_below w1 (.cells #[.slice A1 own.length c1] 24)).size)
    have O2 := Lib.hid ho2
    have O1 := Lib.hid (O1.out.on hb2)
    have G := Lib.hid (G.out.trans (hb2.mono G.out.size))
    obtain ⟨A2, c2, e2, -⟩ := ho2.rd
    subst e2
    clear ho2 hb2
    go_wp2_with fail
    refine (ref6_same _ _ _ _ _ O2.out.rd O1.out.rd).mono ?_
    rintro z w3 ⟨r, rfl, hr, hb3⟩
    obtain rfl : r = true := hr.2 rfl
    have O1 := Lib.hid (O1.out.on hb3)
    have G := Lib.hid (G.out.trans (hb3.mono G.out.size))
    clear hb3 hr
    go_wp2_with fail
    refine (KA.out _ [[], own, []] _ (lit3 24 (RdX.nil _ _) O1.out.rd (RdX.nil _ _)) (asc_mid HAS.out) LE3.out).mono ?_
    rintro z w4 ⟨v4, rfl, ho4, hb4⟩
    rw [FL3.out] at ho4
    have hb4 := (alloc_below w3 (.cells #[.slice none 0 0, .slice A1 own.length c1, .slice none 0 0] 24)).trans (hb4.mono (alloc_below w3 (.cells #[.slice none 0 0, .slice A1 own.length c1, .slice none 0 0] 24)).size)
    have O4 := Lib.hid ho4
    have O1 := Lib.hid (O1.out.on hb4)
    have G := Lib.hid (G.out.trans (hb4.mono G.out.size))
    obtain ⟨A4, c4, e4, -⟩ := ho4.rd
    subst e4
    clear ho4 hb4
    go_wp2_with fail
    refine (ref6_same _ _ _ _ _ O4.out.rd O1.out.rd).mono ?_
    rintro z w6 ⟨r, rfl, hr, hb6⟩
    obtain rfl : r = true := hr.2 rfl
    have O1 := Lib.hid (O1.out.on hb6)
    have G := Lib.hid (G.out.trans (hb6.mono G.out.size))
    clear hb6 hr
    obtain ⟨Ah, ch, hh, rh⟩ := slX_head O1.out.rd Try.underlying24 ver_size kk (kk : Int) rfl hkk
    obtain ⟨At, ct, ht, rt⟩ := slX_tail O1.out.rd Try.underlying24 ver_size kk (kk : Int) rfl hkk
    have RH := Lib.hid rh
    have RT := Lib.hid rt
    clear rh rt
    go_wp2_with fail
    refine reg_start (by kernel_rfl) ?_
    refine reg_take2 0 37 (v := ?_) (T' := ?_) (Later.refl _) (by kernel_rfl) (by kernel_rfl) (by kernel_rfl) (fun _ _ _ h => h) (fun o ho => ?_) ?_ ?_
    rotate_left 2
    · cases ho
      refine ⟨rfl, rfl, fun W hW => ?_⟩
      go_simp; (try with_reducible rfl)
    · simp only [List.setIfInBounds_toArray, List.set_cons_succ, List.set_cons_zero]; exact rfl
    refine reg_take2 1 38 (v := ?_) (T' := ?_) (Later.refl _) (by kernel_rfl) (by kernel_rfl) (by kernel_rfl) (fun _ _ _ h => h) (fun o ho => ?_) ?_ ?_
    rotate_left 2
    · cases ho
      refine ⟨rfl, rfl, fun W hW => ?_⟩
      go_simp; (try with_reducible rfl)
    · simp only [List.setIfInBounds_toArray, List.set_cons_succ, List.set_cons_zero]; exact rfl
    refine reg_take2 2 39 (v := ?_) (T' := ?_) (Later.refl _) (by kernel_rfl) (by kernel_rfl) (by kernel_rfl) (fun _ _ _ h => h) (fun o ho => ?_) ?_ ?_
    rotate_left 2
    · cases ho
      refine ⟨rfl, rfl, fun W hW => ?_⟩
      go_simp; (try with_reducible rfl)
    · simp only [List.setIfInBounds_toArray, List.set_cons_succ, List.set_cons_zero]; exact rfl
    refine reg_take2 3 40 (v := ?_) (T' := ?_) (Later.refl _) (by kernel_rfl) (by kernel_rfl) (by kernel_rfl) (fun _ _ _ h => h) (fun o ho => ?_) ?_ ?_
    rotate_left 2
    · cases ho
      refine ⟨rfl, rfl, fun W hW => ?_⟩
      go_simp; (try with_reducible rfl)
    · simp only [List.setIfInBounds_toArray, List.set_cons_succ, List.set_cons_zero]; exact rfl
    refine reg_take2 4 41 (v := ?_) (T' := ?_) (Later.refl _) (by kernel_rfl) (by kernel_rfl) (by kernel_rfl) (fun _ _ _ h => h) (fun o ho => ?_) ?_ ?_
    rotate_left 2
    · cases ho
      refine ⟨rfl, rfl, fun W hW => ?_⟩
      go_simp; (try with_reducible rfl)
    · simp only [List.setIfInBounds_toArray, List.set_cons_succ, List.set_cons_zero]; exact rfl
    refine reg_take2 5 42 (v := ?_) (T' := ?_) (Later.refl _) (by kernel_rfl) (by kernel_rfl) (by kernel_rfl) (fun _ _ _ h => h) (fun o ho => ?_) ?_ ?_
    rotate_left 2
    · cases ho
      refine ⟨rfl, rfl, fun W hW => ?_⟩
      go_simp; (try with_reducible rfl)
    · simp only [List.setIfInBounds_toArray, List.set_cons_succ, List.set_cons_zero]; exact rfl
    refine reg_take2 8 45 (v := ?_) (T' := ?_) (Later.refl _) (by kernel_rfl) (by kernel_rfl) (by kernel_rfl) (fun _ _ _ h => h) (fun o ho => ?_) ?_ ?_
    rotate_left 2
    · cases ho
      refine ⟨rfl, rfl, fun W hW => ?_⟩
      go_simp; (try with_reducible rfl)
    · simp only [List.setIfInBounds_toArray, List.set_cons_succ, List.set_cons_zero]; exact rfl
    refine reg_make2 6 43 (v := ?_) (w' := ?_) (T' := ?_) (Later.refl _) (by kernel_rfl) (fun o ho => ?_) ?_ ?_ ?_
    rotate_left 3
    · cases ho
      refine ⟨rfl, rfl, ?_⟩
      go_simp; constructor <;> with_reducible rfl
    · exact Later.alloc _ _
    · simp only [List.setIfInBounds_toArray, List.set_cons_succ, List.set_cons_zero]; exact rfl
    refine reg_call2 7 44 (Later.refl _) (by kernel_rfl) 12 #[.func (.func 13) #[] #[], .slice (some ⟨w6.heap.size, 0, none⟩) 2 2] (fun o ho => by cases ho; exact ⟨rfl, rfl, fun W => by go_simp⟩) ?_
    refine (KA.out _ [own.take kk, own.drop kk] _ (lit2 (w := w6.drew) 24 (RH.out.on (Below.refl _ w6).drew) (RT.out.on (Below.refl _ w6).drew)) AS2.out LE2.out).mono ?_
    rintro e w7 ⟨v7, rfl, ho7, hb7⟩
    rw [FL2.out] at ho7
    have hb7a := Lib.hid hb7
    have hb7 := Lib.hid (((alloc_below w6.drew (.cells #[.slice Ah kk ch, .slice At (own.length - kk) ct] 24))).trans (hb7.mono (alloc_below w6.drew (.cells #[.slice Ah kk ch, .slice At (own.length - kk) ct] 24)).size))
    have O1 := Lib.hid (O1.out.on ((Below.refl _ w6).drew.trans hb7.out))
    have G := Lib.hid (G.out.trans ((((Below.refl _ w6).drew.trans hb7.out)).mono G.out.size))
    have O7 := Lib.hid ho7
    obtain ⟨A7, c7, e7, -⟩ := ho7.rd
    subst e7
    refine ⟨_, _, rfl, hb7a.out, (by simp only [List.setIfInBounds_toArray, List.set_cons_succ, List.set_cons_zero]; exact rfl), ?_⟩
    clear ho7 hb7
    refine reg_call2 9 46 (Later.refl _) (by kernel_rfl) 11 #[.slice A7 own.length c7, .slice A1 own.length c1] (fun o ho => by cases ho; exact ⟨rfl, rfl, fun W => by go_simp⟩) ?_
    refine (ref6_same _ _ _ _ _ O7.out.rd O1.out.rd).mono ?_
    rintro e w8 ⟨r, rfl, hr, hb⟩
    obtain rfl : r = true := hr.2 rfl
    have G := Lib.hid (G.out.trans (hb.mono G.out.size))
    refine ⟨_, _, rfl, hb, (by simp only [List.setIfInBounds_toArray, List.set_cons_succ, List.set_cons_zero]; exact rfl), ?_⟩
    clear hb hr
    refine reg_take2 10 9 (v := ?_) (T' := ?_) (Later.refl _) (by kernel_rfl) (by kernel_rfl) (by kernel_rfl) (fun _ _ _ h => h) (fun o ho => ?_) ?_ ?_
    rotate_left 2
    · cases ho
      refine ⟨rfl, rfl, fun W hW => ?_⟩
      go_simp; (try with_reducible rfl)
    · simp only [List.setIfInBounds_toArray, List.set_cons_succ, List.set_cons_zero]; exact rfl
    refine reg_done (by kernel_rfl) ?_
    go_wp2_with fail
    refine (LV.out _).mono ?_
    rintro z w9 ⟨rfl, hb⟩
    have G := Lib.hid (G.out.trans (hb.mono G.out.size))
    clear hb
    go_wp2_with fail
    go_ret
    exact ⟨rfl, G.out⟩
-- END
set_option maxRecDepth 100000 in
theorem lifted (os : Os) (started : os.Started) (H : Type) (enc : TypeId × Value → H) :
    ReturnsInHanded {} Try.checked os 8 .any (Rows.mergeAloneSpec.pre6 enc Try.prog Try.f8 Rows.mergeAloneRow.domain false) (Rows.mergeAloneSpec.post enc Try.prog Try.f8 false true false false) := by
  refine returnsInHanded_of_change (C := Try.checked) Try.own started (by kernel_rfl) Try.func8
    (ChangeSpec.witness6 (enc := enc) (C := Try.checked) false ⟨#[], #[.slice none 0 0, .int .i64 0], []⟩ 8 (by kernel_rfl) (by kernel_rfl) (by kernel_rfl) (by kernel_rfl)) ?_
  intro W base args ds gs before hval0 hW _ _
  have hval : ∀ (j : Nat) t v, Try.f8.params[j]? = some t → args[j]? = some v → Value.okWide Try.prog W .any base t v := hval0
  have hW' := hW
  obtain ⟨p, q, hA0, hV, rfl, _, _⟩ := hW
  have hA : DataW.TrodAll enc Try.prog W 0 (fun _ => true) true Try.f8.params.toList args.toList ds p := hA0
  rw [Try.params8] at hA hval
  obtain ⟨v0, v1, d0, d1, p0, p1, rfl, rfl, rfl, h0, h1⟩ := trodAll_two hA
  obtain ⟨rfl, rfl⟩ := trodVars_none hV
  have hlt := fun x hx => hW'.lt x hx
  obtain ⟨a0, r0, b0⟩ := open_vers (hval 0 _ v0 rfl rfl) h0 (fun x hx => by simpa using hlt x (by simp [hx]))
  obtain ⟨a1, rfl, rfl, rfl, w1⟩ := open_int Try.underlying3 (hval 1 _ v1 rfl rfl) h1
  have w1 := wf_int w1
  refine (walk0 num_k all_k v0 a0 a1 _ r0 w1).mono fun e W' ⟨he, hb⟩ => ⟨_, he, ?_⟩
  exact law_post Try.laidOut (by decide +kernel) rfl Try.underlying4 rfl hW' rfl hb

theorem holds : Rows.MergeAloneSaid :=
  OpenClaim.holds_of_wide 8 Try.f8 rfl rfl rfl rfl rfl rfl rfl ⟨rfl, rfl, rfl, rfl, rfl⟩ rfl rfl rfl rfl rfl (by kernel_rfl) Try.func8 (by kernel_rfl)
    (of_decide_eq_true (by kernel_rfl)) (by unfold Func.isWrapper; first | (rw [if_pos (by decide +kernel)]; kernel_rfl) | (rw [if_neg (by decide +kernel)]; exact ⟨rfl, rfl⟩))
    (fun os started H enc _ => lifted os started H enc)
end Go.Proofs.Ytnioiojafnkmhaa.L06
