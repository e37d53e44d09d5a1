/- SkipFloor: the last key up to one is a key that is there, and none is between: any deeds (the first 40, the first 8 bytes of keys), any key. -/
import Derived.Test.YtlihiojdjcmggaaSe
import Derived.Test.YtlihiojdjcmggaaSl
import Derived.Test.YtlihiojdjcmggaaSp
import Derived.Test.YtlihiojdjcmggaaSo
import Derived.Test.YtlihiojdjcmggaaKk
namespace Go.Proofs.Ytlihiojdjcmggaa.L05
open Go.RowKit Go.ChangeShapes Go.WideShapes Go.ChangeAt
set_option linter.unusedVariables false

set_option maxHeartbeats 4000000 in
set_option maxRecDepth 100000 in
theorem walk0 {Sk : Nat → World → Nat → Value → List It → Prop} {P : Obj → Bool} (K : SkK Sk P) (v : Value) (l : List DeedK) (key : ByteArray) (w : World) (h : RdX deedKL w w.heap.size v l) (hok : ∀ x ∈ l, OkDeedK x) :
    Calls Try.prog 7 #[v, .string key] w fun z w' => z = .returned (.bool true) ∧ Below w.heap.size w w' := by
  have LV := Lib.hid (law12_lives K)
  have K := Lib.hid K
  have HA := Lib.hid h
  have HO := Lib.hid hok
  obtain ⟨A, ca, rfl, hla, hca, -⟩ := id h
  have HCA := Lib.hid (Nat.le_trans hla hca)
  clear h hok hla hca
  go_enter Try.func7, Try.ntmps7
  go_wp2_with fail
  refine (K.out.new _).mono ?_
  rintro z w1 ⟨p, rfl, hs1, hb1⟩
  obtain ⟨gp, ep⟩ := K.out.ops.ptr hs1
  subst ep
  have S1 := Lib.hid hs1
  have G1 := Lib.hid hb1
  clear hs1 hb1
  go_wp2_with fail
  go_loopw [6, 7] (fun x i wr => ∃ (k : Nat) (r : List It), i = .int .i64 k ∧ k ≤ l.length ∧ k ≤ 40 ∧ r.length ≤ k ∧ AscK r ∧ KeysK r ∧ (∀ y ∈ r, 1 ≤ y.level) ∧ Sk k wr w.heap.size (.pointer (some ⟨gp, 0, none⟩)) r ∧ OwnX itL 46 wr w.heap.size x r ∧ Below w.heap.size w wr) (fun _ i _ => l.length - (intOf i).toNat)
  case atStart => exact ⟨0, [], rfl, Nat.zero_le _, Nat.zero_le _, Nat.le_refl _, List.Pairwise.nil, (fun x hx => by cases hx), (fun x hx => by cases hx), S1.out, OwnX.nil _ _, G1.out⟩
  case round =>
    obtain ⟨k, r, rfl, hk, hk4, hrl, hasc, hkeys, hlev, hs, ho, hbw⟩ := hrel
    rename World => wo
    have G := Lib.hid hbw
    have S := Lib.hid hs
    have O := Lib.hid ho
    have ASC := Lib.hid hasc
    have KEYS := Lib.hid hkeys
    have LEV := Lib.hid hlev
    have HRL := Lib.hid hrl
    obtain ⟨A2, c2, e2, -⟩ := ho.rd
    subst e2
    clear hbw hs ho hasc hkeys hlev hrl S1 G1
    by_cases hlt : k < l.length ∧ k < 40
    · obtain ⟨hlt, hlt4⟩ := hlt
      have zl : decide ((k : Int) < (l.length : Int)) = true := by simp; omega
      have z4 : decide ((k : Int) < 40) = true := by simp; omega
      have hki : (k : Int) < (l.length : Int) := by omega
      have hw64 : IntKind.i64.wrap ((k : Int) + 1) = (k : Int) + 1 := by rw [IntKind.wrap_i64]; omega
      obtain ⟨x, hx⟩ : ∃ x, l[k] = x := ⟨_, rfl⟩
      have HX := Lib.hid (HO.out x (by rw [← hx]; exact List.getElem_mem hlt))
      obtain ⟨da, db, dc, ds⟩ := x
      obtain ⟨gb, o, rfl, -, e0, e1, e2, e3⟩ := RdX.deed (HA.out.below G.out) k hlt hx
      have DO := Lib.hid (law_doesK K.out.ops wo w.heap.size (.pointer (some ⟨gp, 0, none⟩)) (.slice A2 r.length c2) r ⟨da, db, dc, ds⟩ S.out O.out G.out.size (by omega) (by have := HRL.out; omega) HX.out)
      clear hx
      go_wp2_with fail
      refine DO.out.mono ?_
      rintro z w2 ⟨v2, rfl, hs2, ho2, hb2⟩
      have S2 := Lib.hid hs2
      have O2 := Lib.hid ho2
      have G2 := Lib.hid (G.out.trans hb2.below)
      clear hs2 ho2 hb2 DO
      go_wp2_with fail
      go_roundw
      case rel => exact ⟨k + 1, _, by go_num, by omega, by omega, Nat.le_trans (do_len _ _) (Nat.succ_le_succ HRL.out), asc_do ASC.out _, keys_do KEYS.out _, levs_do LEV.out _, S2.out, O2.out, G2.out⟩
      case measure => simp [intOf]; omega
    · have FKS := Lib.hid (Nat.le_trans (fewK_size key) (show 8 ≤ 1000 by decide))
      have HL1 := Lib.hid (show r.length ≤ 1000 from by have := HRL.out; omega)
      have FL := Lib.hid (fun w1 h1 h2 => K.out.ops.floor (n := k) w1 w.heap.size (.pointer (some ⟨gp, 0, none⟩)) r (fewK key) h1 h2 HL1.out FKS.out)
      have RW := Lib.hid (fun w1 h1 h2 => K.out.ops.row (n := k) w1 w.heap.size (.pointer (some ⟨gp, 0, none⟩)) r 1 h1 h2 HL1.out ⟨by decide, by decide⟩)
      have LN := Lib.hid (fun w1 h1 h2 => K.out.ops.len (n := k) w1 w.heap.size (.pointer (some ⟨gp, 0, none⟩)) r h1 h2 HL1.out)
      have FB := Lib.hid (fun x hx hle => floor_last ASC.out (fewK key) (x := x) hx hle)
      have FN := Lib.hid (fun h => floor_none (l := r) (key := fewK key) h)
      have FT := Lib.hid (fun h => floor_there (l := r) (key := fewK key) h)
      generalize floorI r (fewK key) = fl at *
      obtain ⟨fs, fb⟩ := fl
      simp only at FL FB FN FT
      by_cases hl1 : k < l.length
      case' pos =>
        have h40 : ¬ k < 40 := fun h => hlt ⟨hl1, h⟩
        have zl : decide ((k : Int) < (l.length : Int)) = true := by simp; omega
        have z40 : decide ((k : Int) < 40) = false := by rw [decide_eq_false_iff_not]; omega
      case' neg =>
        have zl : decide ((k : Int) < (l.length : Int)) = false := by rw [decide_eq_false_iff_not]; omega
      all_goals
        go_wp2_with fail
        refine (law_fewK _ _).mono ?_
        rintro z w2 ⟨rfl, rfl⟩
        go_wp2_with fail
        refine (FL.out _ S.out G.out.size).mono ?_
        rintro z w2 ⟨rfl, hb2⟩
        have S := Lib.hid (K.out.ops.on S.out hb2)
        have G := Lib.hid (G.out.trans (hb2.mono G.out.size))
        clear hb2
        go_wp2_with fail
        refine (RW.out _ S.out G.out.size).mono ?_
        rintro z w3 ⟨v3, rfl, ho3, hb3⟩
        have S := Lib.hid (K.out.ops.on S.out hb3)
        have G := Lib.hid (G.out.trans (hb3.mono G.out.size))
        have R3 := Lib.hid ho3.rd
        have RL := Lib.hid (show (rowI r 1).length ≤ 1000 from by rw [row_one LEV.out, List.length_map]; exact HL1.out)
        have RM := Lib.hid (fun s hs => row_mem (l := r) (lv := 1) (s := s) hs)
        generalize rowI r 1 = rr at *
        obtain ⟨A3, c3, e3, -⟩ := ho3.rd
        subst e3
        clear hb3 ho3 FL RW zl hlt hl1
        go_wp2_with fail
        go_loopw [11] (fun i wr => ∃ j : Nat, i = .int .i64 j ∧ j ≤ rr.length ∧ wr = w3) (fun i _ => rr.length - (intOf i).toNat)
        case atStart => exact ⟨0, rfl, Nat.zero_le _, rfl⟩
        case round =>
          obtain ⟨j, rfl, hj, rfl⟩ := hrel
          by_cases hjl : j < rr.length
          · have zj : decide ((j : Int) < (rr.length : Int)) = true := by simp; omega
            have hji : (j : Int) < (rr.length : Int) := by omega
            have hw64 : IntKind.i64.wrap ((j : Int) + 1) = (j : Int) + 1 := by rw [IntKind.wrap_i64]; have := RL.out; omega
            obtain ⟨s, hs⟩ : ∃ s, rr[j] = s := ⟨_, rfl⟩
            obtain ⟨y, hy, hys⟩ := RM.out s (by rw [← hs]; exact List.getElem_mem hjl)
            have FY := Lib.hid (FB.out y hy)
            rw [hys] at FY
            obtain ⟨b3, o3, rfl, -, m3⟩ := RdX.strE R3.out j hjl hs
            clear hs hys hy
            have hp : Op.bytesLess (fewK key).toList s.toList = false → fb = true ∧ (Op.bytesLess s.toList fs.toList = true ∨ s.toList = fs.toList) := fun c => by
              obtain ⟨h1, h2⟩ := FY.out c
              refine ⟨h1, ?_⟩
              by_cases e : s.toList = fs.toList
              · exact .inr e
              · exact .inl (less_totalK _ _ h2 (fun e2 => e e2.symm))
            by_cases hq : Op.bytesLess s.toList (fewK key).toList = true ∨ s.toList = (fewK key).toList
            · obtain ⟨hfb, h2⟩ := hp (by
                rcases hq with h | h
                · exact less_asymmK _ _ h
                · rw [h]; exact less_irreflK _)
              subst hfb
              have hq1 : (Op.bytesLess s.toList (fewK key).toList || s.toList == (fewK key).toList) = true := by simpa using hq
              have h3 : (Op.bytesLess s.toList fs.toList || s.toList == fs.toList) = true := by simpa using h2
              have h4 : ¬ (Op.bytesLess s.toList fs.toList = false ∧ ¬ s.toList = fs.toList) := fun h => by rcases h2 with h2 | h2 <;> simp_all
              have h5 : (!Op.bytesLess s.toList fs.toList && !(s.toList == fs.toList)) = false := by rcases h2 with h2 | h2 <;> simp [h2]
              clear FY hp
              go_wp2_with fail
              go_roundw
              case rel => exact ⟨j + 1, by go_num, by omega, by trivial⟩
              case measure => simp [intOf]; omega
            · have hq1 : (Op.bytesLess s.toList (fewK key).toList || s.toList == (fewK key).toList) = false := by simpa using hq
              clear FY hp
              go_wp2_with fail
              go_roundw
              case rel => exact ⟨j + 1, by go_num, by omega, by trivial⟩
              case measure => simp [intOf]; omega
          · have zj : decide ((j : Int) < (rr.length : Int)) = false := by rw [decide_eq_false_iff_not]; omega
            cases fb
            · have hn := FN.out rfl
              subst hn
              clear FB FT
              go_wp2_with fail
              refine (LN.out _ S.out G.out.size).mono ?_
              rintro z w4 ⟨rfl, hb4⟩
              have G := Lib.hid (G.out.trans (hb4.mono G.out.size))
              clear hb4
              go_wp2_with fail
              refine (LV.out _).mono ?_
              rintro z w5 ⟨rfl, hb5⟩
              have G := Lib.hid (G.out.trans (hb5.mono G.out.size))
              go_wp2_with fail
              go_ret
              exact ⟨rfl, G.out⟩
            · obtain ⟨x, hx, hxk, hle⟩ := FT.out rfl
              have HM := here_mem ASC.out hx
              have HKS := KEYS.out x hx
              rw [hxk] at HM HKS hle
              have GT := Lib.hid (K.out.ops.get (n := k) wr w.heap.size (.pointer (some ⟨gp, 0, none⟩)) r fs S.out G.out.size HL1.out (by omega))
              rw [HM] at GT
              have hq1 : (Op.bytesLess fs.toList (fewK key).toList || fs.toList == (fewK key).toList) = true := by
                by_cases e : fs.toList = (fewK key).toList
                · simp [e]
                · have := less_totalK _ _ hle (fun e2 => e e2.symm); simp [this]
              clear FB FN FT hx hxk hle
              go_wp2_with fail
              refine GT.out.mono ?_
              rintro z w4 ⟨rfl, hb4⟩
              have G := Lib.hid (G.out.trans (hb4.mono G.out.size))
              clear hb4
              go_wp2_with fail
              refine (LV.out _).mono ?_
              rintro z w5 ⟨rfl, hb5⟩
              have G := Lib.hid (G.out.trans (hb5.mono G.out.size))
              go_wp2_with fail
              go_ret
              exact ⟨rfl, G.out⟩
-- END
set_option maxRecDepth 100000 in
theorem lifted (os : Os) (started : os.Started) (H : Type) (enc : TypeId × Value → H) :
    ReturnsInHanded {} Try.checked os 7 .any (Rows.skipFloorSpec.pre6 enc Try.prog Try.f7 Rows.skipFloorRow.domain false) (Rows.skipFloorSpec.post enc Try.prog Try.f7 false true false false) := by
  refine returnsInHanded_of_change (C := Try.checked) Try.own started (by kernel_rfl) Try.func7
    (ChangeSpec.witness6 (enc := enc) (C := Try.checked) false ⟨#[], #[.slice none 0 0, .string ⟨#[]⟩], []⟩ 8 (by kernel_rfl) (by kernel_rfl) (by kernel_rfl) (by kernel_rfl)) ?_
  intro W base args ds gs before hval0 hW _ _
  have hval : ∀ (j : Nat) t v, Try.f7.params[j]? = some t → args[j]? = some v → Value.okWide Try.prog W .any base t v := hval0
  have hW' := hW
  obtain ⟨p, q, hA0, hV, rfl, _, _⟩ := hW
  have hA : DataW.TrodAll enc Try.prog W 0 (fun _ => true) true Try.f7.params.toList args.toList ds p := hA0
  rw [Try.params7] at hA hval
  obtain ⟨v0, v1, d0, d1, p0, p1, rfl, rfl, rfl, h0, h1⟩ := trodAll_two hA
  obtain ⟨rfl, rfl⟩ := trodVars_none hV
  have hlt := fun x hx => hW'.lt x hx
  obtain ⟨a0, r0, b0⟩ := open_dks (hval 0 _ v0 rfl rfl) h0 (fun x hx => by simpa using hlt x (by simp [hx]))
  obtain ⟨a1, rfl, rfl, rfl, w1⟩ := ChangeMaps.open_string Try.underlying9 (hval 1 _ v1 rfl rfl) h1
  simp only [maxLen] at w1
  refine (walk0 skip_f.one v0 a0 a1 _ r0 b0).mono fun e W' ⟨he, hb⟩ => ⟨_, he, ?_⟩
  exact law_post Try.laidOut (by decide +kernel) rfl Try.underlying4 rfl hW' rfl hb

theorem holds : Rows.SkipFloorSaid :=
  OpenClaim.holds_of_wide 7 Try.f7 rfl rfl rfl rfl rfl rfl rfl ⟨rfl, rfl, rfl, rfl, rfl⟩ rfl rfl rfl rfl rfl (by kernel_rfl) Try.func7 (by kernel_rfl)
    (of_decide_eq_true (by kernel_rfl)) (by unfold Func.isWrapper; first | (rw [if_pos (by decide +kernel)]; kernel_rfl) | (rw [if_neg (by decide +kernel)]; exact ⟨rfl, rfl⟩))
    (fun os started H enc _ => lifted os started H enc)
end Go.Proofs.Ytlihiojdjcmggaa.L05
