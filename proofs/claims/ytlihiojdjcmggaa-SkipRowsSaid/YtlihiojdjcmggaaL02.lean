/- SkipRows: each row is a part of the one below it, in order, and the first one has all: any deeds (the first 60, the first 8 bytes of keys). -/
import Derived.Test.YtlihiojdjcmggaaSe
import Derived.Test.YtlihiojdjcmggaaSl
import Derived.Test.YtlihiojdjcmggaaSp
import Derived.Test.YtlihiojdjcmggaaSo
import Derived.Test.YtlihiojdjcmggaaKk
namespace Go.Proofs.Ytlihiojdjcmggaa.L02
open Go.RowKit Go.ChangeShapes Go.WideShapes Go.ChangeAt
set_option linter.unusedVariables false

theorem sub_hit {α : Type} {c a : α} {cs es : List α} (h : (c :: cs).Sublist (a :: es)) : cs.Sublist es := by
  cases h with
  | cons _ h => exact (List.sublist_cons_self _ _).trans h
  | cons_cons _ h => exact h
theorem sub_miss {α : Type} {c a : α} {cs es : List α} (h : (c :: cs).Sublist (a :: es)) (hne : a ≠ c) : (c :: cs).Sublist es := by
  cases h with
  | cons _ h => exact h
  | cons_cons _ h => exact absurd rfl hne
theorem row_part (r : List It) (m : Int) (hm : 1 ≤ m) (h8 : m ≤ 8) : (rowI r (m + 1)).Sublist (rowI r m) := by
  unfold rowI
  refine List.Sublist.map _ ?_
  have : r.filter (rowB (m + 1)) = (r.filter (rowB m)).filter (rowB (m + 1)) := by
    rw [List.filter_filter]
    refine List.filter_congr fun x _ => ?_
    rw [Bool.eq_iff_iff]
    simp only [rowB, Bool.and_eq_true, decide_eq_true_eq]
    omega
  rw [this]
  exact List.filter_sublist
theorem asc_next {A : List ByteArray} (h : A.Pairwise fun a b => Op.bytesLess a.toList b.toList = true) {j : Nat} (hj : j + 1 < A.length) : Op.bytesLess (A[j]).toList (A[j + 1]).toList = true :=
  List.pairwise_iff_getElem.1 h j (j + 1) (by omega) hj (by omega)
set_option maxHeartbeats 4000000 in
set_option maxRecDepth 100000 in
theorem walk0 {Sk : Nat → World → Nat → Value → List It → Prop} {P : Obj → Bool} (K : SkK Sk P) (v : Value) (l : List DeedK) (w : World) (h : RdX deedKL w w.heap.size v l) (hok : ∀ x ∈ l, OkDeedK x) :
    Calls Try.prog 4 #[v] w fun z w' => z = .returned (.bool true) ∧ Below w.heap.size w w' := by
  have LV := Lib.hid (law12_lives K)
  have K := Lib.hid K
  have HA := Lib.hid h
  have HO := Lib.hid hok
  obtain ⟨A, ca, rfl, hla, hca, -⟩ := id h
  have HCA := Lib.hid (Nat.le_trans hla hca)
  clear h hok hla hca
  go_enter Try.func4, Try.ntmps4
  go_wp2_with fail
  refine (K.out.new _).mono ?_
  rintro z w1 ⟨p, rfl, hs1, hb1⟩
  obtain ⟨gp, ep⟩ := K.out.ops.ptr hs1
  subst ep
  have S1 := Lib.hid hs1
  have G1 := Lib.hid hb1
  clear hs1 hb1
  go_wp2_with fail
  go_loopw [4, 5] (fun x i wr => ∃ (k : Nat) (r : List It), i = .int .i64 k ∧ k ≤ l.length ∧ k ≤ 60 ∧ r.length ≤ k ∧ AscK r ∧ KeysK r ∧ (∀ y ∈ r, 1 ≤ y.level) ∧ Sk k wr w.heap.size (.pointer (some ⟨gp, 0, none⟩)) r ∧ OwnX itL 46 wr w.heap.size x r ∧ Below w.heap.size w wr) (fun _ i _ => l.length - (intOf i).toNat)
  case atStart => exact ⟨0, [], rfl, Nat.zero_le _, Nat.zero_le _, Nat.le_refl _, List.Pairwise.nil, (fun x hx => by cases hx), (fun x hx => by cases hx), S1.out, OwnX.nil _ _, G1.out⟩
  case round =>
    obtain ⟨k, r, rfl, hk, hk4, hrl, hasc, hkeys, hlev, hs, ho, hbw⟩ := hrel
    rename World => wo
    have G := Lib.hid hbw
    have S := Lib.hid hs
    have O := Lib.hid ho
    have ASC := Lib.hid hasc
    have KEYS := Lib.hid hkeys
    have LEV := Lib.hid hlev
    have HRL := Lib.hid hrl
    obtain ⟨A2, c2, e2, -⟩ := ho.rd
    subst e2
    clear hbw hs ho hasc hkeys hlev hrl S1 G1
    by_cases hlt : k < l.length ∧ k < 60
    · obtain ⟨hlt, hlt4⟩ := hlt
      have zl : decide ((k : Int) < (l.length : Int)) = true := by simp; omega
      have z4 : decide ((k : Int) < 60) = true := by simp; omega
      have hki : (k : Int) < (l.length : Int) := by omega
      have hw64 : IntKind.i64.wrap ((k : Int) + 1) = (k : Int) + 1 := by rw [IntKind.wrap_i64]; omega
      obtain ⟨x, hx⟩ : ∃ x, l[k] = x := ⟨_, rfl⟩
      have HX := Lib.hid (HO.out x (by rw [← hx]; exact List.getElem_mem hlt))
      obtain ⟨da, db, dc, ds⟩ := x
      obtain ⟨gb, o, rfl, -, e0, e1, e2, e3⟩ := RdX.deed (HA.out.below G.out) k hlt hx
      have DO := Lib.hid (law_doesK K.out.ops wo w.heap.size (.pointer (some ⟨gp, 0, none⟩)) (.slice A2 r.length c2) r ⟨da, db, dc, ds⟩ S.out O.out G.out.size (by omega) (by have := HRL.out; omega) HX.out)
      clear hx
      go_wp2_with fail
      refine DO.out.mono ?_
      rintro z w2 ⟨v2, rfl, hs2, ho2, hb2⟩
      have S2 := Lib.hid hs2
      have O2 := Lib.hid ho2
      have G2 := Lib.hid (G.out.trans hb2.below)
      clear hs2 ho2 hb2 DO
      go_wp2_with fail
      go_roundw
      case rel => exact ⟨k + 1, _, by go_num, by omega, by omega, Nat.le_trans (do_len _ _) (Nat.succ_le_succ HRL.out), asc_do ASC.out _, keys_do KEYS.out _, levs_do LEV.out _, S2.out, O2.out, G2.out⟩
      case measure => simp [intOf]; omega
    · have HL1 := Lib.hid (show r.length ≤ 1000 from by have := HRL.out; omega)
      have RW := Lib.hid (fun w1 h1 h2 => K.out.ops.row (n := k) w1 w.heap.size (.pointer (some ⟨gp, 0, none⟩)) r 1 h1 h2 HL1.out ⟨by decide, by decide⟩)
      have LN := Lib.hid (fun w1 h1 h2 => K.out.ops.len (n := k) w1 w.heap.size (.pointer (some ⟨gp, 0, none⟩)) r h1 h2 HL1.out)
      have RS := Lib.hid (fun (m : Nat) w1 h1 h2 (hm : m ≤ 100) => K.out.ops.row (n := k) w1 w.heap.size (.pointer (some ⟨gp, 0, none⟩)) r ((m : Int) + 1) h1 h2 HL1.out ⟨by omega, by omega⟩)
      have RP := Lib.hid (fun (m : Nat) (h1 : 1 ≤ m) (h8 : m ≤ 8) => row_part r m (by omega) (by omega))
      have RL := Lib.hid (fun m => show (rowI r m).length ≤ 1000 from Nat.le_trans (by unfold rowI; rw [List.length_map]; exact List.length_filter_le _ _) HL1.out)
      have R1 := Lib.hid (show (rowI r 1).length = r.length from by rw [row_one LEV.out, List.length_map])
      have RA := Lib.hid (show (rowI r 1).Pairwise (fun a b => Op.bytesLess a.toList b.toList = true) from by rw [row_one LEV.out]; exact ASC.out)
      have RN := Lib.hid (show rowI r ((1 : Nat) : Int) = rowI r 1 from rfl)
      by_cases hl1 : k < l.length
      case' pos =>
        have h40 : ¬ k < 60 := fun h => hlt ⟨hl1, h⟩
        have zl : decide ((k : Int) < (l.length : Int)) = true := by simp; omega
        have z40 : decide ((k : Int) < 60) = false := by rw [decide_eq_false_iff_not]; omega
      case' neg =>
        have zl : decide ((k : Int) < (l.length : Int)) = false := by rw [decide_eq_false_iff_not]; omega
      all_goals
        go_wp2_with fail
        refine (RW.out _ S.out G.out.size).mono ?_
        rintro z w3 ⟨v3, rfl, ho3, hb3⟩
        have S := Lib.hid (K.out.ops.on S.out hb3)
        have G := Lib.hid (G.out.trans (hb3.mono G.out.size))
        have R3 := Lib.hid ho3.rd
        obtain ⟨A3, c3, e3, -⟩ := ho3.rd
        subst e3
        clear hb3 ho3 RW
        have y1 : ((rowI r 1).length != r.length) = false := by simp [R1.out]
        have y2 : (((rowI r 1).length : Int) != (r.length : Int)) = false := by simp [R1.out]
        go_wp2_with fail
        refine (LN.out _ S.out G.out.size).mono ?_
        rintro z w4 ⟨rfl, hb4⟩
        have S := Lib.hid (K.out.ops.on S.out hb4)
        have G := Lib.hid (G.out.trans (hb4.mono G.out.size))
        have R3 := Lib.hid (R3.out.on hb4)
        clear hb4 LN
        go_wp2_with fail
        clear y1 y2 zl hlt hl1
        obtain ⟨rr, hrr⟩ : ∃ rr, rowI r 1 = rr := ⟨_, rfl⟩
        rw [hrr] at R3 RA R1 ⊢
        have RRL := Lib.hid (show rr.length ≤ 1000 from by rw [← hrr]; exact RL.out 1)
        have HRR := Lib.hid hrr
        clear hrr
        go_loopw [7] (fun i wr => ∃ j : Nat, i = .int .i64 ((j : Int) + 1) ∧ j ≤ rr.length ∧ Below w4.heap.size w4 wr) (fun i _ => rr.length + 1 - (intOf i).toNat)
        case atStart => exact ⟨0, rfl, Nat.zero_le _, Below.refl _ _⟩
        case round =>
          obtain ⟨j, rfl, hj, hbw⟩ := hrel
          rename World => wj
          have GJ := Lib.hid hbw
          clear hbw
          by_cases hjl : j + 1 < rr.length
          · have zj : decide ((j : Int) + 1 < (rr.length : Int)) = true := by simp; omega
            have zjn : decide (j + 1 < rr.length) = true := by simp; omega
            have hji : (j : Int) + 1 < (rr.length : Int) := by omega
            have hji0 : (j : Int) < (rr.length : Int) := by omega
            have hw64 : IntKind.i64.wrap ((j : Int) + 1 + 1) = (j : Int) + 1 + 1 := by rw [IntKind.wrap_i64]; have := RRL.out; omega
            have hw65 : IntKind.i64.wrap ((j : Int) + 1 - 1) = (j : Int) := by rw [IntKind.wrap_i64]; have := RRL.out; omega
            have hw66 : IntKind.i64.wrap (j : Int) = (j : Int) := by rw [IntKind.wrap_i64]; have := RRL.out; omega
            have hls := asc_next RA.out hjl
            obtain ⟨s, hs⟩ : ∃ s, rr[j]'(by omega) = s := ⟨_, rfl⟩
            obtain ⟨t, ht⟩ : ∃ t, rr[j + 1] = t := ⟨_, rfl⟩
            rw [hs, ht] at hls
            obtain ⟨b3, o3, rfl, -, m3⟩ := RdX.strE (R3.out.below GJ.out) j (by omega) hs
            obtain ⟨b4, o4, he4, -, m4⟩ := RdX.strE (R3.out.below GJ.out) (j + 1) hjl ht
            cases he4
            have hq : (!Op.bytesLess s.toList t.toList) = false := by rw [hls]; rfl
            clear hs ht
            go_wp2_with fail
            go_quiet (fail)
            have GJ := Lib.hid (GJ.out.drewN nq)
            go_wp2_with fail
            go_roundw
            case rel => exact ⟨j + 1, by go_num, by omega, GJ.out⟩
            case measure => simp [intOf]; omega
          · have zj : decide ((j : Int) + 1 < (rr.length : Int)) = false := by rw [decide_eq_false_iff_not]; omega
            have zjn : decide (j + 1 < rr.length) = false := by rw [decide_eq_false_iff_not]; omega
            have S := Lib.hid (K.out.ops.on S.out GJ.out)
            have G := Lib.hid (G.out.trans (GJ.out.mono G.out.size))
            have R3 := Lib.hid (R3.out.on GJ.out)
            clear hjl
            go_wp2_with fail
            clear zj zjn
            go_loopw [6, 8] (fun x i wr => ∃ m : Nat, i = .int .i64 ((m : Int) + 1) ∧ 1 ≤ m ∧ m ≤ 8 ∧ RdX strL wr wr.heap.size x (rowI r m) ∧ Sk k wr w.heap.size (.pointer (some ⟨gp, 0, none⟩)) r ∧ Below w.heap.size w wr) (fun _ i _ => 10 - (intOf i).toNat)
            case atStart => exact ⟨1, rfl, by omega, by omega, by rw [RN.out, HRR.out]; exact R3.out, S.out, G.out⟩
            case round =>
              obtain ⟨m, rfl, hm1, hm8, hrm, hs, hbw⟩ := hrel
              rename World => wm
              have RM := Lib.hid hrm
              have S := Lib.hid hs
              have G := Lib.hid hbw
              obtain ⟨A5, c5, e5, -⟩ := id hrm
              subst e5
              clear hrm hs hbw R3
              by_cases hml : m < 8
              · have zm : decide ((m : Int) + 1 ≤ 8) = true := by simp; omega
                have hw64 : IntKind.i64.wrap ((m : Int) + 1 + 1) = (m : Int) + 1 + 1 := by rw [IntKind.wrap_i64]; omega
                have SUB := Lib.hid (RP.out m hm1 hm8)
                have LA := Lib.hid (RL.out m)
                have LC := Lib.hid (RL.out ((m : Int) + 1))
                have RSM := Lib.hid (RS.out m wm S.out G.out.size (by omega))
                have HC := Lib.hid (show rowI r ((m : Int) + 1) = rowI r (((m + 1 : Nat) : Int)) from rfl)
                obtain ⟨C, hC⟩ : ∃ C, rowI r ((m : Int) + 1) = C := ⟨_, rfl⟩
                rw [hC] at SUB LC RSM HC
                generalize rowI r (m : Int) = A at *
                clear hC
                go_wp2_with fail
                refine RSM.out.mono ?_
                rintro z w6 ⟨v6, rfl, ho6, hb6⟩
                have R6 := Lib.hid ho6.rd
                have S := Lib.hid (K.out.ops.on S.out hb6)
                have RM := Lib.hid (RM.out.on hb6)
                have G := Lib.hid (G.out.trans (hb6.mono G.out.size))
                obtain ⟨A6, c6, e6, -⟩ := ho6.rd
                subst e6
                clear ho6 hb6 RSM
                go_wp2_with fail
                go_loopw [10, 11] (fun x i wr => ∃ (a q : Nat), x = .int .i64 a ∧ i = .int .i64 q ∧ q ≤ A.length ∧ a ≤ C.length ∧ (C.drop a).Sublist (A.drop q) ∧ Below w6.heap.size w6 wr) (fun _ i _ => A.length - (intOf i).toNat)
                case atStart => exact ⟨0, 0, rfl, rfl, Nat.zero_le _, Nat.zero_le _, SUB.out, Below.refl _ _⟩
                case round =>
                  obtain ⟨a, q, rfl, rfl, hq, ha, hsub, hbw⟩ := hrel
                  rename World => wq
                  have SB := Lib.hid hsub
                  have GQ := Lib.hid hbw
                  clear hsub hbw
                  by_cases hgo : q < A.length ∧ a < C.length
                  · obtain ⟨hqa, hac⟩ := hgo
                    have z1 : decide ((q : Int) < (A.length : Int)) = true := by simp; omega
                    have z2 : decide ((a : Int) < (C.length : Int)) = true := by simp; omega
                    have hqi : (q : Int) < (A.length : Int) := by omega
                    have hai : (a : Int) < (C.length : Int) := by omega
                    have hw65 : IntKind.i64.wrap ((q : Int) + 1) = (q : Int) + 1 := by rw [IntKind.wrap_i64]; have := LA.out; omega
                    have hw66 : IntKind.i64.wrap ((a : Int) + 1) = (a : Int) + 1 := by rw [IntKind.wrap_i64]; have := LC.out; omega
                    have SBC := Lib.hid (show (C[a] :: C.drop (a + 1)).Sublist (A[q] :: A.drop (q + 1)) from by rw [← List.drop_eq_getElem_cons hac, ← List.drop_eq_getElem_cons hqa]; exact SB.out)
                    have HCA := Lib.hid (List.drop_eq_getElem_cons hac)
                    obtain ⟨s, hs⟩ : ∃ s, A[q] = s := ⟨_, rfl⟩
                    obtain ⟨t, ht⟩ : ∃ t, C[a] = t := ⟨_, rfl⟩
                    rw [hs, ht] at SBC
                    rw [ht] at HCA
                    obtain ⟨b3, o3, rfl, -, m3⟩ := RdX.strE (RM.out.below GQ.out) q hqa hs
                    obtain ⟨b4, o4, rfl, -, m4⟩ := RdX.strE (R6.out.below GQ.out) a hac ht
                    clear hs ht
                    by_cases hst : s.toList = t.toList
                    · have y1 : (s.toList == t.toList) = true := by rw [beq_iff_eq]; exact hst
                      have HN := Lib.hid (sub_hit SBC.out)
                      clear hst
                      go_wp2_with fail
                      go_quiet (fail)
                      have GQ := Lib.hid (GQ.out.drewN nq)
                      go_wp2_with fail
                      go_roundw
                      case rel => exact ⟨a + 1, q + 1, by go_num, by go_num, by omega, by omega, HN.out, GQ.out⟩
                      case measure => simp [intOf]; omega
                    · have y1 : (s.toList == t.toList) = false := by rw [beq_eq_false_iff_ne]; exact hst
                      have HN := Lib.hid (show (C.drop a).Sublist (A.drop (q + 1)) from by rw [HCA.out]; exact sub_miss SBC.out fun e => hst (by rw [e]))
                      clear hst
                      go_wp2_with fail
                      go_quiet (fail)
                      have GQ := Lib.hid (GQ.out.drewN nq)
                      go_wp2_with fail
                      go_roundw
                      case rel => exact ⟨a, q + 1, rfl, by go_num, by omega, by omega, HN.out, GQ.out⟩
                      case measure => simp [intOf]; omega
                  · have hac : a = C.length := by
                      by_cases h1 : q < A.length
                      · exact Nat.le_antisymm ha (by by_cases h2 : a < C.length; exact absurd ⟨h1, h2⟩ hgo; omega)
                      · have h3 := SB.out
                        rw [show q = A.length by omega, List.drop_length, List.sublist_nil, List.drop_eq_nil_iff] at h3
                        omega
                    subst hac
                    have y1 : ((C.length : Int) != (C.length : Int)) = false := by simp
                    have y3 : (C.length != C.length) = false := by simp
                    have S := Lib.hid (K.out.ops.on S.out GQ.out)
                    have R6 := Lib.hid (R6.out.on GQ.out)
                    have G := Lib.hid (G.out.trans (GQ.out.mono G.out.size))
                    have y2 : decide ((C.length : Int) < (C.length : Int)) = false := by simp
                    by_cases h1 : q < A.length
                    case' pos => have z1 : decide ((q : Int) < (A.length : Int)) = true := by simp; omega
                    case' neg => have z1 : decide ((q : Int) < (A.length : Int)) = false := by rw [decide_eq_false_iff_not]; omega
                    all_goals
                      go_wp2_with fail
                      go_roundw
                      case rel => exact ⟨m + 1, by go_num, by omega, by omega, by rw [← HC.out]; exact R6.out, S.out, G.out⟩
                      case measure => simp [intOf]; omega
              · have zm : decide ((m : Int) + 1 ≤ 8) = false := by rw [decide_eq_false_iff_not]; omega
                clear hml
                go_wp2_with fail
                refine (LV.out _).mono ?_
                rintro z w5 ⟨rfl, hb5⟩
                have G := Lib.hid (G.out.trans (hb5.mono G.out.size))
                clear hb5
                go_wp2_with fail
                go_ret
                exact ⟨rfl, G.out⟩
-- END
set_option maxRecDepth 100000 in
theorem lifted (os : Os) (started : os.Started) (H : Type) (enc : TypeId × Value → H) :
    ReturnsInHanded {} Try.checked os 4 .any (Rows.skipRowsSpec.pre6 enc Try.prog Try.f4 Rows.skipRowsRow.domain false) (Rows.skipRowsSpec.post enc Try.prog Try.f4 false true false false) := by
  refine returnsInHanded_of_change (C := Try.checked) Try.own started (by kernel_rfl) Try.func4
    (ChangeSpec.witness6 (enc := enc) (C := Try.checked) false ⟨#[], #[.slice none 0 0], []⟩ 8 (by kernel_rfl) (by kernel_rfl) (by kernel_rfl) (by kernel_rfl)) ?_
  intro W base args ds gs before hval0 hW _ _
  have hval : ∀ (j : Nat) t v, Try.f4.params[j]? = some t → args[j]? = some v → Value.okWide Try.prog W .any base t v := hval0
  have hW' := hW
  obtain ⟨p, q, hA0, hV, rfl, _, _⟩ := hW
  have hA : DataW.TrodAll enc Try.prog W 0 (fun _ => true) true Try.f4.params.toList args.toList ds p := hA0
  rw [Try.params4] at hA hval
  obtain ⟨v0, d0, rfl, rfl, h0⟩ := trodAll_one hA
  obtain ⟨rfl, rfl⟩ := trodVars_none hV
  have hlt : ∀ x ∈ p, x.block < W.heap.size := fun x hx => by simpa using hW'.lt x (by simpa using hx)
  obtain ⟨a0, r0, b0⟩ := open_dks (hval 0 _ v0 rfl rfl) h0 (fun x hx => by simpa using hlt x (by simp [hx]))
  refine (walk0 skip_f.one v0 a0 _ r0 b0).mono fun e W' ⟨he, hb⟩ => ⟨_, he, ?_⟩
  exact law_post Try.laidOut (by decide +kernel) rfl Try.underlying4 rfl hW' rfl hb

theorem holds : Rows.SkipRowsSaid :=
  OpenClaim.holds_of_wide 4 Try.f4 rfl rfl rfl rfl rfl rfl rfl ⟨rfl, rfl, rfl, rfl, rfl⟩ rfl rfl rfl rfl rfl (by kernel_rfl) Try.func4 (by kernel_rfl)
    (of_decide_eq_true (by kernel_rfl)) (by unfold Func.isWrapper; first | (rw [if_pos (by decide +kernel)]; kernel_rfl) | (rw [if_neg (by decide +kernel)]; exact ⟨rfl, rfl⟩))
    (fun os started H enc _ => lifted os started H enc)
end Go.Proofs.Ytlihiojdjcmggaa.L02
