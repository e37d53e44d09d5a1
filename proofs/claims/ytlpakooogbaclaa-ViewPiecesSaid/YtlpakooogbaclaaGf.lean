/- Layer 14: Order, by the document. -/
import Derived.Test.YtlpakooogbaclaaGa
import Derived.Test.YtlpakooogbaclaaGc
import Derived.BigQuiet
namespace Go.Proofs.Ytlpakooogbaclaa
open Go.RowKit
set_option linter.unusedVariables false

theorem RdVr.cells1 {w : World} {B b o n c : Nat} {l : List Ver} (h : RdVr w B (.slice (some ⟨b, o, none⟩) n c) l) (k : Nat) (hk : k < l.length) {kk uu : ByteArray} {bb ee ss xx yy : Int} {gg : Bool} (e : l[k] = ⟨kk, bb, ee, ss, (xx, yy), uu, gg⟩) : b < B ∧
    w.cell? ⟨b, o + k * 8, none⟩ = some (.string kk) ∧ w.cell? ⟨b, o + k * 8 + 1, none⟩ = some (.int .i64 bb) ∧ w.cell? ⟨b, o + k * 8 + 2, none⟩ = some (.int .i64 ee) ∧ w.cell? ⟨b, o + k * 8 + 3, none⟩ = some (.int .i64 ss) ∧
    w.cell? ⟨b, o + k * 8 + 4, none⟩ = some (.int .i64 xx) ∧ w.cell? ⟨b, o + k * 8 + 5, none⟩ = some (.int .i64 yy) ∧ w.cell? ⟨b, o + k * 8 + 6, none⟩ = some (.string uu) ∧ w.cell? ⟨b, o + k * 8 + 7, none⟩ = some (.bool gg) := by
  obtain ⟨b', o', e2, hb, c0, c1, c2, c3, c4, c5, c6, c7⟩ := h.here k hk
  injection e2 with e2
  injection e2 with e3 e4
  subst e3 e4
  rw [e] at c0 c1 c2 c3 c4 c5 c6 c7
  exact ⟨hb, c0, c1, c2, c3, c4, c5, c6, c7⟩
theorem ver_info : (Try.prog.info? 50).map (fun i => (i.zero, i.size, i.bytes)) = some (some (.agg #[.string ⟨#[]⟩, .int .i64 0, .int .i64 0, .int .i64 0, .int .i64 0, .int .i64 0, .string ⟨#[]⟩, .bool false]), 8, 80) := by kernel_rfl
theorem ver_size (w : World) : (Go.sizeOf 50).run Try.prog w = .ok 8 w := by kernel_rfl
set_option maxHeartbeats 8000000 in
set_option maxRecDepth 100000 in
theorem ref14_order (va vp : Value) (l : List Ver) (p : List (Int × Int)) (w : World) (B Bp : Nat) (ha : RdVr w B va l) (hB : B ≤ w.heap.size) (hp : RdX lgL w Bp vp p) (hBp : Bp ≤ w.heap.size) (hl : l.length ≤ 1000) (hpl : p.length ≤ 1000) :
    Calls Try.prog 13 #[va, vp] w fun z w' => ∃ v', z = .returned v' ∧ OwnX verL 50 w' w.heap.size v' (orderV l p) ∧ Below w.heap.size w w' := by
  have HA := Lib.hid ha
  have HB := Lib.hid hB
  have HPT := Lib.hid hp
  have HBP := Lib.hid hBp
  have HL := Lib.hid hl
  have HPL := Lib.hid hpl
  have OL := Lib.hid (order_len l p)
  have GB := Lib.hid (Below.refl B w)
  have LEG := Lib.hid (fun b e q w' (hb : Below w.heap.size w w') => ref14_leg vp p b e q w' Bp (hp.below (hb.mono hBp)) (Nat.le_trans hBp hb.size) hpl)
  obtain ⟨A, ca, rfl, -⟩ := ha
  obtain ⟨Ap, cp, rfl, -⟩ := hp
  have hw0 : IntKind.i64.wrap ((p.length : Int) - 1) = (p.length : Int) - 1 := by rw [IntKind.wrap_i64]; omega
  clear hB hBp hl hpl
  go_enter Try.func13, Try.ntmps13
  go_wp2_with fail
  clear hw0
  go_loopw [5, 6] (fun x i wr => ∃ (k : Nat) (pre : List Ver), i = .int .i64 ((k : Int) - 1) ∧ k ≤ p.length ∧ pre ++ legsV l p k = orderV l p ∧ OwnX verL 50 wr w.heap.size x pre ∧ Below w.heap.size w wr) (fun _ i _ => (intOf i + 1).toNat)
  case atStart => exact ⟨p.length, [], rfl, Nat.le_refl _, legs_start l p, OwnX.nil _ _, Below.refl _ _⟩
  case round =>
    obtain ⟨k1, pre, rfl, hk1, hpre, hop, hbp⟩ := hrel
    rename World => wp
    have HPRE := Lib.hid hpre
    have OP := Lib.hid hop
    have GP := Lib.hid hbp
    obtain ⟨Aq, cq, eq, -⟩ := hop.rd
    subst eq
    clear hop hbp hpre
    cases k1 with
    | zero =>
      have HE := Lib.hid (legs_end HPRE.out)
      have zl : decide ((0 : Int) ≤ ((0 : Nat) : Int) - 1) = false := by decide
      go_wp2_with fail
      go_ret
      exact ⟨_, rfl, by rw [← HE.out]; exact OP.out, GP.out⟩
    | succ k =>
      have e1 : ((k + 1 : Nat) : Int) - 1 = (k : Int) := by omega
      have e2 : (k : Int) + 1 - 1 = (k : Int) := by omega
      rw [e1]
      have zl : decide ((0 : Int) ≤ (k : Int)) = true := by rw [decide_eq_true_eq]; omega
      have hwk : IntKind.i64.wrap ((k : Int) - 1) = (k : Int) - 1 := by rw [IntKind.wrap_i64]; have := HPL.out; omega
      have HK1 := Lib.hid hk1
      have PLE := Lib.hid (show pre.length ≤ 1000 from by
        have h1 := congrArg List.length HPRE.out
        rw [List.length_append] at h1
        have := OL.out
        have := HL.out
        omega)
      clear e1 e2
      go_wp2_with fail
      clear zl
      go_loopw [5, 8] (fun x i wr => ∃ n : Nat, i = .int .i64 n ∧ n ≤ l.length ∧ OwnX verL 50 wr w.heap.size x (pre ++ segV l p k n) ∧ Below w.heap.size w wr) (fun _ i _ => l.length - (intOf i).toNat)
      case atStart => exact ⟨0, rfl, Nat.zero_le _, by rw [seg_zero, List.append_nil]; exact OP.out, GP.out⟩
      case round =>
        obtain ⟨n, rfl, hn, hon, hbn⟩ := hrel
        rename World => wo
        have G := Lib.hid hbn
        have SLE := Lib.hid (seg_len l p k n)
        obtain ⟨acc, hacc⟩ : ∃ acc, pre ++ segV l p k n = acc := ⟨_, rfl⟩
        rw [hacc] at hon
        have HAC := Lib.hid hacc
        have O := Lib.hid hon
        have HAL := Lib.hid (show acc.length ≤ 3000 from by
          rw [← hacc, List.length_append]
          have := SLE.out
          have := PLE.out
          have := HL.out
          omega)
        obtain ⟨OA, oc, eo, -⟩ := hon.rd
        subst eo
        clear hon hbn hacc
        by_cases hlt : n < l.length
        · have zl : decide ((n : Int) < (l.length : Int)) = true := by rw [decide_eq_true_eq]; omega
          have hni : (n : Int) < (l.length : Int) := by omega
          have hw64 : IntKind.i64.wrap ((n : Int) + 1) = (n : Int) + 1 := by rw [IntKind.wrap_i64]; have := HL.out; omega
          have SS := Lib.hid (seg_step p k hlt)
          have HAW := Lib.hid (HA.out.below (GB.out.trans (G.out.mono HB.out)))
          obtain ⟨b, o, rfl, hbb, -⟩ := RdVr.here HAW.out n hlt
          obtain ⟨q0, hq0⟩ : ∃ q, (l[n]'hlt) = q := ⟨_, rfl⟩
          obtain ⟨kk, bb, ee, ss, ⟨xx, yy⟩, uu, gg⟩ := q0
          rw [hq0] at SS
          obtain ⟨-, c0, c1, c2, c3, c4, c5, c6, c7⟩ := RdVr.cells1 HAW.out n hlt hq0
          have PP := Lib.hid hq0
          have LG := Lib.hid (LEG.out bb ee ss wo G.out)
          obtain ⟨lg, hlg⟩ : ∃ lg, legI p bb ee = lg := ⟨_, rfl⟩
          have SS := Lib.hid (show segV l p k (n + 1) = if lg = (k : Int) then insR ltS ⟨kk, bb, ee, ss, (xx, yy), uu, gg⟩ (segV l p k n) else segV l p k n from by rw [SS.out, ← hlg]; rfl)
          rw [hlg] at LG
          have HLT := Lib.hid hlt
          clear hq0 hbb hlg
          by_cases hk : lg = (k : Int)
          · subst hk
            have SG := Lib.hid (show segV l p k (n + 1) = insR ltS ⟨kk, bb, ee, ss, (xx, yy), uu, gg⟩ (segV l p k n) from by rw [SS.out, if_pos rfl])
            have zk : ((k : Int) != (k : Int)) = false := by simp
            have zk2 : decide ((k : Int) = (k : Int)) = true := by simp
            have SI := Lib.hid (fun j h1 h2 ha hb => by
              have := seg_ins (pre := pre) (s := segV l p k n) (v := ⟨kk, bb, ee, ss, (xx, yy), uu, gg⟩) (j := j) h1 (by rw [HAC.out]; exact h2) (by rw [HAC.out]; exact ha) (by rw [HAC.out]; exact hb)
              rw [HAC.out] at this
              exact this)
            have PLA := Lib.hid (show pre.length ≤ acc.length from by rw [← HAC.out, List.length_append]; omega)
            go_wp2_with fail
            refine (LG.out).mono ?_
            rintro z w1 ⟨rfl, hb1⟩
            have G1 := Lib.hid hb1
            clear hb1 LG
            go_wp2_with fail
            clear c0 c1 c2 c3 c4 c5 c6 c7
            go_loopw [9] (fun i wi => ∃ j : Nat, i = .int .i64 j ∧ pre.length ≤ j ∧ j ≤ acc.length ∧ Below wo.heap.size wo wi ∧ ∀ (i : Nat) (h : i < acc.length), j ≤ i → ltS ⟨kk, bb, ee, ss, (xx, yy), uu, gg⟩ acc[i] = true) (fun i _ => (intOf i).toNat)
            case atStart => exact ⟨acc.length, rfl, PLA.out, Nat.le_refl _, G1.out, fun i h hi => absurd h (by omega)⟩
            case round =>
              obtain ⟨j, rfl, hpj, hj, hbi, hup⟩ := hrel
              rename World => wi
              have UP := Lib.hid hup
              have GI := Lib.hid hbi
              clear hup hbi
              by_cases hj0 : pre.length < j
              · have zj : decide ((pre.length : Int) < (j : Int)) = true := by rw [decide_eq_true_eq]; omega
                have zj2 : decide (pre.length < j) = true := by rw [decide_eq_true_eq]; exact hj0
                have hj1 : j - 1 < acc.length := by omega
                have hsub : (j : Int) - 1 = ((j - 1 : Nat) : Int) := by omega
                have hwj : IntKind.i64.wrap ((j - 1 : Nat) : Int) = ((j - 1 : Nat) : Int) := by rw [IntKind.wrap_i64]; have := HAL.out; omega
                have hi1 : ((j - 1 : Nat) : Int) < (acc.length : Int) := by omega
                obtain ⟨-, c0, c1, c2, c3, c4, c5, c6, c7⟩ := RdVr.cells1 (HAW.out.below (GI.out.mono (Nat.le_trans HB.out G.out.size))) n HLT.out PP.out
                obtain ⟨b', o', rfl, hbb', d0, d1, d2, d3, d4, d5, d6, d7⟩ := RdVr.here (O.out.on GI.out).rd (j - 1) hj1
                have LS := Lib.hid (fun w => ref14_ahead ⟨kk, bb, ee, ss, (xx, yy), uu, gg⟩ (acc[j - 1]'hj1) w)
                obtain ⟨q, hq⟩ : ∃ q, (acc[j - 1]'hj1) = q := ⟨_, rfl⟩
                rw [hq] at LS d0 d1 d2 d3 d4 d5 d6 d7
                obtain ⟨kk', bb', ee', ss', ⟨xx', yy'⟩, uu', gg'⟩ := q
                have QQ := Lib.hid hq
                clear hq
                unfold verV at LS
                simp only at LS c0 c1 c2 c3 c4 c5 c6 c7 d0 d1 d2 d3 d4 d5 d6 d7
                cases hls : ltS ⟨kk, bb, ee, ss, (xx, yy), uu, gg⟩ ⟨kk', bb', ee', ss', (xx', yy'), uu', gg'⟩
                · rw [hls] at LS
                  have LF := Lib.hid hls
                  clear hls
                  go_wp2_with fail
                  have HI : (fun W => W = wi.drew) wi.drew := rfl
                  refine regk_start [13] (fun W => W = wi.drew) (by kernel_rfl) ?_
                  refine regk_free 0 37 (v := ?_) (T' := ?_) (fun _ => HI) (by kernel_rfl) (by kernel_rfl) (by kernel_rfl) (by kernel_rfl) (fun _ _ _ h => h) (fun o ho => ?_) ?_ ?_
                  rotate_left 2
                  · cases ho
                    refine ⟨rfl, rfl, fun W => ?_⟩
                    go_simp; (try with_reducible rfl)
                  · simp only [List.setIfInBounds_toArray, List.set_cons_succ, List.set_cons_zero]; exact rfl
                  refine regk_free 1 38 (v := ?_) (T' := ?_) (fun _ => HI) (by kernel_rfl) (by kernel_rfl) (by kernel_rfl) (by kernel_rfl) (fun _ _ _ h => h) (fun o ho => ?_) ?_ ?_
                  rotate_left 2
                  · cases ho
                    refine ⟨rfl, rfl, fun W => ?_⟩
                    go_simp; (try with_reducible rfl)
                  · simp only [List.setIfInBounds_toArray, List.set_cons_succ, List.set_cons_zero]; exact rfl
                  refine regk_free 2 39 (v := ?_) (T' := ?_) (fun _ => HI) (by kernel_rfl) (by kernel_rfl) (by kernel_rfl) (by kernel_rfl) (fun _ _ _ h => h) (fun o ho => ?_) ?_ ?_
                  rotate_left 2
                  · cases ho
                    refine ⟨rfl, rfl, fun W => ?_⟩
                    go_simp; (try with_reducible rfl)
                  · simp only [List.setIfInBounds_toArray, List.set_cons_succ, List.set_cons_zero]; exact rfl
                  refine regk_free 3 40 (v := ?_) (T' := ?_) (fun _ => HI) (by kernel_rfl) (by kernel_rfl) (by kernel_rfl) (by kernel_rfl) (fun _ _ _ h => h) (fun o ho => ?_) ?_ ?_
                  rotate_left 2
                  · cases ho
                    refine ⟨rfl, rfl, fun W => ?_⟩
                    go_simp; (try with_reducible rfl)
                  · simp only [List.setIfInBounds_toArray, List.set_cons_succ, List.set_cons_zero]; exact rfl
                  refine regk_free 4 41 (v := ?_) (T' := ?_) (fun _ => HI) (by kernel_rfl) (by kernel_rfl) (by kernel_rfl) (by kernel_rfl) (fun _ _ _ h => h) (fun o ho => ?_) ?_ ?_
                  rotate_left 2
                  · cases ho
                    refine ⟨rfl, rfl, fun W => ?_⟩
                    go_simp; (try with_reducible rfl)
                  · simp only [List.setIfInBounds_toArray, List.set_cons_succ, List.set_cons_zero]; exact rfl
                  refine regk_free 5 42 (v := ?_) (T' := ?_) (fun _ => HI) (by kernel_rfl) (by kernel_rfl) (by kernel_rfl) (by kernel_rfl) (fun _ _ _ h => h) (fun o ho => ?_) ?_ ?_
                  rotate_left 2
                  · cases ho
                    refine ⟨rfl, rfl, fun W => ?_⟩
                    go_simp; (try with_reducible rfl)
                  · simp only [List.setIfInBounds_toArray, List.set_cons_succ, List.set_cons_zero]; exact rfl
                  refine regk_free 6 43 (v := ?_) (T' := ?_) (fun _ => HI) (by kernel_rfl) (by kernel_rfl) (by kernel_rfl) (by kernel_rfl) (fun _ _ _ h => h) (fun o ho => ?_) ?_ ?_
                  rotate_left 2
                  · cases ho
                    refine ⟨rfl, rfl, fun W => ?_⟩
                    go_simp; (try with_reducible rfl)
                  · simp only [List.setIfInBounds_toArray, List.set_cons_succ, List.set_cons_zero]; exact rfl
                  refine regk_take 7 44 (v := ?_) (T' := ?_) HI (by kernel_rfl) (by kernel_rfl) (by kernel_rfl) (by kernel_rfl) (by kernel_rfl) (by kernel_rfl) (fun _ _ _ h => h) (fun o ho => ?_) ?_ ?_
                  rotate_left 2
                  · cases ho
                    refine ⟨rfl, rfl, fun W hW => ?_⟩
                    have hW := (show W = _ from hW); subst hW; go_simp; (try with_reducible rfl)
                  · simp only [List.setIfInBounds_toArray, List.set_cons_succ, List.set_cons_zero]; exact rfl
                  refine regk_free 8 45 (v := ?_) (T' := ?_) (fun _ => HI) (by kernel_rfl) (by kernel_rfl) (by kernel_rfl) (by kernel_rfl) (fun _ _ _ h => h) (fun o ho => ?_) ?_ ?_
                  rotate_left 2
                  · cases ho
                    refine ⟨rfl, rfl, fun W => ?_⟩
                    go_simp; (try with_reducible rfl)
                  · simp only [List.setIfInBounds_toArray, List.set_cons_succ, List.set_cons_zero]; exact rfl
                  refine regk_free 9 46 (v := ?_) (T' := ?_) (fun _ => HI) (by kernel_rfl) (by kernel_rfl) (by kernel_rfl) (by kernel_rfl) (fun _ _ _ h => h) (fun o ho => ?_) ?_ ?_
                  rotate_left 2
                  · cases ho
                    refine ⟨rfl, rfl, fun W => ?_⟩
                    go_simp; (try with_reducible rfl)
                  · simp only [List.setIfInBounds_toArray, List.set_cons_succ, List.set_cons_zero]; exact rfl
                  refine regk_free 10 47 (v := ?_) (T' := ?_) (fun _ => HI) (by kernel_rfl) (by kernel_rfl) (by kernel_rfl) (by kernel_rfl) (fun _ _ _ h => h) (fun o ho => ?_) ?_ ?_
                  rotate_left 2
                  · cases ho
                    refine ⟨rfl, rfl, fun W => ?_⟩
                    go_simp; (try with_reducible rfl)
                  · simp only [List.setIfInBounds_toArray, List.set_cons_succ, List.set_cons_zero]; exact rfl
                  refine regk_free 11 48 (v := ?_) (T' := ?_) (fun _ => HI) (by kernel_rfl) (by kernel_rfl) (by kernel_rfl) (by kernel_rfl) (fun _ _ _ h => h) (fun o ho => ?_) ?_ ?_
                  rotate_left 2
                  · cases ho
                    refine ⟨rfl, rfl, fun W => ?_⟩
                    go_simp; (try with_reducible rfl)
                  · simp only [List.setIfInBounds_toArray, List.set_cons_succ, List.set_cons_zero]; exact rfl
                  refine regk_take 12 49 (v := ?_) (T' := ?_) HI (by kernel_rfl) (by kernel_rfl) (by kernel_rfl) (by kernel_rfl) (by kernel_rfl) (by kernel_rfl) (fun _ _ _ h => h) (fun o ho => ?_) ?_ ?_
                  rotate_left 2
                  · cases ho
                    refine ⟨rfl, rfl, fun W hW => ?_⟩
                    have hW := (show W = _ from hW); subst hW; go_simp; (try with_reducible rfl)
                  · simp only [List.setIfInBounds_toArray, List.set_cons_succ, List.set_cons_zero]; exact rfl
                  refine regk_call (I' := (fun W => W = wi.drew)) (fun _ h => h) 13 50 (by kernel_rfl) 37 #[.agg #[.string kk, .int .i64 bb, .int .i64 ee, .int .i64 ss, .int .i64 xx, .int .i64 yy, .string uu, .bool gg], .agg #[.string kk', .int .i64 bb', .int .i64 ee', .int .i64 ss', .int .i64 xx', .int .i64 yy', .string uu', .bool gg']] (fun o ho => by cases ho; exact ⟨rfl, rfl, fun W => by go_simp⟩) ?_
                  refine (LS.out _).mono ?_
                  rintro e w3 ⟨rfl, hb3⟩
                  have G3 := Lib.hid (GI.out.drew.trans (hb3.mono GI.out.size))
                  clear hb3
                  refine ⟨_, _, rfl, noB_no (by kernel_rfl), (by simp only [List.setIfInBounds_toArray, List.set_cons_succ, List.set_cons_zero]; exact rfl), ?_⟩
                  refine regk_free 14 51 (v := ?_) (T' := ?_) (noB_no (by kernel_rfl)) (by kernel_rfl) (by kernel_rfl) (by kernel_rfl) (by kernel_rfl) (fun _ _ _ h => h) (fun o ho => ?_) ?_ ?_
                  rotate_left 2
                  · cases ho
                    refine ⟨rfl, rfl, fun W => ?_⟩
                    go_simp; (try with_reducible rfl)
                  · simp only [List.setIfInBounds_toArray, List.set_cons_succ, List.set_cons_zero]; exact rfl
                  refine regk_done (by kernel_rfl) ?_
                  have GX := Lib.hid (G3.out)
                  have O6 := Lib.hid (O.out.on GX.out)
                  obtain ⟨A1, c1', h1, r1⟩ := slX_head O6.out.rd Try.underlying22 ver_size j (j : Int) rfl hj
                  obtain ⟨A2, c2', h2, r2⟩ := slX_tail O.out.rd Try.underlying22 ver_size j (j : Int) rfl hj
                  have RT := Lib.hid r2
                  have R1 := Lib.hid r1
                  clear r1 r2
                  have hl1 : (acc.take j).length = j := by rw [List.length_take]; omega
                  have hl2 : (acc.drop j).length = acc.length - j := List.length_drop
                  have hal1 := Lib.hid (show ([] : List Ver).length + (acc.take j).length ≤ 1000000000 from by have := HAL.out; simp <;> omega)
                  have hal2 := Lib.hid (show ([] ++ acc.take j).length + [(⟨kk, bb, ee, ss, (xx, yy), uu, gg⟩ : Ver)].length ≤ 1000000000 from by have := HAL.out; simp <;> omega)
                  have hal3 := Lib.hid (show (([] ++ acc.take j) ++ [(⟨kk, bb, ee, ss, (xx, yy), uu, gg⟩ : Ver)]).length + (acc.drop j).length ≤ 1000000000 from by have := HAL.out; simp <;> omega)
                  have HME := Lib.hid (show (([] ++ acc.take j) ++ [(⟨kk, bb, ee, ss, (xx, yy), uu, gg⟩ : Ver)]) ++ acc.drop j = pre ++ segV l p k (n + 1) from by
                    rw [List.nil_append, List.append_assoc, List.singleton_append, SG.out, ← SI.out j hpj hj UP.out (fun h0 _ => by rw [QQ.out]; exact LF.out)])
                  clear hl1 hl2
                  go_wp2_with (at_builtin; first
                    | (refine wpl_appX_rd rfl (.tmp 54) (.tmp 57) rfl Try.underlying22 ver_info rfl wo.heap.size _ _ _ [] (acc.take j) rfl rfl (OwnX.nil _ _) (RdX.below R1.out (Below.refl _ _)) GX.out.size hal1.out (by decide) ?_; intro v3 w5 ho5 hg5 hb5; have O5 := Lib.hid ho5; have G5 := Lib.hid (GX.out.trans hb5); obtain ⟨-, e0, e1, e2, e3, e4, e5, e6, e7⟩ := RdVr.cells1 (HA.out.below (GB.out.trans ((G.out.trans (G5.out.mono G.out.size)).mono HB.out))) n hlt PP.out; clear ho5 hg5 hb5)
                    | (refine wpl_appX rfl (.tmp 59) (.tmp 64) rfl Try.underlying22 ver_info rfl wo.heap.size _ ([] ++ acc.take j) [(⟨kk, bb, ee, ss, (xx, yy), uu, gg⟩ : Ver)] _ _ _ rfl rfl rfl rfl O5.out G5.out.size hal2.out (by decide) ?_; intro v4 w6 ho6 hg6 hb6; have O7 := Lib.hid ho6; have G7 := Lib.hid (G5.out.trans hb6); clear ho6 hg6 hb6)
                    | (refine wpl_appX_rd rfl (.tmp 66) (.tmp 69) rfl Try.underlying22 ver_info rfl wo.heap.size wo.heap.size _ _ (([] ++ acc.take j) ++ [(⟨kk, bb, ee, ss, (xx, yy), uu, gg⟩ : Ver)]) (acc.drop j) rfl rfl O7.out (RT.out.below G7.out) G7.out.size hal3.out (by decide) ?_; intro v5 w7 ho7 hg7 hb7; have O8 := Lib.hid ho7; have G8 := Lib.hid (G7.out.trans hb7); clear ho7 hg7 hb7))
                  go_roundw
                  case rel => exact ⟨n + 1, by go_num, by omega, by rw [← HME.out]; exact OwnX.mono O8.out G.out.size, G.out.trans (G8.out.mono G.out.size)⟩
                  case measure => simp [intOf]; omega
                · rw [hls] at LS
                  have LF := Lib.hid hls
                  clear hls
                  go_wp2_with fail
                  have HI : (fun W => W = wi.drew) wi.drew := rfl
                  refine regk_start [13] (fun W => W = wi.drew) (by kernel_rfl) ?_
                  refine regk_free 0 37 (v := ?_) (T' := ?_) (fun _ => HI) (by kernel_rfl) (by kernel_rfl) (by kernel_rfl) (by kernel_rfl) (fun _ _ _ h => h) (fun o ho => ?_) ?_ ?_
                  rotate_left 2
                  · cases ho
                    refine ⟨rfl, rfl, fun W => ?_⟩
                    go_simp; (try with_reducible rfl)
                  · simp only [List.setIfInBounds_toArray, List.set_cons_succ, List.set_cons_zero]; exact rfl
                  refine regk_free 1 38 (v := ?_) (T' := ?_) (fun _ => HI) (by kernel_rfl) (by kernel_rfl) (by kernel_rfl) (by kernel_rfl) (fun _ _ _ h => h) (fun o ho => ?_) ?_ ?_
                  rotate_left 2
                  · cases ho
                    refine ⟨rfl, rfl, fun W => ?_⟩
                    go_simp; (try with_reducible rfl)
                  · simp only [List.setIfInBounds_toArray, List.set_cons_succ, List.set_cons_zero]; exact rfl
                  refine regk_free 2 39 (v := ?_) (T' := ?_) (fun _ => HI) (by kernel_rfl) (by kernel_rfl) (by kernel_rfl) (by kernel_rfl) (fun _ _ _ h => h) (fun o ho => ?_) ?_ ?_
                  rotate_left 2
                  · cases ho
                    refine ⟨rfl, rfl, fun W => ?_⟩
                    go_simp; (try with_reducible rfl)
                  · simp only [List.setIfInBounds_toArray, List.set_cons_succ, List.set_cons_zero]; exact rfl
                  refine regk_free 3 40 (v := ?_) (T' := ?_) (fun _ => HI) (by kernel_rfl) (by kernel_rfl) (by kernel_rfl) (by kernel_rfl) (fun _ _ _ h => h) (fun o ho => ?_) ?_ ?_
                  rotate_left 2
                  · cases ho
                    refine ⟨rfl, rfl, fun W => ?_⟩
                    go_simp; (try with_reducible rfl)
                  · simp only [List.setIfInBounds_toArray, List.set_cons_succ, List.set_cons_zero]; exact rfl
                  refine regk_free 4 41 (v := ?_) (T' := ?_) (fun _ => HI) (by kernel_rfl) (by kernel_rfl) (by kernel_rfl) (by kernel_rfl) (fun _ _ _ h => h) (fun o ho => ?_) ?_ ?_
                  rotate_left 2
                  · cases ho
                    refine ⟨rfl, rfl, fun W => ?_⟩
                    go_simp; (try with_reducible rfl)
                  · simp only [List.setIfInBounds_toArray, List.set_cons_succ, List.set_cons_zero]; exact rfl
                  refine regk_free 5 42 (v := ?_) (T' := ?_) (fun _ => HI) (by kernel_rfl) (by kernel_rfl) (by kernel_rfl) (by kernel_rfl) (fun _ _ _ h => h) (fun o ho => ?_) ?_ ?_
                  rotate_left 2
                  · cases ho
                    refine ⟨rfl, rfl, fun W => ?_⟩
                    go_simp; (try with_reducible rfl)
                  · simp only [List.setIfInBounds_toArray, List.set_cons_succ, List.set_cons_zero]; exact rfl
                  refine regk_free 6 43 (v := ?_) (T' := ?_) (fun _ => HI) (by kernel_rfl) (by kernel_rfl) (by kernel_rfl) (by kernel_rfl) (fun _ _ _ h => h) (fun o ho => ?_) ?_ ?_
                  rotate_left 2
                  · cases ho
                    refine ⟨rfl, rfl, fun W => ?_⟩
                    go_simp; (try with_reducible rfl)
                  · simp only [List.setIfInBounds_toArray, List.set_cons_succ, List.set_cons_zero]; exact rfl
                  refine regk_take 7 44 (v := ?_) (T' := ?_) HI (by kernel_rfl) (by kernel_rfl) (by kernel_rfl) (by kernel_rfl) (by kernel_rfl) (by kernel_rfl) (fun _ _ _ h => h) (fun o ho => ?_) ?_ ?_
                  rotate_left 2
                  · cases ho
                    refine ⟨rfl, rfl, fun W hW => ?_⟩
                    have hW := (show W = _ from hW); subst hW; go_simp; (try with_reducible rfl)
                  · simp only [List.setIfInBounds_toArray, List.set_cons_succ, List.set_cons_zero]; exact rfl
                  refine regk_free 8 45 (v := ?_) (T' := ?_) (fun _ => HI) (by kernel_rfl) (by kernel_rfl) (by kernel_rfl) (by kernel_rfl) (fun _ _ _ h => h) (fun o ho => ?_) ?_ ?_
                  rotate_left 2
                  · cases ho
                    refine ⟨rfl, rfl, fun W => ?_⟩
                    go_simp; (try with_reducible rfl)
                  · simp only [List.setIfInBounds_toArray, List.set_cons_succ, List.set_cons_zero]; exact rfl
                  refine regk_free 9 46 (v := ?_) (T' := ?_) (fun _ => HI) (by kernel_rfl) (by kernel_rfl) (by kernel_rfl) (by kernel_rfl) (fun _ _ _ h => h) (fun o ho => ?_) ?_ ?_
                  rotate_left 2
                  · cases ho
                    refine ⟨rfl, rfl, fun W => ?_⟩
                    go_simp; (try with_reducible rfl)
                  · simp only [List.setIfInBounds_toArray, List.set_cons_succ, List.set_cons_zero]; exact rfl
                  refine regk_free 10 47 (v := ?_) (T' := ?_) (fun _ => HI) (by kernel_rfl) (by kernel_rfl) (by kernel_rfl) (by kernel_rfl) (fun _ _ _ h => h) (fun o ho => ?_) ?_ ?_
                  rotate_left 2
                  · cases ho
                    refine ⟨rfl, rfl, fun W => ?_⟩
                    go_simp; (try with_reducible rfl)
                  · simp only [List.setIfInBounds_toArray, List.set_cons_succ, List.set_cons_zero]; exact rfl
                  refine regk_free 11 48 (v := ?_) (T' := ?_) (fun _ => HI) (by kernel_rfl) (by kernel_rfl) (by kernel_rfl) (by kernel_rfl) (fun _ _ _ h => h) (fun o ho => ?_) ?_ ?_
                  rotate_left 2
                  · cases ho
                    refine ⟨rfl, rfl, fun W => ?_⟩
                    go_simp; (try with_reducible rfl)
                  · simp only [List.setIfInBounds_toArray, List.set_cons_succ, List.set_cons_zero]; exact rfl
                  refine regk_take 12 49 (v := ?_) (T' := ?_) HI (by kernel_rfl) (by kernel_rfl) (by kernel_rfl) (by kernel_rfl) (by kernel_rfl) (by kernel_rfl) (fun _ _ _ h => h) (fun o ho => ?_) ?_ ?_
                  rotate_left 2
                  · cases ho
                    refine ⟨rfl, rfl, fun W hW => ?_⟩
                    have hW := (show W = _ from hW); subst hW; go_simp; (try with_reducible rfl)
                  · simp only [List.setIfInBounds_toArray, List.set_cons_succ, List.set_cons_zero]; exact rfl
                  refine regk_call (I' := (fun W => W = wi.drew)) (fun _ h => h) 13 50 (by kernel_rfl) 37 #[.agg #[.string kk, .int .i64 bb, .int .i64 ee, .int .i64 ss, .int .i64 xx, .int .i64 yy, .string uu, .bool gg], .agg #[.string kk', .int .i64 bb', .int .i64 ee', .int .i64 ss', .int .i64 xx', .int .i64 yy', .string uu', .bool gg']] (fun o ho => by cases ho; exact ⟨rfl, rfl, fun W => by go_simp⟩) ?_
                  refine (LS.out _).mono ?_
                  rintro e w3 ⟨rfl, hb3⟩
                  have G3 := Lib.hid (GI.out.drew.trans (hb3.mono GI.out.size))
                  clear hb3
                  refine ⟨_, _, rfl, noB_no (by kernel_rfl), (by simp only [List.setIfInBounds_toArray, List.set_cons_succ, List.set_cons_zero]; exact rfl), ?_⟩
                  refine regk_free 14 51 (v := ?_) (T' := ?_) (noB_no (by kernel_rfl)) (by kernel_rfl) (by kernel_rfl) (by kernel_rfl) (by kernel_rfl) (fun _ _ _ h => h) (fun o ho => ?_) ?_ ?_
                  rotate_left 2
                  · cases ho
                    refine ⟨rfl, rfl, fun W => ?_⟩
                    go_simp; (try with_reducible rfl)
                  · simp only [List.setIfInBounds_toArray, List.set_cons_succ, List.set_cons_zero]; exact rfl
                  refine regk_done (by kernel_rfl) ?_
                  go_wp2_with fail
                  go_roundw
                  case rel => exact ⟨j - 1, by go_num, by omega, by omega, G3.out, fun i h hi => by
                    by_cases e : i = j - 1
                    · subst e; rw [QQ.out]; exact LF.out
                    · exact UP.out i h (by omega)⟩
                  case measure => simp [intOf]; omega
              · obtain rfl : j = pre.length := by omega
                have zj : decide ((pre.length : Int) < (pre.length : Int)) = false := by simp
                have zj2 : decide (pre.length < pre.length) = false := by simp
                go_wp2_with fail
                go_quiet (fail)
                have GX := Lib.hid (GI.out.drewN nq)
                have O6 := Lib.hid (O.out.on GX.out)
                obtain ⟨A1, c1', h1, r1⟩ := slX_head O6.out.rd Try.underlying22 ver_size pre.length (pre.length : Int) rfl hj
                obtain ⟨A2, c2', h2, r2⟩ := slX_tail O.out.rd Try.underlying22 ver_size pre.length (pre.length : Int) rfl hj
                have RT := Lib.hid r2
                have R1 := Lib.hid r1
                clear r1 r2
                have hl1 : (acc.take pre.length).length = pre.length := by rw [List.length_take]; omega
                have hl2 : (acc.drop pre.length).length = acc.length - pre.length := List.length_drop
                have hal1 := Lib.hid (show ([] : List Ver).length + (acc.take pre.length).length ≤ 1000000000 from by have := HAL.out; simp <;> omega)
                have hal2 := Lib.hid (show ([] ++ acc.take pre.length).length + [(⟨kk, bb, ee, ss, (xx, yy), uu, gg⟩ : Ver)].length ≤ 1000000000 from by have := HAL.out; simp <;> omega)
                have hal3 := Lib.hid (show (([] ++ acc.take pre.length) ++ [(⟨kk, bb, ee, ss, (xx, yy), uu, gg⟩ : Ver)]).length + (acc.drop pre.length).length ≤ 1000000000 from by have := HAL.out; simp <;> omega)
                have HME := Lib.hid (show (([] ++ acc.take pre.length) ++ [(⟨kk, bb, ee, ss, (xx, yy), uu, gg⟩ : Ver)]) ++ acc.drop pre.length = pre ++ segV l p k (n + 1) from by
                  rw [List.nil_append, List.append_assoc, List.singleton_append, SG.out, ← SI.out pre.length hpj hj UP.out (fun _ h0 => absurd h0 (by omega))])
                clear hl1 hl2
                go_wp2_with (at_builtin; first
                  | (refine wpl_appX_rd rfl (.tmp 54) (.tmp 57) rfl Try.underlying22 ver_info rfl wo.heap.size _ _ _ [] (acc.take pre.length) rfl rfl (OwnX.nil _ _) (RdX.below R1.out (Below.refl _ _)) GX.out.size hal1.out (by decide) ?_; intro v3 w5 ho5 hg5 hb5; have O5 := Lib.hid ho5; have G5 := Lib.hid (GX.out.trans hb5); obtain ⟨-, e0, e1, e2, e3, e4, e5, e6, e7⟩ := RdVr.cells1 (HA.out.below (GB.out.trans ((G.out.trans (G5.out.mono G.out.size)).mono HB.out))) n hlt PP.out; clear ho5 hg5 hb5)
                  | (refine wpl_appX rfl (.tmp 59) (.tmp 64) rfl Try.underlying22 ver_info rfl wo.heap.size _ ([] ++ acc.take pre.length) [(⟨kk, bb, ee, ss, (xx, yy), uu, gg⟩ : Ver)] _ _ _ rfl rfl rfl rfl O5.out G5.out.size hal2.out (by decide) ?_; intro v4 w6 ho6 hg6 hb6; have O7 := Lib.hid ho6; have G7 := Lib.hid (G5.out.trans hb6); clear ho6 hg6 hb6)
                  | (refine wpl_appX_rd rfl (.tmp 66) (.tmp 69) rfl Try.underlying22 ver_info rfl wo.heap.size wo.heap.size _ _ (([] ++ acc.take pre.length) ++ [(⟨kk, bb, ee, ss, (xx, yy), uu, gg⟩ : Ver)]) (acc.drop pre.length) rfl rfl O7.out (RT.out.below G7.out) G7.out.size hal3.out (by decide) ?_; intro v5 w7 ho7 hg7 hb7; have O8 := Lib.hid ho7; have G8 := Lib.hid (G7.out.trans hb7); clear ho7 hg7 hb7))
                go_roundw
                case rel => exact ⟨n + 1, by go_num, by omega, by rw [← HME.out]; exact OwnX.mono O8.out G.out.size, G.out.trans (G8.out.mono G.out.size)⟩
                case measure => simp [intOf]; omega
          · have SG := Lib.hid (show segV l p k (n + 1) = segV l p k n from by rw [SS.out, if_neg hk])
            have zk : (lg != (k : Int)) = true := by simpa using hk
            have zk2 : decide (lg = (k : Int)) = false := by rw [decide_eq_false_iff_not]; exact hk
            go_wp2_with fail
            refine (LG.out).mono ?_
            rintro z w1 ⟨rfl, hb1⟩
            have G1 := Lib.hid (G.out.trans (hb1.mono G.out.size))
            have O1 := Lib.hid (O.out.on hb1)
            clear hb1 LG
            go_wp2_with fail
            go_roundw
            case rel => exact ⟨n + 1, by go_num, HLT.out, by rw [SG.out, HAC.out]; exact O1.out, G1.out⟩
            case measure => have := HLT.out; simp [intOf]; omega
        · obtain rfl : n = l.length := by omega
          have zl : decide ((l.length : Int) < (l.length : Int)) = false := by simp
          have NX := Lib.hid (legs_step HPRE.out)
          go_wp2_with fail
          go_roundw
          case rel => exact ⟨k, acc, rfl, by have := HK1.out; omega, by rw [← HAC.out]; exact NX.out, O.out, G.out⟩
          case measure => simp [intOf]
end Go.Proofs.Ytlpakooogbaclaa
