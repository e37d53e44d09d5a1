/- Layer 6: versions in order, by the document. -/
import Derived.Test.YtnioiojafnkmhaaRV
import Derived.Test.YtnioiojafnkmhaaMa
import Derived.Test.YtnioiojafnkmhaaBA
namespace Go.Proofs.Ytnioiojafnkmhaa
open Go.RowKit
set_option linter.unusedVariables false
theorem sort_step {α : Type} {lt : α → α → Bool} {l acc : List α} {k : Nat} {p : α} (h : acc = sortR lt (l.take k)) (hk : k < l.length) (hp : l[k] = p) : insR lt p acc = sortR lt (l.take (k + 1)) := by
  rw [List.take_succ_eq_append_getElem hk, sortR_snoc, hp, h]
theorem ver_size (w : World) : (Go.sizeOf 33).run Try.prog w = .ok 8 w := by kernel_rfl

set_option maxHeartbeats 8000000 in
set_option maxRecDepth 100000 in
/-- The versions, each put behind all that it is not ahead of. -/
theorem ref6_sorted (va : Value) (l : List Ver) (w : World) (ha : RdVr w w.heap.size va l) (hl : l.length ≤ 1000) :
    Calls Try.prog 20 #[va] w fun e w' => ∃ v', e = .returned v' ∧ OwnVr w' w.heap.size v' (sortR lessV l) ∧ Below w.heap.size w w' := by
  have HA := Lib.hid ha
  obtain ⟨A, ca, rfl, hla, hca, -⟩ := ha
  go_enter Try.func20, Try.ntmps20
  go_wp2_with fail
  go_loopw [3, 4] (fun x i wr => ∃ (k : Nat) (acc : List Ver), i = .int .i64 k ∧ k ≤ l.length ∧ OwnVr wr w.heap.size x acc ∧ acc.length = k ∧ acc = sortR lessV (l.take k) ∧ Below w.heap.size w wr) (fun _ i _ => l.length - (intOf i).toNat)
  case atStart => exact ⟨0, [], rfl, Nat.zero_le _, OwnX.nil _ _, rfl, by simp [sortR], Below.refl _ _⟩
  case round =>
    obtain ⟨k, acc, rfl, hk, ho, hal, hmy, hbw⟩ := hrel
    rename World => wo
    have HAL := Lib.hid hal
    have O := Lib.hid ho
    have HM := Lib.hid hmy
    have G := Lib.hid hbw
    obtain ⟨OA, oc, eo, -⟩ := ho.rd
    subst eo
    clear ho hmy hbw hal
    by_cases hlt : k < l.length
    · have zl : decide ((k : Int) < (l.length : Int)) = true := by simp; omega
      obtain ⟨b, o, rfl, hbb, -⟩ := RdVr.here HA.out k hlt
      have HBB := Lib.hid hbb
      obtain ⟨p, hp⟩ : ∃ p, l[k] = p := ⟨_, rfl⟩
      obtain ⟨kk, bb, ee, ss, ⟨xx, yy⟩, uu, gg⟩ := p
      have PP := Lib.hid hp
      clear hp hbb
      go_wp2_with fail
      go_loopw [5] (fun i wi => ∃ j : Nat, i = .int .i64 j ∧ j ≤ acc.length ∧ Below wo.heap.size wo wi ∧ ∀ (i : Nat) (h : i < acc.length), j ≤ i → lessV ⟨kk, bb, ee, ss, (xx, yy), uu, gg⟩ acc[i] = true) (fun i _ => (intOf i).toNat)
      case atStart => exact ⟨acc.length, rfl, Nat.le_refl _, Below.refl _ _, fun i h hi => absurd h (by omega)⟩
      case round =>
        obtain ⟨j, rfl, hj, hbi, hup⟩ := hrel
        have UP := Lib.hid hup
        clear hup
        rename World => wi
        have GI := Lib.hid hbi
        clear hbi
        by_cases hj0 : j = 0
        · subst hj0
          go_wp2_with fail
          go_quiet (fail)
          have GX := Lib.hid (GI.out.drewN nq)
          have O6 := Lib.hid (O.out.on GX.out)
          obtain ⟨A1, c1', h1, r1⟩ := slX_head O6.out.rd Try.underlying24 ver_size 0 (0 : Int) rfl (Nat.zero_le _)
          obtain ⟨A2, c2', h2, r2⟩ := slX_tail O.out.rd Try.underlying24 ver_size 0 (0 : Int) rfl (Nat.zero_le _)
          have RT := Lib.hid r2
          have R1 := Lib.hid r1
          clear r1 r2
          have hl1 : (acc.take 0).length = 0 := by rw [List.length_take]; omega
          have hl2 : (acc.drop 0).length = acc.length - 0 := List.length_drop
          have hal1 := Lib.hid (show ([] : List Ver).length + (acc.take 0).length ≤ 1000000000 from by have := HAL.out; simp <;> omega)
          have hal2 := Lib.hid (show ([] ++ acc.take 0).length + [(⟨kk, bb, ee, ss, (xx, yy), uu, gg⟩ : Ver)].length ≤ 1000000000 from by have := HAL.out; simp <;> omega)
          have hal3 := Lib.hid (show (([] ++ acc.take 0) ++ [(⟨kk, bb, ee, ss, (xx, yy), uu, gg⟩ : Ver)]).length + (acc.drop 0).length ≤ 1000000000 from by have := HAL.out; simp <;> omega)
          have HLN := Lib.hid (show ((([] ++ acc.take 0) ++ [(⟨kk, bb, ee, ss, (xx, yy), uu, gg⟩ : Ver)]) ++ acc.drop 0).length = k + 1 from by have := HAL.out; simp <;> omega)
          have HME := Lib.hid (show (([] ++ acc.take 0) ++ [(⟨kk, bb, ee, ss, (xx, yy), uu, gg⟩ : Ver)]) ++ acc.drop 0 = sortR lessV (l.take (k + 1)) from by
            rw [List.nil_append, List.append_assoc, List.singleton_append, insR_at _ acc 0 (Nat.zero_le _) UP.out (fun _ h0 => absurd h0 (by omega))]
            exact sort_step HM.out hlt PP.out)
          clear hl1 hl2
          go_wp2_with (at_builtin; first
            | (refine wpl_appX_rd rfl (.tmp 31) (.tmp 34) rfl Try.underlying24 ver_info rfl wo.heap.size _ _ _ [] (acc.take 0) rfl rfl (OwnX.nil _ _) (RdX.below R1.out (Below.refl _ _)) GX.out.size hal1.out (by decide) ?_; intro v3 w5 ho5 hg5 hb5; have O5 := Lib.hid ho5; have G5 := Lib.hid (GX.out.trans hb5); obtain ⟨-, e0, e1, e2, e3, e4, e5, e6, e7⟩ := RdVr.cells1 (HA.out.below (G.out.trans (G5.out.mono G.out.size))) k hlt PP.out; clear ho5 hg5 hb5)
            | (go_loud (refine wpl_appX rfl (.tmp 36) (.tmp 41) rfl Try.underlying24 ver_info rfl wo.heap.size _ ([] ++ acc.take 0) [(⟨kk, bb, ee, ss, (xx, yy), uu, gg⟩ : Ver)] _ _ _ rfl rfl rfl rfl O5.out G5.out.size hal2.out (by decide) ?_); intro v4 w6 ho6 hg6 hb6; have O7 := Lib.hid ho6; have G7 := Lib.hid (G5.out.trans hb6); clear ho6 hg6 hb6)
            | (refine wpl_appX_rd rfl (.tmp 43) (.tmp 46) rfl Try.underlying24 ver_info rfl wo.heap.size wo.heap.size _ _ (([] ++ acc.take 0) ++ [(⟨kk, bb, ee, ss, (xx, yy), uu, gg⟩ : Ver)]) (acc.drop 0) rfl rfl O7.out (RT.out.below G7.out) G7.out.size hal3.out (by decide) ?_; intro v5 w7 ho7 hg7 hb7; have O8 := Lib.hid ho7; have G8 := Lib.hid (G7.out.trans hb7); clear ho7 hg7 hb7))

          go_roundw
          case rel => exact ⟨k + 1, _, by go_num, by omega, OwnX.mono O8.out G.out.size, HLN.out, HME.out, G.out.trans (G8.out.mono G.out.size)⟩
          case measure => simp [intOf]; omega
        · have zj : decide ((0 : Int) < (j : Int)) = true := by simp; omega
          have zj2 : decide (0 < j) = true := by simp; omega
          have hj1 : j - 1 < acc.length := by omega
          have hsub : (j : Int) - 1 = ((j - 1 : Nat) : Int) := by omega
          have hw64 : IntKind.i64.wrap ((j - 1 : Nat) : Int) = ((j - 1 : Nat) : Int) := by rw [IntKind.wrap_i64]; have := HAL.out; omega
          have hi1 : ((j - 1 : Nat) : Int) < (acc.length : Int) := by omega
          obtain ⟨-, c0, c1, c2, c3, c4, c5, c6, c7⟩ := RdVr.cells1 (HA.out.below (G.out.trans (GI.out.mono G.out.size))) k hlt PP.out
          obtain ⟨b', o', rfl, hbb', d0, d1, d2, d3, d4, d5, d6, d7⟩ := RdVr.here (O.out.on GI.out).rd (j - 1) hj1
          have LS := Lib.hid (fun w => ref6_less ⟨kk, bb, ee, ss, (xx, yy), uu, gg⟩ acc[j - 1] w)
          generalize hq : acc[j - 1] = q at *
          obtain ⟨kk', bb', ee', ss', ⟨xx', yy'⟩, uu', gg'⟩ := q
          have QQ := Lib.hid hq
          clear hq
          unfold verV at LS
          simp only at LS c0 c1 c2 c3 c4 c5 c6 c7 d0 d1 d2 d3 d4 d5 d6 d7
          cases hls : lessV ⟨kk, bb, ee, ss, (xx, yy), uu, gg⟩ ⟨kk', bb', ee', ss', (xx', yy'), uu', gg'⟩
          · rw [hls] at LS
            have LF := Lib.hid hls
            clear hls
            go_wp2_with fail
            have HI : (fun W => W = wi.drew) wi.drew := rfl
            refine regk_start [12] (fun W => W = wi.drew) (by kernel_rfl) ?_
            refine regk_free 0 15 (v := ?_) (T' := ?_) (fun _ => HI) (by kernel_rfl) (by kernel_rfl) (by kernel_rfl) (by kernel_rfl) (fun _ _ _ h => h) (fun o ho => ?_) ?_ ?_
            rotate_left 2
            · cases ho
              refine ⟨rfl, rfl, fun W => ?_⟩
              go_simp; (try with_reducible rfl)
            · simp only [List.setIfInBounds_toArray, List.set_cons_succ, List.set_cons_zero]; exact rfl
            refine regk_free 1 16 (v := ?_) (T' := ?_) (fun _ => HI) (by kernel_rfl) (by kernel_rfl) (by kernel_rfl) (by kernel_rfl) (fun _ _ _ h => h) (fun o ho => ?_) ?_ ?_
            rotate_left 2
            · cases ho
              refine ⟨rfl, rfl, fun W => ?_⟩
              go_simp; (try with_reducible rfl)
            · simp only [List.setIfInBounds_toArray, List.set_cons_succ, List.set_cons_zero]; exact rfl
            refine regk_free 2 17 (v := ?_) (T' := ?_) (fun _ => HI) (by kernel_rfl) (by kernel_rfl) (by kernel_rfl) (by kernel_rfl) (fun _ _ _ h => h) (fun o ho => ?_) ?_ ?_
            rotate_left 2
            · cases ho
              refine ⟨rfl, rfl, fun W => ?_⟩
              go_simp; (try with_reducible rfl)
            · simp only [List.setIfInBounds_toArray, List.set_cons_succ, List.set_cons_zero]; exact rfl
            refine regk_free 3 18 (v := ?_) (T' := ?_) (fun _ => HI) (by kernel_rfl) (by kernel_rfl) (by kernel_rfl) (by kernel_rfl) (fun _ _ _ h => h) (fun o ho => ?_) ?_ ?_
            rotate_left 2
            · cases ho
              refine ⟨rfl, rfl, fun W => ?_⟩
              go_simp; (try with_reducible rfl)
            · simp only [List.setIfInBounds_toArray, List.set_cons_succ, List.set_cons_zero]; exact rfl
            refine regk_free 4 19 (v := ?_) (T' := ?_) (fun _ => HI) (by kernel_rfl) (by kernel_rfl) (by kernel_rfl) (by kernel_rfl) (fun _ _ _ h => h) (fun o ho => ?_) ?_ ?_
            rotate_left 2
            · cases ho
              refine ⟨rfl, rfl, fun W => ?_⟩
              go_simp; (try with_reducible rfl)
            · simp only [List.setIfInBounds_toArray, List.set_cons_succ, List.set_cons_zero]; exact rfl
            refine regk_free 5 20 (v := ?_) (T' := ?_) (fun _ => HI) (by kernel_rfl) (by kernel_rfl) (by kernel_rfl) (by kernel_rfl) (fun _ _ _ h => h) (fun o ho => ?_) ?_ ?_
            rotate_left 2
            · cases ho
              refine ⟨rfl, rfl, fun W => ?_⟩
              go_simp; (try with_reducible rfl)
            · simp only [List.setIfInBounds_toArray, List.set_cons_succ, List.set_cons_zero]; exact rfl
            refine regk_take 6 21 (v := ?_) (T' := ?_) HI (by kernel_rfl) (by kernel_rfl) (by kernel_rfl) (by kernel_rfl) (by kernel_rfl) (by kernel_rfl) (fun _ _ _ h => h) (fun o ho => ?_) ?_ ?_
            rotate_left 2
            · cases ho
              refine ⟨rfl, rfl, fun W hW => ?_⟩
              have hW := (show W = _ from hW); subst hW; go_simp; (try with_reducible rfl)
            · simp only [List.setIfInBounds_toArray, List.set_cons_succ, List.set_cons_zero]; exact rfl
            refine regk_free 7 22 (v := ?_) (T' := ?_) (fun _ => HI) (by kernel_rfl) (by kernel_rfl) (by kernel_rfl) (by kernel_rfl) (fun _ _ _ h => h) (fun o ho => ?_) ?_ ?_
            rotate_left 2
            · cases ho
              refine ⟨rfl, rfl, fun W => ?_⟩
              go_simp; (try with_reducible rfl)
            · simp only [List.setIfInBounds_toArray, List.set_cons_succ, List.set_cons_zero]; exact rfl
            refine regk_free 8 23 (v := ?_) (T' := ?_) (fun _ => HI) (by kernel_rfl) (by kernel_rfl) (by kernel_rfl) (by kernel_rfl) (fun _ _ _ h => h) (fun o ho => ?_) ?_ ?_
            rotate_left 2
            · cases ho
              refine ⟨rfl, rfl, fun W => ?_⟩
              go_simp; (try with_reducible rfl)
            · simp only [List.setIfInBounds_toArray, List.set_cons_succ, List.set_cons_zero]; exact rfl
            refine regk_free 9 24 (v := ?_) (T' := ?_) (fun _ => HI) (by kernel_rfl) (by kernel_rfl) (by kernel_rfl) (by kernel_rfl) (fun _ _ _ h => h) (fun o ho => ?_) ?_ ?_
            rotate_left 2
            · cases ho
              refine ⟨rfl, rfl, fun W => ?_⟩
              go_simp; (try with_reducible rfl)
            · simp only [List.setIfInBounds_toArray, List.set_cons_succ, List.set_cons_zero]; exact rfl
            refine regk_free 10 25 (v := ?_) (T' := ?_) (fun _ => HI) (by kernel_rfl) (by kernel_rfl) (by kernel_rfl) (by kernel_rfl) (fun _ _ _ h => h) (fun o ho => ?_) ?_ ?_
            rotate_left 2
            · cases ho
              refine ⟨rfl, rfl, fun W => ?_⟩
              go_simp; (try with_reducible rfl)
            · simp only [List.setIfInBounds_toArray, List.set_cons_succ, List.set_cons_zero]; exact rfl
            refine regk_take 11 26 (v := ?_) (T' := ?_) HI (by kernel_rfl) (by kernel_rfl) (by kernel_rfl) (by kernel_rfl) (by kernel_rfl) (by kernel_rfl) (fun _ _ _ h => h) (fun o ho => ?_) ?_ ?_
            rotate_left 2
            · cases ho
              refine ⟨rfl, rfl, fun W hW => ?_⟩
              have hW := (show W = _ from hW); subst hW; go_simp; (try with_reducible rfl)
            · simp only [List.setIfInBounds_toArray, List.set_cons_succ, List.set_cons_zero]; exact rfl
            refine regk_call (I' := (fun W => W = wi.drew)) (fun _ h => h) 12 27 (by kernel_rfl) 32 #[.agg #[.string kk, .int .i64 bb, .int .i64 ee, .int .i64 ss, .int .i64 xx, .int .i64 yy, .string uu, .bool gg], .agg #[.string kk', .int .i64 bb', .int .i64 ee', .int .i64 ss', .int .i64 xx', .int .i64 yy', .string uu', .bool gg']] (fun o ho => by cases ho; exact ⟨rfl, rfl, fun W => by go_simp⟩) ?_
            refine (LS.out _).mono ?_
            rintro e w3 ⟨rfl, hb3⟩
            have G3 := Lib.hid (GI.out.drew.trans (hb3.mono GI.out.size))
            clear hb3
            refine ⟨_, _, rfl, noB_no (by kernel_rfl), (by simp only [List.setIfInBounds_toArray, List.set_cons_succ, List.set_cons_zero]; exact rfl), ?_⟩
            refine regk_free 13 28 (v := ?_) (T' := ?_) (noB_no (by kernel_rfl)) (by kernel_rfl) (by kernel_rfl) (by kernel_rfl) (by kernel_rfl) (fun _ _ _ h => h) (fun o ho => ?_) ?_ ?_
            rotate_left 2
            · cases ho
              refine ⟨rfl, rfl, fun W => ?_⟩
              go_simp; (try with_reducible rfl)
            · simp only [List.setIfInBounds_toArray, List.set_cons_succ, List.set_cons_zero]; exact rfl
            refine regk_done (by kernel_rfl) ?_
            have GX := Lib.hid (G3.out)
            have O6 := Lib.hid (O.out.on GX.out)
            obtain ⟨A1, c1', h1, r1⟩ := slX_head O6.out.rd Try.underlying24 ver_size j (j : Int) rfl hj
            obtain ⟨A2, c2', h2, r2⟩ := slX_tail O.out.rd Try.underlying24 ver_size j (j : Int) rfl hj
            have RT := Lib.hid r2
            have R1 := Lib.hid r1
            clear r1 r2
            have hl1 : (acc.take j).length = j := by rw [List.length_take]; omega
            have hl2 : (acc.drop j).length = acc.length - j := List.length_drop
            have hal1 := Lib.hid (show ([] : List Ver).length + (acc.take j).length ≤ 1000000000 from by have := HAL.out; simp <;> omega)
            have hal2 := Lib.hid (show ([] ++ acc.take j).length + [(⟨kk, bb, ee, ss, (xx, yy), uu, gg⟩ : Ver)].length ≤ 1000000000 from by have := HAL.out; simp <;> omega)
            have hal3 := Lib.hid (show (([] ++ acc.take j) ++ [(⟨kk, bb, ee, ss, (xx, yy), uu, gg⟩ : Ver)]).length + (acc.drop j).length ≤ 1000000000 from by have := HAL.out; simp <;> omega)
            have HLN := Lib.hid (show ((([] ++ acc.take j) ++ [(⟨kk, bb, ee, ss, (xx, yy), uu, gg⟩ : Ver)]) ++ acc.drop j).length = k + 1 from by have := HAL.out; simp <;> omega)
            have HME := Lib.hid (show (([] ++ acc.take j) ++ [(⟨kk, bb, ee, ss, (xx, yy), uu, gg⟩ : Ver)]) ++ acc.drop j = sortR lessV (l.take (k + 1)) from by
              rw [List.nil_append, List.append_assoc, List.singleton_append, insR_at _ acc j hj UP.out (fun _ _ => by rw [QQ.out]; exact LF.out)]
              exact sort_step HM.out hlt PP.out)
            clear hl1 hl2
            go_wp2_with (at_builtin; first
              | (refine wpl_appX_rd rfl (.tmp 31) (.tmp 34) rfl Try.underlying24 ver_info rfl wo.heap.size _ _ _ [] (acc.take j) rfl rfl (OwnX.nil _ _) (RdX.below R1.out (Below.refl _ _)) GX.out.size hal1.out (by decide) ?_; intro v3 w5 ho5 hg5 hb5; have O5 := Lib.hid ho5; have G5 := Lib.hid (GX.out.trans hb5); obtain ⟨-, e0, e1, e2, e3, e4, e5, e6, e7⟩ := RdVr.cells1 (HA.out.below (G.out.trans (G5.out.mono G.out.size))) k hlt PP.out; clear ho5 hg5 hb5)
              | (go_loud (refine wpl_appX rfl (.tmp 36) (.tmp 41) rfl Try.underlying24 ver_info rfl wo.heap.size _ ([] ++ acc.take j) [(⟨kk, bb, ee, ss, (xx, yy), uu, gg⟩ : Ver)] _ _ _ rfl rfl rfl rfl O5.out G5.out.size hal2.out (by decide) ?_); intro v4 w6 ho6 hg6 hb6; have O7 := Lib.hid ho6; have G7 := Lib.hid (G5.out.trans hb6); clear ho6 hg6 hb6)
              | (refine wpl_appX_rd rfl (.tmp 43) (.tmp 46) rfl Try.underlying24 ver_info rfl wo.heap.size wo.heap.size _ _ (([] ++ acc.take j) ++ [(⟨kk, bb, ee, ss, (xx, yy), uu, gg⟩ : Ver)]) (acc.drop j) rfl rfl O7.out (RT.out.below G7.out) G7.out.size hal3.out (by decide) ?_; intro v5 w7 ho7 hg7 hb7; have O8 := Lib.hid ho7; have G8 := Lib.hid (G7.out.trans hb7); clear ho7 hg7 hb7))

            go_roundw
            case rel => exact ⟨k + 1, _, by go_num, by omega, OwnX.mono O8.out G.out.size, HLN.out, HME.out, G.out.trans (G8.out.mono G.out.size)⟩
            case measure => simp [intOf]; omega
          · rw [hls] at LS
            have LF := Lib.hid hls
            clear hls
            go_wp2_with fail
            have HI : (fun W => W = wi.drew) wi.drew := rfl
            refine regk_start [12] (fun W => W = wi.drew) (by kernel_rfl) ?_
            refine regk_free 0 15 (v := ?_) (T' := ?_) (fun _ => HI) (by kernel_rfl) (by kernel_rfl) (by kernel_rfl) (by kernel_rfl) (fun _ _ _ h => h) (fun o ho => ?_) ?_ ?_
            rotate_left 2
            · cases ho
              refine ⟨rfl, rfl, fun W => ?_⟩
              go_simp; (try with_reducible rfl)
            · simp only [List.setIfInBounds_toArray, List.set_cons_succ, List.set_cons_zero]; exact rfl
            refine regk_free 1 16 (v := ?_) (T' := ?_) (fun _ => HI) (by kernel_rfl) (by kernel_rfl) (by kernel_rfl) (by kernel_rfl) (fun _ _ _ h => h) (fun o ho => ?_) ?_ ?_
            rotate_left 2
            · cases ho
              refine ⟨rfl, rfl, fun W => ?_⟩
              go_simp; (try with_reducible rfl)
            · simp only [List.setIfInBounds_toArray, List.set_cons_succ, List.set_cons_zero]; exact rfl
            refine regk_free 2 17 (v := ?_) (T' := ?_) (fun _ => HI) (by kernel_rfl) (by kernel_rfl) (by kernel_rfl) (by kernel_rfl) (fun _ _ _ h => h) (fun o ho => ?_) ?_ ?_
            rotate_left 2
            · cases ho
              refine ⟨rfl, rfl, fun W => ?_⟩
              go_simp; (try with_reducible rfl)
            · simp only [List.setIfInBounds_toArray, List.set_cons_succ, List.set_cons_zero]; exact rfl
            refine regk_free 3 18 (v := ?_) (T' := ?_) (fun _ => HI) (by kernel_rfl) (by kernel_rfl) (by kernel_rfl) (by kernel_rfl) (fun _ _ _ h => h) (fun o ho => ?_) ?_ ?_
            rotate_left 2
            · cases ho
              refine ⟨rfl, rfl, fun W => ?_⟩
              go_simp; (try with_reducible rfl)
            · simp only [List.setIfInBounds_toArray, List.set_cons_succ, List.set_cons_zero]; exact rfl
            refine regk_free 4 19 (v := ?_) (T' := ?_) (fun _ => HI) (by kernel_rfl) (by kernel_rfl) (by kernel_rfl) (by kernel_rfl) (fun _ _ _ h => h) (fun o ho => ?_) ?_ ?_
            rotate_left 2
            · cases ho
              refine ⟨rfl, rfl, fun W => ?_⟩
              go_simp; (try with_reducible rfl)
            · simp only [List.setIfInBounds_toArray, List.set_cons_succ, List.set_cons_zero]; exact rfl
            refine regk_free 5 20 (v := ?_) (T' := ?_) (fun _ => HI) (by kernel_rfl) (by kernel_rfl) (by kernel_rfl) (by kernel_rfl) (fun _ _ _ h => h) (fun o ho => ?_) ?_ ?_
            rotate_left 2
            · cases ho
              refine ⟨rfl, rfl, fun W => ?_⟩
              go_simp; (try with_reducible rfl)
            · simp only [List.setIfInBounds_toArray, List.set_cons_succ, List.set_cons_zero]; exact rfl
            refine regk_take 6 21 (v := ?_) (T' := ?_) HI (by kernel_rfl) (by kernel_rfl) (by kernel_rfl) (by kernel_rfl) (by kernel_rfl) (by kernel_rfl) (fun _ _ _ h => h) (fun o ho => ?_) ?_ ?_
            rotate_left 2
            · cases ho
              refine ⟨rfl, rfl, fun W hW => ?_⟩
              have hW := (show W = _ from hW); subst hW; go_simp; (try with_reducible rfl)
            · simp only [List.setIfInBounds_toArray, List.set_cons_succ, List.set_cons_zero]; exact rfl
            refine regk_free 7 22 (v := ?_) (T' := ?_) (fun _ => HI) (by kernel_rfl) (by kernel_rfl) (by kernel_rfl) (by kernel_rfl) (fun _ _ _ h => h) (fun o ho => ?_) ?_ ?_
            rotate_left 2
            · cases ho
              refine ⟨rfl, rfl, fun W => ?_⟩
              go_simp; (try with_reducible rfl)
            · simp only [List.setIfInBounds_toArray, List.set_cons_succ, List.set_cons_zero]; exact rfl
            refine regk_free 8 23 (v := ?_) (T' := ?_) (fun _ => HI) (by kernel_rfl) (by kernel_rfl) (by kernel_rfl) (by kernel_rfl) (fun _ _ _ h => h) (fun o ho => ?_) ?_ ?_
            rotate_left 2
            · cases ho
              refine ⟨rfl, rfl, fun W => ?_⟩
              go_simp; (try with_reducible rfl)
            · simp only [List.setIfInBounds_toArray, List.set_cons_succ, List.set_cons_zero]; exact rfl
            refine regk_free 9 24 (v := ?_) (T' := ?_) (fun _ => HI) (by kernel_rfl) (by kernel_rfl) (by kernel_rfl) (by kernel_rfl) (fun _ _ _ h => h) (fun o ho => ?_) ?_ ?_
            rotate_left 2
            · cases ho
              refine ⟨rfl, rfl, fun W => ?_⟩
              go_simp; (try with_reducible rfl)
            · simp only [List.setIfInBounds_toArray, List.set_cons_succ, List.set_cons_zero]; exact rfl
            refine regk_free 10 25 (v := ?_) (T' := ?_) (fun _ => HI) (by kernel_rfl) (by kernel_rfl) (by kernel_rfl) (by kernel_rfl) (fun _ _ _ h => h) (fun o ho => ?_) ?_ ?_
            rotate_left 2
            · cases ho
              refine ⟨rfl, rfl, fun W => ?_⟩
              go_simp; (try with_reducible rfl)
            · simp only [List.setIfInBounds_toArray, List.set_cons_succ, List.set_cons_zero]; exact rfl
            refine regk_take 11 26 (v := ?_) (T' := ?_) HI (by kernel_rfl) (by kernel_rfl) (by kernel_rfl) (by kernel_rfl) (by kernel_rfl) (by kernel_rfl) (fun _ _ _ h => h) (fun o ho => ?_) ?_ ?_
            rotate_left 2
            · cases ho
              refine ⟨rfl, rfl, fun W hW => ?_⟩
              have hW := (show W = _ from hW); subst hW; go_simp; (try with_reducible rfl)
            · simp only [List.setIfInBounds_toArray, List.set_cons_succ, List.set_cons_zero]; exact rfl
            refine regk_call (I' := (fun W => W = wi.drew)) (fun _ h => h) 12 27 (by kernel_rfl) 32 #[.agg #[.string kk, .int .i64 bb, .int .i64 ee, .int .i64 ss, .int .i64 xx, .int .i64 yy, .string uu, .bool gg], .agg #[.string kk', .int .i64 bb', .int .i64 ee', .int .i64 ss', .int .i64 xx', .int .i64 yy', .string uu', .bool gg']] (fun o ho => by cases ho; exact ⟨rfl, rfl, fun W => by go_simp⟩) ?_
            refine (LS.out _).mono ?_
            rintro e w3 ⟨rfl, hb3⟩
            have G3 := Lib.hid (GI.out.drew.trans (hb3.mono GI.out.size))
            clear hb3
            refine ⟨_, _, rfl, noB_no (by kernel_rfl), (by simp only [List.setIfInBounds_toArray, List.set_cons_succ, List.set_cons_zero]; exact rfl), ?_⟩
            refine regk_free 13 28 (v := ?_) (T' := ?_) (noB_no (by kernel_rfl)) (by kernel_rfl) (by kernel_rfl) (by kernel_rfl) (by kernel_rfl) (fun _ _ _ h => h) (fun o ho => ?_) ?_ ?_
            rotate_left 2
            · cases ho
              refine ⟨rfl, rfl, fun W => ?_⟩
              go_simp; (try with_reducible rfl)
            · simp only [List.setIfInBounds_toArray, List.set_cons_succ, List.set_cons_zero]; exact rfl
            refine regk_done (by kernel_rfl) ?_
            go_wp2_with fail
            go_roundw
            case rel => exact ⟨j - 1, by go_num, by omega, G3.out, fun i h hi => by
              by_cases e : i = j - 1
              · subst e; rw [QQ.out]; exact LF.out
              · exact UP.out i h (by omega)⟩
            case measure => simp [intOf]; omega
    · have zl : decide ((k : Int) < (l.length : Int)) = false := by rw [decide_eq_false_iff_not]; omega
      have hke : k = l.length := by omega
      rw [hke, List.take_length] at HM
      go_wp2_with fail
      go_ret
      rw [← HM.out]
      exact ⟨_, rfl, O.out, G.out⟩
end Go.Proofs.Ytnioiojafnkmhaa
