/- Layer 10: sorted lists of numbers merged, by the document. -/
import Derived.Test.YtnioiojafnkmhaaMc
import Derived.Test.YtnioiojafnkmhaaMb
namespace Go.Proofs.Ytnioiojafnkmhaa
open Go.RowKit
set_option linter.unusedVariables false
theorem int_info : (Try.prog.info? 3).map (fun i => (i.zero, i.size, i.bytes)) = some (some (.int .i64 0), 1, 8) := by kernel_rfl
theorem int_sizeM (w : World) : (Go.sizeOf 3).run Try.prog w = .ok 1 w := by kernel_rfl
theorem rd_int_at {w : World} {B n c : Nat} {A : Option Addr} {l : List Int} (h : RdX intL w B (.slice A n c) l) (k : Nat) (hk : k < l.length) : ∃ b o, A = some ⟨b, o, none⟩ ∧ b < B ∧ w.cell? ⟨b, o + k, none⟩ = some (.int .i64 l[k]) := by
  obtain ⟨b, o, rfl, hb, hc⟩ := h.at k hk
  refine ⟨b, o, rfl, hb, ?_⟩
  have := hc 0 _ rfl
  rw [show intL.sz = 1 from rfl, Nat.mul_one, Nat.add_zero] at this
  exact this
theorem step_int (ls : List (List Int)) (k j : Nat) (hk : k < ls.length) (hj : j < ls[k].length) :
    insR intLt ls[k][j] (sortR intLt ((ls.take k).flatten ++ ls[k].take j)) = sortR intLt ((ls.take k).flatten ++ ls[k].take (j + 1)) := by
  rw [List.take_succ_eq_append_getElem hj, ← List.append_assoc, sortR_snoc]

set_option maxHeartbeats 8000000 in
set_option maxRecDepth 100000 in
theorem ref10_numbers (va : Value) (ls : List (List Int)) (w : World) (ha : RdXX intL w w.heap.size va ls) (hl : ls.flatten.length ≤ 1000) :
    Calls Try.prog 16 #[va] w fun e w' => ∃ v', e = .returned v' ∧ OwnX intL 3 w' w.heap.size v' (sortR intLt ls.flatten) ∧ Below w.heap.size w w' := by
  have HA := Lib.hid ha
  have HL := Lib.hid hl
  obtain ⟨A, ca, rfl, hla, hca⟩ := ha.form
  clear ha hl
  go_enter Try.func16, Try.ntmps16
  go_wp2_with fail
  go_loopw [3, 4] (fun x i wr => ∃ k : Nat, i = .int .i64 k ∧ k ≤ ls.length ∧ OwnX intL 3 wr w.heap.size x (sortR intLt (ls.take k).flatten) ∧ Below w.heap.size w wr) (fun _ i _ => ls.length - (intOf i).toNat)
  case atStart => exact ⟨0, rfl, Nat.zero_le _, OwnX.nil _ _, Below.refl _ _⟩
  case round =>
    obtain ⟨k, rfl, hk, ho, hbw⟩ := hrel
    rename World => wo
    have O := Lib.hid ho
    have G := Lib.hid hbw
    clear ho hbw
    by_cases hlt : k < ls.length
    · have zl : decide ((k : Int) < (ls.length : Int)) = true := by simp; omega
      have FT := Lib.hid (flat_take ls k hlt)
      have FL := Lib.hid (Nat.le_trans (flat_len ls k hlt) HL.out)
      go_wp2_with fail
      go_loopw [3, 5] (fun x i wr => ∃ j : Nat, i = .int .i64 j ∧ j ≤ ls[k].length ∧ OwnX intL 3 wr w.heap.size x (sortR intLt ((ls.take k).flatten ++ ls[k].take j)) ∧ Below w.heap.size w wr) (fun _ i _ => ls[k].length - (intOf i).toNat)
      case atStart => exact ⟨0, rfl, Nat.zero_le _, by rw [List.take_zero, List.append_nil]; exact O.out, G.out⟩
      case round =>
        obtain ⟨j, rfl, hj, ho, hbw⟩ := hrel
        rename World => wm
        have P := Lib.hid ho
        have GM := Lib.hid hbw
        clear ho hbw O G
        obtain ⟨b, o, a1, m1, rfl, hbb, c0, r1⟩ := (HA.out.below GM.out).at k hlt
        have R1 := Lib.hid r1
        clear r1 hbb
        by_cases hjl : j < ls[k].length
        · have zj : decide ((j : Int) < (ls[k].length : Int)) = true := by simp; omega
          obtain ⟨b1, o1, rfl, hb1, c1⟩ := rd_int_at R1.out j hjl
          have ST := Lib.hid (step_int ls k j hlt hjl)
          have hacl : (sortR intLt ((ls.take k).flatten ++ ls[k].take j)).length ≤ 1000 := by rw [sortR_len, List.length_append, List.length_take]; have := FL.out; omega
          generalize hp : ls[k][j] = p at *
          have PP := Lib.hid hp
          generalize sortR intLt ((ls.take k).flatten ++ ls[k].take j) = acc at *
          have HACL := Lib.hid hacl
          have hjb : (j : Int) ≤ 1000 := by have := FL.out; omega
          have HB1 := Lib.hid hb1
          obtain ⟨OA, oc, eo, -⟩ := P.out.rd
          subst eo
          clear hacl hp hb1
          go_wp2_with fail
          go_loopw [6] (fun i wi => ∃ t : Nat, i = .int .i64 t ∧ t ≤ acc.length ∧ Below wm.heap.size wm wi ∧ ∀ (i : Nat) (h : i < acc.length), t ≤ i → intLt p acc[i] = true) (fun i _ => (intOf i).toNat)
          case atStart => exact ⟨acc.length, rfl, Nat.le_refl _, Below.refl _ _, fun i h hi => absurd h (by omega)⟩
          case round =>
            obtain ⟨t, rfl, ht, hbi, hup⟩ := hrel
            rename World => wi
            have GI := Lib.hid hbi
            have UP := Lib.hid hup
            clear hbi hup
            have GW := Lib.hid (GM.out.trans (GI.out.mono GM.out.size))
            obtain ⟨b', o', a', m', e1', hbb', c0', r1'⟩ := (HA.out.below GW.out).at k hlt
            cases e1'
            obtain ⟨b1', o1', e2', -, c1'⟩ := rd_int_at r1' j hjl
            rw [PP.out] at c1'
            subst e2'
            by_cases ht0 : t = 0
            · subst ht0
              go_wp2_with fail
              go_quiet (fail)
              have GX := Lib.hid (GI.out.drewN nq)
              have O6 := Lib.hid (P.out.on GX.out)
              obtain ⟨A1, c1x, h1, r1⟩ := slX_head O6.out.rd Try.underlying43 int_sizeM 0 (0 : Int) rfl (Nat.zero_le _)
              obtain ⟨A2, c2x, h2, r2⟩ := slX_tail P.out.rd Try.underlying43 int_sizeM 0 (0 : Int) rfl (Nat.zero_le _)
              have RT := Lib.hid r2
              have RH := Lib.hid r1
              clear r1 r2
              have hl1 : (acc.take 0).length = 0 := by rw [List.length_take]; omega
              have hl2 : (acc.drop 0).length = acc.length - 0 := List.length_drop
              have hal1 := Lib.hid (show ([] : List Int).length + (acc.take 0).length ≤ 1000000000 from by have := HACL.out; simp <;> omega)
              have hal2 := Lib.hid (show ([] ++ acc.take 0).length + [p].length ≤ 1000000000 from by have := HACL.out; simp <;> omega)
              have hal3 := Lib.hid (show (([] ++ acc.take 0) ++ [p]).length + (acc.drop 0).length ≤ 1000000000 from by have := HACL.out; simp <;> omega)
              have HME := Lib.hid (show (([] ++ acc.take 0) ++ [p]) ++ acc.drop 0 = sortR intLt ((ls.take k).flatten ++ ls[k].take (j + 1)) from by
                rw [List.nil_append, List.append_assoc, List.singleton_append, insR_at _ acc 0 (Nat.zero_le _) UP.out (fun _ _ => by omega)]
                exact ST.out)
              clear hl1 hl2
              go_wp2_with (at_builtin; first
                | (refine wpl_appX_rd rfl (.tmp 44) (.tmp 47) rfl Try.underlying43 int_info rfl wm.heap.size _ _ _ [] (acc.take 0) rfl rfl (OwnX.nil _ _) (RdX.below RH.out (Below.refl _ _)) GX.out.size hal1.out (by decide) ?_; intro v3 w5 ho5 hg5 hb5; have O5 := Lib.hid ho5; have G5 := Lib.hid (GX.out.trans hb5); clear ho5 hg5 hb5; obtain ⟨_, _, _, _, f1, -, d0, s1⟩ := (HA.out.below (GM.out.trans (G5.out.mono GM.out.size))).at k hlt; cases f1; obtain ⟨_, _, rfl, -, d1⟩ := rd_int_at s1 j hjl; rw [PP.out] at d1; clear s1)
                | (refine wpl_appX rfl (.tmp 49) (.tmp 57) rfl Try.underlying43 int_info rfl wm.heap.size _ ([] ++ acc.take 0) [p] _ _ _ rfl rfl rfl rfl O5.out G5.out.size hal2.out (by decide) ?_; intro v4 w6 ho6 hg6 hb6; have O7 := Lib.hid ho6; have G7 := Lib.hid (G5.out.trans hb6); clear ho6 hg6 hb6)
                | (refine wpl_appX_rd rfl (.tmp 59) (.tmp 62) rfl Try.underlying43 int_info rfl wm.heap.size wm.heap.size _ _ (([] ++ acc.take 0) ++ [p]) (acc.drop 0) rfl rfl O7.out (RT.out.below G7.out) G7.out.size hal3.out (by decide) ?_; intro v5 w7 ho7 hg7 hb7; have O8 := Lib.hid ho7; have G8 := Lib.hid (G7.out.trans hb7); clear ho7 hg7 hb7))
              rw [HME.out] at O8
              go_roundw
              case rel => exact ⟨j + 1, by go_num, by omega, OwnX.mono O8.out GM.out.size, GM.out.trans (G8.out.mono GM.out.size)⟩
              case measure => simp [intOf]; omega
            · have zt : decide ((0 : Int) < (t : Int)) = true := by simp; omega
              have zt2 : decide (0 < t) = true := by simp; omega
              have ht1 : t - 1 < acc.length := by omega
              have hsub : (t : Int) - 1 = ((t - 1 : Nat) : Int) := by omega
              have hw64 : IntKind.i64.wrap ((t - 1 : Nat) : Int) = ((t - 1 : Nat) : Int) := by rw [IntKind.wrap_i64]; have := HACL.out; omega
              have hi1 : ((t - 1 : Nat) : Int) < (acc.length : Int) := by omega
              obtain ⟨b2, o2, rfl, hb2, d2⟩ := rd_int_at (P.out.on GI.out).rd (t - 1) ht1
              generalize hq : acc[t - 1] = q at *
              have QQ := Lib.hid hq
              clear hq
              cases hls : intLt p q
              · have LF := Lib.hid hls
                have zq := hls
                unfold intLt at zq
                clear hls
                go_wp2_with fail
                go_quiet (fail)
                have GX := Lib.hid (GI.out.drewN nq)
                have O6 := Lib.hid (P.out.on GX.out)
                obtain ⟨A1, c1x, h1, r1⟩ := slX_head O6.out.rd Try.underlying43 int_sizeM t (t : Int) rfl (ht)
                obtain ⟨A2, c2x, h2, r2⟩ := slX_tail P.out.rd Try.underlying43 int_sizeM t (t : Int) rfl (ht)
                have RT := Lib.hid r2
                have RH := Lib.hid r1
                clear r1 r2
                have hl1 : (acc.take t).length = t := by rw [List.length_take]; omega
                have hl2 : (acc.drop t).length = acc.length - t := List.length_drop
                have hal1 := Lib.hid (show ([] : List Int).length + (acc.take t).length ≤ 1000000000 from by have := HACL.out; simp <;> omega)
                have hal2 := Lib.hid (show ([] ++ acc.take t).length + [p].length ≤ 1000000000 from by have := HACL.out; simp <;> omega)
                have hal3 := Lib.hid (show (([] ++ acc.take t) ++ [p]).length + (acc.drop t).length ≤ 1000000000 from by have := HACL.out; simp <;> omega)
                have HME := Lib.hid (show (([] ++ acc.take t) ++ [p]) ++ acc.drop t = sortR intLt ((ls.take k).flatten ++ ls[k].take (j + 1)) from by
                  rw [List.nil_append, List.append_assoc, List.singleton_append, insR_at _ acc t (ht) UP.out (fun _ _ => by rw [QQ.out]; exact LF.out)]
                  exact ST.out)
                clear hl1 hl2
                go_wp2_with (at_builtin; first
                  | (refine wpl_appX_rd rfl (.tmp 44) (.tmp 47) rfl Try.underlying43 int_info rfl wm.heap.size _ _ _ [] (acc.take t) rfl rfl (OwnX.nil _ _) (RdX.below RH.out (Below.refl _ _)) GX.out.size hal1.out (by decide) ?_; intro v3 w5 ho5 hg5 hb5; have O5 := Lib.hid ho5; have G5 := Lib.hid (GX.out.trans hb5); clear ho5 hg5 hb5; obtain ⟨_, _, _, _, f1, -, d0, s1⟩ := (HA.out.below (GM.out.trans (G5.out.mono GM.out.size))).at k hlt; cases f1; obtain ⟨_, _, rfl, -, d1⟩ := rd_int_at s1 j hjl; rw [PP.out] at d1; clear s1)
                  | (refine wpl_appX rfl (.tmp 49) (.tmp 57) rfl Try.underlying43 int_info rfl wm.heap.size _ ([] ++ acc.take t) [p] _ _ _ rfl rfl rfl rfl O5.out G5.out.size hal2.out (by decide) ?_; intro v4 w6 ho6 hg6 hb6; have O7 := Lib.hid ho6; have G7 := Lib.hid (G5.out.trans hb6); clear ho6 hg6 hb6)
                  | (refine wpl_appX_rd rfl (.tmp 59) (.tmp 62) rfl Try.underlying43 int_info rfl wm.heap.size wm.heap.size _ _ (([] ++ acc.take t) ++ [p]) (acc.drop t) rfl rfl O7.out (RT.out.below G7.out) G7.out.size hal3.out (by decide) ?_; intro v5 w7 ho7 hg7 hb7; have O8 := Lib.hid ho7; have G8 := Lib.hid (G7.out.trans hb7); clear ho7 hg7 hb7))
                rw [HME.out] at O8
                go_roundw
                case rel => exact ⟨j + 1, by go_num, by omega, OwnX.mono O8.out GM.out.size, GM.out.trans (G8.out.mono GM.out.size)⟩
                case measure => simp [intOf]; omega
              · have LF := Lib.hid hls
                have zq := hls
                unfold intLt at zq
                clear hls
                go_wp2_with fail
                go_quiet (fail)
                go_wp2_with fail
                go_roundw
                case rel => exact ⟨t - 1, by go_num, by omega, GI.out.drewN nq, fun i h hi => by
                  by_cases e : i = t - 1
                  · subst e; rw [QQ.out]; exact LF.out
                  · exact UP.out i h (by omega)⟩
                case measure => simp [intOf]; omega
        · have zj : decide ((j : Int) < (ls[k].length : Int)) = false := by rw [decide_eq_false_iff_not]; omega
          have hje : j = ls[k].length := by omega
          rw [hje, List.take_length, ← FT.out] at P
          go_wp2_with fail
          go_roundw
          case rel => exact ⟨k + 1, by go_num, by omega, P.out, GM.out⟩
          case measure => simp [intOf]; omega
    · have zl : decide ((k : Int) < (ls.length : Int)) = false := by rw [decide_eq_false_iff_not]; omega
      have hke : k = ls.length := by omega
      rw [hke, List.take_length] at O
      go_wp2_with fail
      go_ret
      exact ⟨_, rfl, O.out, G.out⟩
end Go.Proofs.Ytnioiojafnkmhaa
