/- Layer 10: the law's lists: the first five, the first twelve of each, cut, in order. -/
import Derived.Test.YtnioiojafnkmhaaMc
namespace Go.Proofs.Ytnioiojafnkmhaa
open Go.RowKit
set_option linter.unusedVariables false
theorem vvs_info : (Try.prog.info? 24).map (fun i => (i.zero, i.size, i.bytes)) = some (some (.slice none 0 0), 1, 24) := by kernel_rfl
def listV (l : List Ver) : List Ver := sortR lessV ((l.take 12).map cutV)
def listsV (ls : List (List Ver)) : List (List Ver) := ls.map listV
theorem listV_len (l : List Ver) : (listV l).length ≤ 12 := by unfold listV; rw [sortR_len, List.length_map, List.length_take]; omega

set_option maxHeartbeats 8000000 in
set_option maxRecDepth 100000 in
theorem law10_lists (va : Value) (ls : List (List Ver)) (w : World) (ha : RdXX verL w w.heap.size va ls) :
    Calls Try.prog 9 #[va] w fun e w' => ∃ v', e = .returned v' ∧ OwnXX verL 24 33 w' w.heap.size v' (listsV (ls.take 5)) ∧ Below w.heap.size w w' := by
  have HA := Lib.hid ha
  obtain ⟨A, ca, rfl, hla, hca⟩ := ha.form
  clear ha
  go_enter Try.func9, Try.ntmps9
  go_wp2_with fail
  go_loopw [3, 4] (fun x i wr => ∃ k : Nat, i = .int .i64 k ∧ k ≤ ls.length ∧ k ≤ 5 ∧ OwnXX verL 24 33 wr w.heap.size x (listsV (ls.take k)) ∧ Below w.heap.size w wr) (fun _ i _ => 5 - (intOf i).toNat)
  case atStart => exact ⟨0, rfl, Nat.zero_le _, by omega, OwnXX.nil _ _, Below.refl _ _⟩
  case round =>
    obtain ⟨k, rfl, hk, hk5, ho, hbw⟩ := hrel
    rename World => wo
    have O := Lib.hid ho
    have G := Lib.hid hbw
    have HS := Lib.hid hbw.size
    clear ho hbw
    by_cases hlt : k < ls.length ∧ k < 5
    · obtain ⟨hlt, hlt5⟩ := hlt
      have zl : decide ((k : Int) < (ls.length : Int)) = true := by simp; omega
      have z5 : decide ((k : Int) < 5) = true := by simp; omega
      obtain ⟨b, o, a1, m1, rfl, hbb, c0, r1⟩ := (HA.out.below G.out).at k hlt
      have R1 := Lib.hid r1
      have LS := Lib.hid (show listsV (ls.take (k + 1)) = listsV (ls.take k) ++ [listV ls[k]] from by
        show (ls.take (k + 1)).map listV = (ls.take k).map listV ++ [listV ls[k]]
        rw [List.take_succ_eq_append_getElem hlt, List.map_append]; rfl)
      have hal := Lib.hid (show (listsV (ls.take k)).length ≤ 1000000000 from by simp only [listsV, List.length_map, List.length_take]; omega)
      unfold listV at LS
      clear r1 hbb
      by_cases hg : 12 < ls[k].length
      · have z12 : decide ((12 : Int) < (ls[k].length : Int)) = true := by simp; omega
        have z13 : decide (12 < ls[k].length) = true := by simp; omega
        obtain ⟨A1, cc1, h1, rm⟩ := slX_head R1.out Try.underlying24 ver_size 12 (12 : Int) rfl (by omega)
        have RM := Lib.hid rm
        have hML : (ls[k].take 12).length = 12 := by rw [List.length_take]; omega
        obtain ⟨M, hM⟩ : ∃ M, ls[k].take 12 = M := ⟨_, rfl⟩
        rw [hM] at RM LS hML
        clear rm hM
        go_wp2_with fail
        go_loopw [6, 7] (fun x i wr => ∃ j : Nat, i = .int .i64 j ∧ j ≤ M.length ∧ OwnVr wr wo.heap.size x ((M.take j).map cutV) ∧ Below wo.heap.size wo wr) (fun _ i _ => M.length - (intOf i).toNat)
        case atStart => exact ⟨0, rfl, Nat.zero_le _, OwnX.nil _ _, Below.refl _ _⟩
        case round =>
          obtain ⟨j, rfl, hj, ho, hbw⟩ := hrel
          rename World => wm
          have P := Lib.hid ho
          have GM := Lib.hid hbw
          clear ho hbw
          by_cases hjl : j < M.length
          · have zj : decide ((j : Int) < 12) = true := by simp; omega
            have hjb : (j : Int) ≤ 12 := by omega
            obtain ⟨ba, oa, e1, hba, c0, c1, c2, c3, c4, c5, c6, c7⟩ := RdVr.here (RM.out.below (GM.out.mono HS.out)) j hjl
            subst e1
            have FS := Lib.hid (show (M.take (j + 1)).map cutV = (M.take j).map cutV ++ [cutV M[j]] from by rw [List.take_succ_eq_append_getElem hjl, List.map_append]; rfl)
            have TK := Lib.hid (fun w => ref6_cut M[j] w)
            have hlen : ((M.take j).map cutV).length ≤ 12 := by rw [List.length_map, List.length_take]; omega
            generalize cutV M[j] = cv at *
            generalize M[j] = p at *
            generalize (M.take j).map cutV = acc at *
            have hal1 := Lib.hid (show acc.length + 1 ≤ 1000000000 from by omega)
            clear hlen
            obtain ⟨k0, b0, e0, s0, ⟨x0, y0⟩, u0, g0⟩ := p
            obtain ⟨kk, b, e, s, ⟨x, y⟩, u, g⟩ := cv
            unfold verV at TK
            simp only at TK c0 c1 c2 c3 c4 c5 c6 c7
            go_wp2_with fail
            refine (TK.out _).mono ?_
            rintro z w1 ⟨rfl, hb⟩
            have hgz := GM.out.size
            have P := Lib.hid (P.out.on hb)
            have GM := Lib.hid (GM.out.trans (hb.mono hgz))
            clear hb hgz c0 c1 c2 c3 c4 c5 c6 c7
            have hsz := Lib.hid GM.out.size
            go_wp2_with (at_builtin; refine wpl_appX rfl (.tmp 33) (.tmp 39) rfl Try.underlying24 ver_info rfl wo.heap.size _ acc [(⟨kk, b, e, s, (x, y), u, g⟩ : Ver)] _ _ _ rfl rfl rfl rfl P.out hsz.out hal1.out (by decide) ?_; intro v5 w5 ho5 hg5 hb5)
            have OZ := Lib.hid (show OwnVr w5 wo.heap.size v5 ((M.take (j + 1)).map cutV) from by rw [FS.out]; exact ho5)
            have GZ := Lib.hid (GM.out.trans hb5)
            clear ho5 hg5 hb5
            go_roundw
            case rel => exact ⟨j + 1, by go_num, by omega, OZ.out, GZ.out⟩
            case measure => simp [intOf]; omega
          · have zj : decide ((j : Int) < 12) = false := by rw [decide_eq_false_iff_not]; omega
            have hje : j = M.length := by omega
            rw [hje, List.take_length] at P
            go_wp2_with fail
            refine (ref6_sorted _ (M.map cutV) _ P.out.rd (by rw [List.length_map]; omega)).mono ?_
            rintro z w1 ⟨v1, rfl, ho1, hb1⟩
            have O1 := Lib.hid (OwnX.mono ho1 GM.out.size)
            have G1 := Lib.hid (GM.out.trans (hb1.mono GM.out.size))
            have OX := Lib.hid (O.out.on G1.out)
            have GX := Lib.hid (G.out.trans (G1.out.mono HS.out))
            have hsz := Lib.hid GX.out.size
            obtain ⟨A9, c9, e9, -⟩ := ho1.rd
            subst e9
            clear ho1 hb1
            go_wp2_with (at_builtin; refine wplXX_app (L := verL) (e1 := 24) (e := 33) rfl (.tmp 41) (.tmp 44) rfl Try.underlying22 vvs_info w.heap.size _ _ (listsV (ls.take k)) (sortR lessV (M.map cutV)) _ _ _ rfl rfl rfl rfl OX.out (OwnX.mono O1.out HS.out) (own_apart O1.out O.out (Nat.le_refl _)) hsz.out hal.out ?_; intro v5 w5 ho5 hg5 hb5)
            have OZ := Lib.hid (show OwnXX verL 24 33 w5 w.heap.size v5 (listsV (ls.take (k + 1))) from by rw [LS.out]; exact ho5)
            have GZ := Lib.hid (GX.out.trans hb5)
            clear ho5 hg5 hb5
            go_roundw
            case rel => exact ⟨k + 1, by go_num, by omega, by omega, OZ.out, GZ.out⟩
            case measure => simp [intOf]; omega
      · have z12 : decide ((12 : Int) < (ls[k].length : Int)) = false := by rw [decide_eq_false_iff_not]; omega
        have z13 : decide (12 < ls[k].length) = false := by rw [decide_eq_false_iff_not]; omega
        have hT : ls[k].take 12 = ls[k] := List.take_of_length_le (by omega)
        rw [hT] at LS
        have hML : ls[k].length ≤ 12 := by omega
        obtain ⟨M, hM⟩ : ∃ M, ls[k] = M := ⟨_, rfl⟩
        clear hT
        rw [hM] at R1 LS hML z12 z13 hg c0
        have RM := Lib.hid R1.out
        clear hM
        go_wp2_with fail
        go_loopw [6, 7] (fun x i wr => ∃ j : Nat, i = .int .i64 j ∧ j ≤ M.length ∧ OwnVr wr wo.heap.size x ((M.take j).map cutV) ∧ Below wo.heap.size wo wr) (fun _ i _ => M.length - (intOf i).toNat)
        case atStart => exact ⟨0, rfl, Nat.zero_le _, OwnX.nil _ _, Below.refl _ _⟩
        case round =>
          obtain ⟨j, rfl, hj, ho, hbw⟩ := hrel
          rename World => wm
          have P := Lib.hid ho
          have GM := Lib.hid hbw
          clear ho hbw
          by_cases hjl : j < M.length
          · have zj : decide ((j : Int) < (M.length : Int)) = true := by simp; omega
            have hjb : (j : Int) ≤ 12 := by omega
            obtain ⟨ba, oa, e1, hba, c0, c1, c2, c3, c4, c5, c6, c7⟩ := RdVr.here (RM.out.below (GM.out.mono HS.out)) j hjl
            subst e1
            have FS := Lib.hid (show (M.take (j + 1)).map cutV = (M.take j).map cutV ++ [cutV M[j]] from by rw [List.take_succ_eq_append_getElem hjl, List.map_append]; rfl)
            have TK := Lib.hid (fun w => ref6_cut M[j] w)
            have hlen : ((M.take j).map cutV).length ≤ 12 := by rw [List.length_map, List.length_take]; omega
            generalize cutV M[j] = cv at *
            generalize M[j] = p at *
            generalize (M.take j).map cutV = acc at *
            have hal1 := Lib.hid (show acc.length + 1 ≤ 1000000000 from by omega)
            clear hlen
            obtain ⟨k0, b0, e0, s0, ⟨x0, y0⟩, u0, g0⟩ := p
            obtain ⟨kk, b, e, s, ⟨x, y⟩, u, g⟩ := cv
            unfold verV at TK
            simp only at TK c0 c1 c2 c3 c4 c5 c6 c7
            go_wp2_with fail
            refine (TK.out _).mono ?_
            rintro z w1 ⟨rfl, hb⟩
            have hgz := GM.out.size
            have P := Lib.hid (P.out.on hb)
            have GM := Lib.hid (GM.out.trans (hb.mono hgz))
            clear hb hgz c0 c1 c2 c3 c4 c5 c6 c7
            have hsz := Lib.hid GM.out.size
            go_wp2_with (at_builtin; refine wpl_appX rfl (.tmp 33) (.tmp 39) rfl Try.underlying24 ver_info rfl wo.heap.size _ acc [(⟨kk, b, e, s, (x, y), u, g⟩ : Ver)] _ _ _ rfl rfl rfl rfl P.out hsz.out hal1.out (by decide) ?_; intro v5 w5 ho5 hg5 hb5)
            have OZ := Lib.hid (show OwnVr w5 wo.heap.size v5 ((M.take (j + 1)).map cutV) from by rw [FS.out]; exact ho5)
            have GZ := Lib.hid (GM.out.trans hb5)
            clear ho5 hg5 hb5
            go_roundw
            case rel => exact ⟨j + 1, by go_num, by omega, OZ.out, GZ.out⟩
            case measure => simp [intOf]; omega
          · have zj : decide ((j : Int) < (M.length : Int)) = false := by rw [decide_eq_false_iff_not]; omega
            have hje : j = M.length := by omega
            rw [hje, List.take_length] at P
            go_wp2_with fail
            refine (ref6_sorted _ (M.map cutV) _ P.out.rd (by rw [List.length_map]; omega)).mono ?_
            rintro z w1 ⟨v1, rfl, ho1, hb1⟩
            have O1 := Lib.hid (OwnX.mono ho1 GM.out.size)
            have G1 := Lib.hid (GM.out.trans (hb1.mono GM.out.size))
            have OX := Lib.hid (O.out.on G1.out)
            have GX := Lib.hid (G.out.trans (G1.out.mono HS.out))
            have hsz := Lib.hid GX.out.size
            obtain ⟨A9, c9, e9, -⟩ := ho1.rd
            subst e9
            clear ho1 hb1
            go_wp2_with (at_builtin; refine wplXX_app (L := verL) (e1 := 24) (e := 33) rfl (.tmp 41) (.tmp 44) rfl Try.underlying22 vvs_info w.heap.size _ _ (listsV (ls.take k)) (sortR lessV (M.map cutV)) _ _ _ rfl rfl rfl rfl OX.out (OwnX.mono O1.out HS.out) (own_apart O1.out O.out (Nat.le_refl _)) hsz.out hal.out ?_; intro v5 w5 ho5 hg5 hb5)
            have OZ := Lib.hid (show OwnXX verL 24 33 w5 w.heap.size v5 (listsV (ls.take (k + 1))) from by rw [LS.out]; exact ho5)
            have GZ := Lib.hid (GX.out.trans hb5)
            clear ho5 hg5 hb5
            go_roundw
            case rel => exact ⟨k + 1, by go_num, by omega, by omega, OZ.out, GZ.out⟩
            case measure => simp [intOf]; omega
    · have hke : ls.take k = ls.take 5 := by
        by_cases h6 : k < 5
        · have hkl : k = ls.length := by
            rcases Nat.lt_or_ge k ls.length with h | h
            · exact absurd ⟨h, h6⟩ hlt
            · omega
          rw [List.take_of_length_le (by omega), List.take_of_length_le (by omega)]
        · rw [show k = 5 from by omega]
      rw [hke] at O
      by_cases hl1 : k < ls.length
      · have zl : decide ((k : Int) < (ls.length : Int)) = true := by simp; omega
        have z5 : decide ((k : Int) < 5) = false := by rw [decide_eq_false_iff_not]; intro h; exact hlt ⟨hl1, by omega⟩
        go_wp2_with fail
        go_ret
        exact ⟨_, rfl, O.out, G.out⟩
      · have zl : decide ((k : Int) < (ls.length : Int)) = false := by rw [decide_eq_false_iff_not]; omega
        go_wp2_with fail
        go_ret
        exact ⟨_, rfl, O.out, G.out⟩
end Go.Proofs.Ytnioiojafnkmhaa
