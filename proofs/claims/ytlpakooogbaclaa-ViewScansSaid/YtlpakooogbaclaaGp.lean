/- Layer 14: Keys, by the document. -/
import Derived.Test.YtlpakooogbaclaaGo
namespace Go.Proofs.Ytlpakooogbaclaa
open Go.RowKit
set_option linter.unusedVariables false

def strG : Lay ByteArray := ⟨1, fun s => [.string s], fun _ => rfl, fun n u hu => by simp at hu; subst hu; rfl, by omega⟩
theorem str_infoG : (Try.prog.info? 9).map (fun i => (i.zero, i.size, i.bytes)) = some (some (.string ⟨#[]⟩), strG.sz, 16) := by kernel_rfl
theorem str_size (w : World) : (Go.sizeOf 9).run Try.prog w = .ok strG.sz w := by kernel_rfl
theorem RdX.strK {w : World} {B n c : Nat} {A : Option Addr} {l : List ByteArray} (h : RdX strG w B (.slice A n c) l) (k : Nat) (hk : k < l.length) : ∃ b o, A = some ⟨b, o, none⟩ ∧ b < B ∧ w.cell? ⟨b, o + k, none⟩ = some (.string l[k]) := by
  obtain ⟨b, o, rfl, hb, hc⟩ := h.at k hk
  exact ⟨b, o, rfl, hb, by have := hc 0 _ rfl; simpa [show strG.sz = 1 from rfl] using this⟩
set_option maxHeartbeats 8000000 in
set_option maxRecDepth 100000 in
theorem ref14_keys (va : Value) (l : List Ver) (w : World) (ha : RdVr w w.heap.size va l) (hl : l.length ≤ 1000) :
    Calls Try.prog 49 #[va] w fun z w' => ∃ v' ks, z = .returned v' ∧ OwnX strG 9 w' w.heap.size v' ks ∧ KeysV l ks ∧ ks.length ≤ l.length ∧ Below w.heap.size w w' := by
  have HA := Lib.hid ha
  have HL := Lib.hid hl
  obtain ⟨A, ca, rfl, -⟩ := ha
  clear hl
  go_enter Try.func49, Try.ntmps49
  go_wp2_with fail
  go_loopw [3, 4] (fun x i wr => ∃ (n : Nat) (acc : List ByteArray), i = .int .i64 n ∧ n ≤ l.length ∧ KeysV (l.take n) acc ∧ acc.length ≤ n ∧ OwnX strG 9 wr w.heap.size x acc ∧ Below w.heap.size w wr) (fun _ i _ => l.length - (intOf i).toNat)
  case atStart => exact ⟨0, [], rfl, Nat.zero_le _, keys_nil l, Nat.le_refl _, OwnX.nil _ _, Below.refl _ _⟩
  case round =>
    obtain ⟨n, acc, rfl, hn, hks, hacl, hon, hbw⟩ := hrel
    rename World => wo
    have G := Lib.hid hbw
    have O := Lib.hid hon
    have KS := Lib.hid hks
    have ACL := Lib.hid hacl
    have HAL := Lib.hid (show acc.length ≤ 1000 from by have := HL.out; omega)
    obtain ⟨OA, oc, rfl, -⟩ := hon.rd
    clear hbw hon hks hacl
    by_cases hlt : n < l.length
    · have zl : decide ((n : Int) < (l.length : Int)) = true := by rw [decide_eq_true_eq]; omega
      have hni : (n : Int) < (l.length : Int) := by omega
      have hw64 : IntKind.i64.wrap ((n : Int) + 1) = (n : Int) + 1 := by rw [IntKind.wrap_i64]; have := HL.out; omega
      obtain ⟨b, o, rfl, hbb, d0, -⟩ := RdVr.here (HA.out.below G.out) n hlt
      obtain ⟨kk, hkk⟩ : ∃ kk, (l[n]'hlt).key = kk := ⟨_, rfl⟩
      rw [hkk] at d0
      have KP := Lib.hid (fun j h1 h2 h3 => by
        have := keys_put (j := j) KS.out hlt h1 (by rw [hkk]; exact h2) (by rw [hkk]; exact h3)
        rw [hkk] at this
        exact this)
      have KM := Lib.hid (fun h => by
        have := keys_same KS.out hlt (by rw [hkk]; exact h)
        exact this)
      have HLO : b < wo.heap.size := cell_lt d0
      have D0 := Lib.hid d0
      have KE := Lib.hid hkk
      have HLT := Lib.hid hlt
      clear hbb hkk
      go_wp2_with fail
      clear d0
      go_loopw [5] (fun i wi => ∃ j : Nat, i = .int .i64 j ∧ j ≤ acc.length ∧ Below wo.heap.size wo wi ∧ ∀ (i : Nat) (h : i < acc.length), j ≤ i → Op.bytesLess kk.toList acc[i].toList = true) (fun i _ => (intOf i).toNat)
      case atStart => exact ⟨acc.length, rfl, Nat.le_refl _, Below.refl _ _, fun i h hi => absurd h (by omega)⟩
      case round =>
        obtain ⟨j, rfl, hj, hbi, hup⟩ := hrel
        rename World => wi
        have UP := Lib.hid hup
        have GI := Lib.hid hbi
        have d0 := (hbi.cell (p := ⟨b, o + n * 8, none⟩) HLO).trans D0.out
        clear hup hbi
        rcases Nat.eq_zero_or_pos j with hj0 | hj0
        · subst hj0
          go_wp2_with fail
          go_quiet (fail)
          generalize nq = n1
          go_wp2_with fail
          go_quiet (fail)
          have GX := Lib.hid (GI.out.drewN (n1 + nq))
          have O6 := Lib.hid (O.out.on GX.out)
          obtain ⟨A1, c1', h1, r1⟩ := slX_head O6.out.rd Try.underlying77 str_size 0 (0 : Int) rfl hj
          obtain ⟨A2, c2', h2, r2⟩ := slX_tail O.out.rd Try.underlying77 str_size 0 (0 : Int) rfl hj
          have RT := Lib.hid r2
          have R1 := Lib.hid r1
          clear r1 r2
          have hl1 : (acc.take 0).length = 0 := by rw [List.length_take]; omega
          have hl2 : (acc.drop 0).length = acc.length - 0 := List.length_drop
          have hal1 := Lib.hid (show ([] : List ByteArray).length + (acc.take 0).length ≤ 1000000000 from by have := HAL.out; simp <;> omega)
          have hal2 := Lib.hid (show ([] ++ acc.take 0).length + [kk].length ≤ 1000000000 from by have := HAL.out; simp <;> omega)
          have hal3 := Lib.hid (show (([] ++ acc.take 0) ++ [kk]).length + (acc.drop 0).length ≤ 1000000000 from by have := HAL.out; simp <;> omega)
          have HME := Lib.hid (show KeysV (l.take (n + 1)) ((([] ++ acc.take 0) ++ [kk]) ++ acc.drop 0) from by
            rw [List.nil_append]
            exact KP.out 0 hj UP.out (fun _ h0 => absurd h0 (by omega)))
          have HLN := Lib.hid (show ((([] ++ acc.take 0) ++ [kk]) ++ acc.drop 0).length ≤ n + 1 from by have := ACL.out; simp; omega)
          clear hl1 hl2
          go_wp2_with (at_builtin; first
            | (refine wpl_appX_rd rfl (.tmp 47) (.tmp 50) rfl Try.underlying77 str_infoG rfl wo.heap.size _ _ _ [] (acc.take 0) rfl rfl (OwnX.nil _ _) (RdX.below R1.out (Below.refl _ _)) GX.out.size hal1.out (by decide) ?_; intro v3 w5 ho5 hg5 hb5; have O5 := Lib.hid ho5; have G5 := Lib.hid (GX.out.trans hb5); obtain ⟨bL, oL, eL, -, e0, -⟩ := RdVr.here (HA.out.below (G.out.trans (G5.out.mono G.out.size))) n HLT.out; cases eL; rw [KE.out] at e0; clear ho5 hg5 hb5)
            | (refine wpl_appX (L := strG) rfl (.tmp 52) (.tmp 58) rfl Try.underlying77 str_infoG rfl wo.heap.size _ ([] ++ acc.take 0) [kk] _ _ _ rfl rfl rfl rfl O5.out G5.out.size hal2.out (by decide) ?_; intro v4 w6 ho6 hg6 hb6; have O7 := Lib.hid ho6; have G7 := Lib.hid (G5.out.trans hb6); clear ho6 hg6 hb6)
            | (refine wpl_appX_rd rfl (.tmp 60) (.tmp 63) rfl Try.underlying77 str_infoG rfl wo.heap.size wo.heap.size _ _ (([] ++ acc.take 0) ++ [kk]) (acc.drop 0) rfl rfl O7.out (RT.out.below G7.out) G7.out.size hal3.out (by decide) ?_; intro v5 w7 ho7 hg7 hb7; have O8 := Lib.hid ho7; have G8 := Lib.hid (G7.out.trans hb7); clear ho7 hg7 hb7))
          go_roundw
          case rel => exact ⟨n + 1, _, by go_num, HLT.out, HME.out, HLN.out, OwnX.mono O8.out G.out.size, G.out.trans (G8.out.mono G.out.size)⟩
          case measure => have := HLT.out; simp [intOf]; omega
        · have zj : decide ((0 : Int) < (j : Int)) = true := by rw [decide_eq_true_eq]; omega
          have zj2 : decide (0 < j) = true := by rw [decide_eq_true_eq]; exact hj0
          have hj1 : j - 1 < acc.length := by omega
          have hsub : (j : Int) - 1 = ((j - 1 : Nat) : Int) := by omega
          have hwj : IntKind.i64.wrap ((j - 1 : Nat) : Int) = ((j - 1 : Nat) : Int) := by rw [IntKind.wrap_i64]; have := HAL.out; omega
          have hi1 : ((j - 1 : Nat) : Int) < (acc.length : Int) := by omega
          obtain ⟨b', o', rfl, hbb', g0⟩ := RdX.strK (O.out.on GI.out).rd (j - 1) hj1
          obtain ⟨q, hq⟩ : ∃ q, (acc[j - 1]'hj1) = q := ⟨_, rfl⟩
          rw [hq] at g0
          have QQ := Lib.hid hq
          clear hq hbb'
          cases hls : Op.bytesLess kk.toList q.toList
          · have LF := Lib.hid hls
            cases hqe : (q.toList == kk.toList)
            · have QE := Lib.hid hqe
              go_wp2_with fail
              go_quiet (fail)
              generalize nq = n1
              go_wp2_with fail
              go_quiet (fail)
              have GX := Lib.hid (GI.out.drewN (n1 + nq))
              have O6 := Lib.hid (O.out.on GX.out)
              obtain ⟨A1, c1', h1, r1⟩ := slX_head O6.out.rd Try.underlying77 str_size j (j : Int) rfl hj
              obtain ⟨A2, c2', h2, r2⟩ := slX_tail O.out.rd Try.underlying77 str_size j (j : Int) rfl hj
              have RT := Lib.hid r2
              have R1 := Lib.hid r1
              clear r1 r2
              have hl1 : (acc.take j).length = j := by rw [List.length_take]; omega
              have hl2 : (acc.drop j).length = acc.length - j := List.length_drop
              have hal1 := Lib.hid (show ([] : List ByteArray).length + (acc.take j).length ≤ 1000000000 from by have := HAL.out; simp <;> omega)
              have hal2 := Lib.hid (show ([] ++ acc.take j).length + [kk].length ≤ 1000000000 from by have := HAL.out; simp <;> omega)
              have hal3 := Lib.hid (show (([] ++ acc.take j) ++ [kk]).length + (acc.drop j).length ≤ 1000000000 from by have := HAL.out; simp <;> omega)
              have HME := Lib.hid (show KeysV (l.take (n + 1)) ((([] ++ acc.take j) ++ [kk]) ++ acc.drop j) from by
                rw [List.nil_append]
                exact KP.out j hj UP.out (fun h0 _ => by rw [QQ.out]; exact less_totalG _ _ LF.out (fun e => by have h1 := QE.out; rw [e] at h1; simp at h1)))
              have HLN := Lib.hid (show ((([] ++ acc.take j) ++ [kk]) ++ acc.drop j).length ≤ n + 1 from by have := ACL.out; simp; omega)
              clear hl1 hl2
              go_wp2_with (at_builtin; first
                | (refine wpl_appX_rd rfl (.tmp 47) (.tmp 50) rfl Try.underlying77 str_infoG rfl wo.heap.size _ _ _ [] (acc.take j) rfl rfl (OwnX.nil _ _) (RdX.below R1.out (Below.refl _ _)) GX.out.size hal1.out (by decide) ?_; intro v3 w5 ho5 hg5 hb5; have O5 := Lib.hid ho5; have G5 := Lib.hid (GX.out.trans hb5); obtain ⟨bL, oL, eL, -, e0, -⟩ := RdVr.here (HA.out.below (G.out.trans (G5.out.mono G.out.size))) n HLT.out; cases eL; rw [KE.out] at e0; clear ho5 hg5 hb5)
                | (refine wpl_appX (L := strG) rfl (.tmp 52) (.tmp 58) rfl Try.underlying77 str_infoG rfl wo.heap.size _ ([] ++ acc.take j) [kk] _ _ _ rfl rfl rfl rfl O5.out G5.out.size hal2.out (by decide) ?_; intro v4 w6 ho6 hg6 hb6; have O7 := Lib.hid ho6; have G7 := Lib.hid (G5.out.trans hb6); clear ho6 hg6 hb6)
                | (refine wpl_appX_rd rfl (.tmp 60) (.tmp 63) rfl Try.underlying77 str_infoG rfl wo.heap.size wo.heap.size _ _ (([] ++ acc.take j) ++ [kk]) (acc.drop j) rfl rfl O7.out (RT.out.below G7.out) G7.out.size hal3.out (by decide) ?_; intro v5 w7 ho7 hg7 hb7; have O8 := Lib.hid ho7; have G8 := Lib.hid (G7.out.trans hb7); clear ho7 hg7 hb7))
              go_roundw
              case rel => exact ⟨n + 1, _, by go_num, HLT.out, HME.out, HLN.out, OwnX.mono O8.out G.out.size, G.out.trans (G8.out.mono G.out.size)⟩
              case measure => have := HLT.out; simp [intOf]; omega
            · have QE := Lib.hid hqe
              go_wp2_with fail
              go_quiet (fail)
              generalize nq = n1
              go_wp2_with fail
              go_quiet (fail)
              have GX := Lib.hid (GI.out.drewN (n1 + nq))
              go_wp2_with fail
              go_roundw
              case rel => exact ⟨n + 1, acc, by go_num, HLT.out, KM.out (by
                have h1 := QE.out
                rw [beq_iff_eq] at h1
                have : q = kk := ByteArray.ext (by simpa [ByteArray.toList_eq] using h1)
                rw [← this, ← QQ.out]
                exact List.getElem_mem _), Nat.le_succ_of_le ACL.out, O.out.on GX.out, G.out.trans (GX.out.mono G.out.size)⟩
              case measure => have := HLT.out; simp [intOf]; omega
          · have LF := Lib.hid hls
            go_wp2_with fail
            go_quiet (fail)
            have GX := Lib.hid (GI.out.drewN nq)
            go_wp2_with fail
            go_roundw
            case rel => exact ⟨j - 1, by go_num, by omega, GX.out, fun i h hi => by
              by_cases e : i = j - 1
              · subst e; rw [QQ.out]; exact LF.out
              · exact UP.out i h (by omega)⟩
            case measure => simp [intOf]; omega
    · obtain rfl : n = l.length := by omega
      have zl : decide ((l.length : Int) < (l.length : Int)) = false := by simp
      rw [List.take_length] at KS
      clear hlt
      go_wp2_with fail
      go_ret
      exact ⟨_, acc, rfl, O.out, KS.out, ACL.out, G.out⟩
end Go.Proofs.Ytlpakooogbaclaa
