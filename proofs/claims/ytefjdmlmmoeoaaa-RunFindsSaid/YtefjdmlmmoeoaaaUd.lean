/- Layer 8: a block's bytes, by the project. -/
import Derived.Test.YtefjdmlmmoeoaaaUb
import Derived.Test.YtefjdmlmmoeoaaaUc
namespace Go.Proofs.Ytefjdmlmmoeoaaa
open Go.RowKit
set_option linter.unusedVariables false

set_option maxHeartbeats 8000000 in
set_option maxRecDepth 100000 in
theorem blk_write (va : Value) (l : List Ver) (w : World) (ha : RdVr w w.heap.size va l) (hk : ∀ v ∈ l, v.key.size ≤ 1000000) :
    Calls Try.prog 49 #[va] w fun e w' => ∃ v', e = .returned (.tuple #[v', .int .i64 (if blkB l = true then 0 else 1)]) ∧ OwnB w' w.heap.size v' (if blkB l = true then encBlk l else []) ∧ Below w.heap.size w w' := by
  have HA := Lib.hid ha
  have MY := Lib.hid (fun w h => blk_mayP va l w h hk)
  have FACTS := Lib.hid (fun h : blkB l = true => (⟨blk_may (by unfold blkB at h; simp only [Bool.and_eq_true] at h; exact h.1.1), by unfold blkB at h; simp only [Bool.and_eq_true, decide_eq_true_eq] at h; exact h.2⟩ : (∀ v ∈ l, mayV v = true) ∧ l.length ≤ 8))
  obtain ⟨A, ca, rfl, hla, hca, -⟩ := ha
  generalize blkB l = may at *
  clear hk
  go_enter Try.func49, Try.ntmps49
  go_wp2_with fail
  refine (MY.out _ HA.out).mono ?_
  rintro z w1 ⟨rfl, hb1⟩
  have G := Lib.hid hb1
  clear hb1
  cases may
  · go_wp2_with fail
    go_ret2
    exact ⟨_, rfl, by simpa using OwnB.nil _ _, G.out⟩
  obtain ⟨hm, hl8⟩ := FACTS.out rfl
  have HM := Lib.hid hm
  have HE := Lib.hid (show encBlk l = encN l.length ++ encGo ⟨#[]⟩ l from rfl)
  have h9 := encN_nine l.length (by omega)
  clear hm FACTS
  go_wp2_with fail
  refine (vary_put _ _ [] [(l.length : Int)] _ (RdB.nil _ _) (RdV.lit w1 _ _ [(l.length : Int)] 1 _ rfl rfl (by simp) (by simp)) (by simp) (by intro n hn; simp at hn; omega) (by simp)).mono ?_
  rintro z w2 ⟨v2, rfl, ho2, hb2⟩
  rw [List.nil_append, show encNs [(l.length : Int)] = encN l.length from by simp [encNs]] at ho2
  have O2 := Lib.hid (ownB_mono ho2 (Nat.le_trans G.out.size (by simp)))
  have G2 := Lib.hid ((G.out.trans ((alloc_below w1 _).mono G.out.size)).trans (hb2.mono (Nat.le_trans G.out.size (by simp))))
  clear ho2 hb2
  generalize encN l.length = en at *
  go_wp2_with fail
  go_loopw [4, 5, 17] (fun x y i wr => ∃ k : Nat, i = .int .i64 k ∧ k ≤ l.length ∧ y = .string (lastKey ⟨#[]⟩ (l.take k)) ∧ OwnB wr w.heap.size x (en ++ encGo ⟨#[]⟩ (l.take k)) ∧ Below w.heap.size w wr) (fun _ _ i _ => l.length - (intOf i).toNat)
  case atStart => exact ⟨0, rfl, Nat.zero_le _, rfl, by simpa [encGo] using O2.out, G2.out⟩
  case round =>
    obtain ⟨k, rfl, hkl, rfl, ho, hb⟩ := hrel
    rename World => wo
    have O := Lib.hid ho
    have GW := Lib.hid hb
    clear ho hb G G2
    by_cases hlt : k < l.length
    · have zl : decide ((k : Int) < (l.length : Int)) = true := by simp; omega
      obtain ⟨b, o, rfl, hbb, -⟩ := RdVr.here HA.out k hlt
      obtain ⟨p, hp⟩ : ∃ p, l[k] = p := ⟨_, rfl⟩
      have hmp := HM.out l[k] (List.getElem_mem hlt)
      rw [hp] at hmp
      have HS := Lib.hid (show encGo ⟨#[]⟩ (l.take (k + 1)) = encGo ⟨#[]⟩ (l.take k) ++ encRest (lastKey ⟨#[]⟩ (l.take k)) p from by rw [List.take_succ_eq_append_getElem hlt, encGo_snoc, hp])
      have HK := Lib.hid (show lastKey ⟨#[]⟩ (l.take (k + 1)) = p.key from by rw [List.take_succ_eq_append_getElem hlt, lastKey_snoc, hp])
      have hgl := encGo_len (l.take k) ⟨#[]⟩ (fun v hv => HM.out v (List.mem_of_mem_take hv))
      have hl1 : (l.take k).length ≤ k := List.length_take_le _ _
      have hks : (lastKey ⟨#[]⟩ (l.take k)).size ≤ 92 := by
        rcases lastKey_mem (l.take k) ⟨#[]⟩ with h | ⟨v, hv, h⟩
        · rw [h]; decide
        · rw [h]; exact may_key (HM.out v (List.mem_of_mem_take hv))
      have hal : (en ++ encGo ⟨#[]⟩ (l.take k)).length ≤ 1000000 := by rw [List.length_append]; omega
      clear hgl hl1
      generalize encGo ⟨#[]⟩ (l.take k) = acc at *
      generalize lastKey ⟨#[]⟩ (l.take k) = key at *
      have PU := Lib.hid (fun w => blk_put key p w hmp (by omega))
      have her := encRest_len key hmp
      generalize encRest key p = er at *
      have hal2 : (en ++ acc).length + er.length ≤ 1099511627776 := by omega
      clear hmp her hal
      obtain ⟨kk, bb, ee, ss, ⟨xx, yy⟩, uu, gg⟩ := p
      have PP := Lib.hid hp
      unfold verV at PU
      simp only at HK PU
      clear hp hbb
      obtain ⟨-, c0, c1, c2, c3, c4, c5, c6, c7⟩ := RdVr.cells1 (HA.out.below GW.out) k hlt PP.out
      have BX := Lib.hid (Box.new wo #[.string kk, .int .i64 bb, .int .i64 ee, .int .i64 ss, .int .i64 xx, .int .i64 yy, .string uu, .bool gg] 42 _ rfl)
      have GX := Lib.hid (alloc_below wo (.cells #[.string kk, .int .i64 bb, .int .i64 ee, .int .i64 ss, .int .i64 xx, .int .i64 yy, .string uu, .bool gg] 42))
      have O := Lib.hid (O.out.on GX.out)
      have GW := Lib.hid (GW.out.trans (GX.out.mono GW.out.size))
      go_wp2_with fail
      clear c0 c1 c2 c3 c4 c5 c6 c7 GX
      generalize wo.alloc (.cells #[.string kk, .int .i64 bb, .int .i64 ee, .int .i64 ss, .int .i64 xx, .int .i64 yy, .string uu, .bool gg] 42) = W0 at *
      refine (PU.out _).mono ?_
      rintro z w3 ⟨v3, rfl, ho3, hb3⟩
      have O3 := Lib.hid (O.out.on hb3)
      have G3 := Lib.hid (GW.out.trans (hb3.mono GW.out.size))
      have B3 := Lib.hid (BX.out.later hb3)
      obtain ⟨A3, c3, e3, -⟩ := own_cap ho3
      subst e3
      have R3 := Lib.hid ho3.rd
      clear ho3 hb3
      go_wp2_with (at_builtin; refine wpl_app_box rfl (.tmp 21) (.tmp 24) rfl w.heap.size _ _ _ (en ++ acc) er rfl rfl O3.out R3.out G3.out.size hal2 ?_; intro v4 w4 ho4 hb4 hk4; have d4 := (hk4 _ _ _ (by decide) B3.out).cell 0 (.string kk) rfl)
      have OZ := Lib.hid (show OwnB w4 w.heap.size v4 (en ++ encGo ⟨#[]⟩ (l.take (k + 1))) from by rw [HS.out, ← List.append_assoc]; exact ho4)
      have GZ := Lib.hid (G3.out.trans hb4)
      clear ho4 hb4 hk4
      go_roundw
      case rel => exact ⟨k + 1, by go_num, by omega, by rw [HK.out], OZ.out, GZ.out⟩
      case measure => simp [intOf]; omega
    · have zl : decide ((k : Int) < (l.length : Int)) = false := by rw [decide_eq_false_iff_not]; omega
      have hke : l.take k = l := List.take_of_length_le (by omega)
      rw [hke] at O
      go_wp2_with fail
      go_ret2
      refine ⟨_, rfl, (show OwnB wo w.heap.size u4 _ from ?_), GW.out⟩
      rw [HE.out]
      exact O.out
end Go.Proofs.Ytefjdmlmmoeoaaa
