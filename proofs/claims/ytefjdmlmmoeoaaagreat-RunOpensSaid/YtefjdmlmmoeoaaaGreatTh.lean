/- Layer 8: a block read, by the document. -/
import Derived.Test.YtefjdmlmmoeoaaaGreatTf
import Derived.Test.YtefjdmlmmoeoaaaGreatTg
import Derived.Test.YtefjdmlmmoeoaaaGreatRR
import Derived.Test.YtefjdmlmmoeoaaaGreatBE
namespace Go.Proofs.YtefjdmlmmoeoaaaGreat
open Go.RowKit
set_option linter.unusedVariables false

theorem ba_full8 (a : ByteArray) : a.extract 0 a.size = a := by simp
section
variable {w : World} {n : Nat} {t : TypeId} {a0 a1 a2 a3 a4 a5 a6 a7 x y z : Value}
theorem put_stamp (h : Box w n #[a0, a1, a2, a3, a4, a5, a6, a7] t) : Box (((w.setCell ⟨n, 1, none⟩ x).setCell ⟨n, 2, none⟩ y).setCell ⟨n, 3, none⟩ z) n #[a0, x, y, z, a4, a5, a6, a7] t := by
  have h8 := ((h.set 1 x).set 2 y).set 3 z
  simp only [List.setIfInBounds_toArray, List.set_cons_succ, List.set_cons_zero] at h8
  exact h8
theorem put_span (h : Box w n #[a0, a1, a2, a3, a4, a5, a6, a7] t) : Box ((w.setCell ⟨n, 4, none⟩ x).setCell ⟨n, 5, none⟩ y) n #[a0, a1, a2, a3, x, y, a6, a7] t := by
  have h8 := (h.set 4 x).set 5 y
  simp only [List.setIfInBounds_toArray, List.set_cons_succ, List.set_cons_zero] at h8
  exact h8
theorem put_gone (h : Box w n #[a0, a1, a2, a3, a4, a5, a6, a7] t) : Box (w.setCell ⟨n, 7, none⟩ x) n #[a0, a1, a2, a3, a4, a5, a6, x] t := by
  have h8 := h.set 7 x
  simp only [List.setIfInBounds_toArray, List.set_cons_succ, List.set_cons_zero] at h8
  exact h8
theorem put_value (h : Box w n #[a0, a1, a2, a3, a4, a5, a6, a7] t) : Box (w.setCell ⟨n, 6, none⟩ x) n #[a0, a1, a2, a3, a4, a5, x, a7] t := by
  have h8 := h.set 6 x
  simp only [List.setIfInBounds_toArray, List.set_cons_succ, List.set_cons_zero] at h8
  exact h8
end

set_option maxHeartbeats 40000000 in
set_option maxRecDepth 100000 in
theorem ref8_read (v : Value) (b : List UInt8) (w : World) (h : RdB w w.heap.size v b) (hl : b.length ≤ 100000) :
    Calls Tryz.prog 14 #[v] w fun r w' => ∃ v', r = .returned (.tuple #[v', .int .i64 (blkRd b).2]) ∧ OwnVr w' w.heap.size v' (blkRd b).1 ∧ Below w.heap.size w w' := by
  have RB0 := Lib.hid h
  obtain ⟨A0, c0, rfl, -⟩ := id h
  have D := Lib.hid (RdQ.made w A0 c0 b h)
  have L0 : Lk (b, 0) b (0, 0) := ⟨rfl, fun _ => rfl⟩
  obtain ⟨k1, k2⟩ := link_step L0
  have NUQ := Lib.hid (fun W q e h => number_doc W w.heap.size (.pointer (some ⟨w.heap.size, 0, none⟩)) b q e h (by omega))
  have TXQ := Lib.hid (fun W q e h => text_doc W w.heap.size (.pointer (some ⟨w.heap.size, 0, none⟩)) b q e 200 h (by omega) (by omega))
  have NU := Lib.hid (fun W h => number_doc W w.heap.size (.pointer (some ⟨w.heap.size, 0, none⟩)) b 0 0 h (by omega))
  have hbd := stepN_bd b 0
  have hE := Lib.hid (show blkE b = (bS (stepN b 0).2 (stepN b 0).1).2 from rfl)
  have hO := Lib.hid (show blkO b = bOut (stepN b 0).2 (stepN b 0).1 from rfl)
  have hF := Lib.hid (show blkF b = bFine (stepN b 0).2 (stepN b 0).1 from rfl)
  have hR1 := Lib.hid (show blkE b ≠ 0 → blkRd b = ([], blkE b) from fun h => if_pos h)
  have hR2 := Lib.hid (show blkE b = 0 → blkF b = true → blkB (blkO b) = true → encBlk (blkO b) = b → blkRd b = (blkO b, 0) from fun h h1 h2 h3 => by unfold blkRd; rw [if_neg (fun k => k h), if_pos ⟨⟨h1, h2⟩, h3⟩])
  have hR3 := Lib.hid (show blkE b = 0 → ¬ ((blkF b = true ∧ blkB (blkO b) = true) ∧ encBlk (blkO b) = b) → blkRd b = ([], 2) from fun h h1 => by unfold blkRd; rw [if_neg (fun k => k h), if_neg h1])
  have hsuf := (step_suf b 0).length_le
  have G := Lib.hid (alloc_below w (.cells #[.slice A0 b.length c0, .int .i64 0, .int .i64 0] 73))
  simp only at k1 k2
  have MAY := Lib.hid (fun va w ha => ref8_may va (blkO b) w ha (fun x hx => by
    have h1 := bOut_key (stepN b 0).2 (stepN b 0).1 x hx
    have h2 := (step_suf b 0).length_le
    omega))
  have WRT := Lib.hid (fun (hb : blkB (blkO b) = true) va w ha => ref8_write va (blkO b) w ha (blk_may (blkB_len hb).2.2) (by have := (blkB_len hb).2.1; omega))
  generalize blkRd b = res at *
  generalize blkE b = E at *
  generalize blkO b = OO at *
  generalize blkF b = FF at *
  generalize stepN b 0 = sn at *
  generalize stepQ b 0 0 = sq at *
  obtain ⟨n, x0⟩ := sn
  obtain ⟨n', q1, e1⟩ := sq
  simp only at k1 k2 hE hO hF hbd NU hsuf
  subst k1
  have hbd2 : (n : Int) ≤ 4611686018427387903 := by omega
  have HSUF := Lib.hid hsuf
  have LK0 := Lib.hid k2
  clear h hbd L0 k2 hsuf
  go_enter Tryz.func14, Tryz.ntmps14
  go_wp2_with fail
  generalize hw1 : w.alloc (.cells #[.slice A0 b.length c0, .int .i64 0, .int .i64 0] 73) = w1 at *
  refine (NU.out _ D.out).mono ?_
  rintro z w2 ⟨rfl, hd, hg⟩
  have D := Lib.hid hd
  have hgw2 := Lib.hid hd.lt
  have G := Lib.hid (G.out.grown hg G.out.size (by intro k hk; injection hk with hk; omega))
  clear hd hg hw1
  go_wp2_with fail
  go_loopw [6, 7, 8, 9] (fun y x f i wr => ∃ (k q : Nat) (e : Int), i = .int .i64 k ∧ k ≤ n ∧ RdQ wr w.heap.size (.pointer (some ⟨w.heap.size, 0, none⟩)) b q e ∧ Lk (bS x0 k) b (q, e) ∧ y = .string (bKey x0 k) ∧ OwnVr wr w2.heap.size x (bOut x0 k) ∧ f = .bool (bFine x0 k) ∧ w2.grownBy wr (some w.heap.size)) (fun _ _ _ i _ => n - (intOf i).toNat)
  case atStart => exact ⟨0, q1, e1, rfl, by omega, D.out, LK0.out, rfl, OwnX.nil _ _, rfl, World.grownBy.refl _ _⟩
  case round =>
    obtain ⟨k, q, e, rfl, hk, hd, hlk, rfl, ho, rfl, hg⟩ := hrel
    have O0 := Lib.hid ho
    have DR := Lib.hid hd
    have GW0 := Lib.hid hg
    have LK := Lib.hid hlk
    have ce := hd.err
    clear ho hd hg hlk
    by_cases hlt : k < n ∧ e = 0
    · obtain ⟨hlt, rfl⟩ := hlt
      have zlt : decide ((k : Int) < (n : Int)) = true := by simp; omega
      have hz : (bS x0 k).2 = 0 := LK.out.1
      have hles := bS_less k hz
      have hkb := HSUF.out
      have hbk := bKey_size x0 k
      have hrl := itR_len (bS x0 k)
      obtain ⟨m1, m2⟩ := link_step LK.out
      obtain ⟨t1, t2⟩ := link_text 200 m2
      have hS1 : bS x0 (k + 1) = (itT (bS x0 k)).2 := rfl
      have hK1 : bKey x0 (k + 1) = itK (bKey x0 k) (bS x0 k) := rfl
      have hO1 : bOut x0 (k + 1) = bOut x0 k ++ [itV (bKey x0 k) (bS x0 k)] := rfl
      have hF1 : bFine x0 (k + 1) = (bFine x0 k && decide (itC (bS x0 k) ≤ (bKey x0 k).size) && decide (itN (bS x0 k) 5 ≤ 1)) := rfl
      have NUK := Lib.hid (NUQ.out wr q 0 DR.out)
      have hNN := fun j => link_n t2 j
      have hSS := link_nums t2 6
      obtain ⟨v1, v2⟩ := link_text 200 hSS
      obtain ⟨c, q3, e3, hsq⟩ : ∃ c q3 e3, stepQ b q 0 = (c, q3, e3) := ⟨_, _, _, rfl⟩
      rw [hsq] at m1 t1 t2 v1 v2 hNN NUK
      simp only at m1 t1 t2 v1 v2 hNN NUK
      obtain ⟨rx, q4, e4, htq⟩ : ∃ rx q4 e4, textQ b q3 e3 200 = (rx, q4, e4) := ⟨_, _, _, rfl⟩
      have TXK := Lib.hid (fun w h => TXQ.out w q3 e3 h)
      rw [htq] at t1 t2 v1 v2 hNN TXK
      simp only at t1 t2 v1 v2 hNN TXK
      obtain ⟨vx, q5, e5, hvq⟩ : ∃ vx q5 e5, textQ b (qSt b q4 e4 6).1 (qSt b q4 e4 6).2 200 = (vx, q5, e5) := ⟨_, _, _, rfl⟩
      have VX := Lib.hid (fun w h => TXQ.out w (qSt b q4 e4 6).1 (qSt b q4 e4 6).2 h)
      rw [hvq] at v1 v2 VX
      simp only at v1 v2 VX
      have hC : itC (bS x0 k) = c := m1
      have hRX : (itR (bS x0 k)).1 = rx := t1
      have hN : ∀ j, itN (bS x0 k) j = qN b q4 e4 j := hNN
      have hT : (itT (bS x0 k)).1 = vx := v1
      have LK3 := Lib.hid (show Lk (bS x0 (k + 1)) b (q5, e5) from v2)
      have hV : itV (bKey x0 k) (bS x0 k) = ⟨itK (bKey x0 k) (bS x0 k), qN b q4 e4 0, qN b q4 e4 1, qN b q4 e4 2, (qN b q4 e4 3, qN b q4 e4 3 + qN b q4 e4 4), ⟨vx.toArray⟩, qN b q4 e4 5 == 1⟩ := by unfold itV; rw [hN, hN, hN, hN, hN, hN, hT]
      have hKE : itK (bKey x0 k) (bS x0 k) = (bKey x0 k).extract 0 (min c (bKey x0 k).size) ++ ⟨rx.toArray⟩ := by unfold itK; rw [hC, hRX]
      rw [hV] at hO1
      rw [hC, hN] at hF1
      rw [hRX] at hrl
      have hole := bOut_len x0 k
      have hal1 := Lib.hid (show (bOut x0 k).length + 1 ≤ 1000000000 from by omega)
      have hkey : (bKey x0 k).size ≤ 100000 := by omega
      have hrx : rx.length ≤ 100000 := by omega
      have hcb : c < 4611686018427387904 := by rw [← hC]; exact itC_bd _
      generalize itK (bKey x0 k) (bS x0 k) = nk at *
      have HKE := Lib.hid (show bKey x0 (k + 1) = nk from hK1)
      have HOE := Lib.hid hO1
      have HF1 := Lib.hid hF1
      have HNK := Lib.hid hKE
      clear hS1 hK1 hO1 hF1 hNN hSS v1 v2 t1 t2 m1 m2 hsq htq hvq hC hRX hN hT hV hKE hles hkb hbk hole hz hrl LK
      generalize bKey x0 k = key at *
      generalize bOut x0 k = acc at *
      generalize bFine x0 k = F at *
      have hkx : (⟨rx.toArray⟩ : ByteArray).size = rx.length := by simp [ByteArray.size]
      go_wp2_with fail
      refine NUK.out.mono ?_
      rintro z w3 ⟨rfl, hd3, hg3⟩
      have hnb := Lib.hid (show u7.ownBlock = none ∨ u7.ownBlock ≠ some w.heap.size from by
        cases hb : u7.ownBlock with
        | none => exact .inl rfl
        | some b' => exact .inr (fun e2 => by injection e2 with e2; have := O0.out.base b' hb; have := hgw2.out; omega))
      have O0 := Lib.hid (O0.out.keep hg3 hnb.out)
      have GW0 := Lib.hid (GW0.out.trans hg3)
      clear NUK ce
      go_wp2_with fail
      refine (TXK.out _ hd3).mono ?_
      rintro z w4 ⟨rfl, hd4, hg4⟩
      have O0 := Lib.hid (O0.out.keep hg4 hnb.out)
      have GW0 := Lib.hid (GW0.out.trans hg4)
      have hgv := Lib.hid hd4.lt
      have hnv := Lib.hid GW0.out.size
      have hno := Lib.hid (show u7.ownBlock ≠ some w4.heap.size from fun e2 => by have := (O0.out.lt _ e2).2; omega)
      have hvg := Lib.hid (show some w4.heap.size ≠ some w.heap.size from fun e2 => by injection e2 with e2; have := hgv.out; omega)
      have BV := Lib.hid (Box.new w4 #[.string nk, .int .i64 0, .int .i64 0, .int .i64 0, .int .i64 0, .int .i64 0, .string ⟨#[]⟩, .bool false] 55 _ rfl)
      have hvW := Lib.hid (show w4.heap.size < (w4.alloc (.cells #[.string nk, .int .i64 0, .int .i64 0, .int .i64 0, .int .i64 0, .int .i64 0, .string ⟨#[]⟩, .bool false] 55)).heap.size from by simp)
      have O0 := Lib.hid (O0.out.on (alloc_below w4 (.cells #[.string nk, .int .i64 0, .int .i64 0, .int .i64 0, .int .i64 0, .int .i64 0, .string ⟨#[]⟩, .bool false] 55)))
      have GW0 := Lib.hid (GW0.out.trans (grown_of_below (alloc_below w4 (.cells #[.string nk, .int .i64 0, .int .i64 0, .int .i64 0, .int .i64 0, .int .i64 0, .string ⟨#[]⟩, .bool false] 55))))
      have DR := Lib.hid (hd4.on (alloc_below w4 (.cells #[.string nk, .int .i64 0, .int .i64 0, .int .i64 0, .int .i64 0, .int .i64 0, .string ⟨#[]⟩, .bool false] 55)))
      clear hd3 hd4 hg3 hg4 TXK
      have harm : (c ≤ key.size ∧ F = true) ∨ (c ≤ key.size ∧ F = false) ∨ key.size < c := by
        rcases Nat.lt_or_ge key.size c with h | h
        · exact .inr (.inr h)
        · cases F
          · exact .inr (.inl ⟨h, rfl⟩)
          · exact .inl ⟨h, rfl⟩
      have hlen0 : (key.extract 0 (min c key.size)).size + (⟨rx.toArray⟩ : ByteArray).size ≤ 1000000 := by rw [ByteArray.size_extract, hkx]; omega
      rcases harm with ⟨hcm, hFt⟩ | ⟨hcm, hFt⟩ | hcm
      case' inl =>
        subst hFt
        have HFN := Lib.hid (show bFine x0 (k + 1) = decide (qN b q4 e4 5 ≤ 1) from by rw [HF1.out, decide_eq_true hcm]; rfl)
        have zc : decide ((key.size : Int) < (c : Int)) = false := by rw [decide_eq_false_iff_not]; omega
        have zcN : decide (key.size < c) = false := by rw [decide_eq_false_iff_not]; omega
        have zc2 : (c : Int) ≤ (key.size : Int) := by omega
        rw [Nat.min_eq_left hcm] at HNK hlen0
      case' inr.inl =>
        subst hFt
        have HFN := Lib.hid (show bFine x0 (k + 1) = false from by rw [HF1.out]; rfl)
        have zc : decide ((key.size : Int) < (c : Int)) = false := by rw [decide_eq_false_iff_not]; omega
        have zcN : decide (key.size < c) = false := by rw [decide_eq_false_iff_not]; omega
        have zc2 : (c : Int) ≤ (key.size : Int) := by omega
        rw [Nat.min_eq_left hcm] at HNK hlen0
      case' inr.inr =>
        have HFN := Lib.hid (show bFine x0 (k + 1) = false from by rw [HF1.out, show decide (c ≤ key.size) = false from by rw [decide_eq_false_iff_not]; omega, Bool.and_false]; rfl)
        have zc : decide ((key.size : Int) < (c : Int)) = true := by simp; omega
        have zcN : decide (key.size < c) = true := by simp; omega
        have zc2 : (0 : Int) ≤ (key.size : Int) := by omega
        rw [Nat.min_eq_right (Nat.le_of_lt hcm), ba_full8] at HNK hlen0
      all_goals
        clear HF1 hcm
        have hnk := HNK.out.symm
        go_wp2_with fail
        clear hnk
        generalize w4.alloc (.cells #[.string nk, .int .i64 0, .int .i64 0, .int .i64 0, .int .i64 0, .int .i64 0, .string ⟨#[]⟩, .bool false] 55) = W2 at *
        generalize w4.heap.size = nv at *
        go_loopw [13, 14] (fun x i wr => ∃ j : Nat, i = .int .i64 j ∧ j ≤ 6 ∧ OwnInt wr W2.heap.size x (qNs b q4 e4 j) ∧ RdQ wr w.heap.size (.pointer (some ⟨w.heap.size, 0, none⟩)) b (qSt b q4 e4 j).1 (qSt b q4 e4 j).2 ∧ W2.grownBy wr (some w.heap.size)) (fun _ i _ => 6 - (intOf i).toNat)
        case atStart => exact ⟨0, rfl, by omega, OwnX.nil _ _, DR.out, World.grownBy.refl _ _⟩
        case round =>
          obtain ⟨j, rfl, hj, hoi, hdi, hgi⟩ := hrel
          have OI := Lib.hid hoi
          have DR := Lib.hid hdi
          have GL := Lib.hid hgi
          clear hoi hdi hgi
          by_cases hj6 : j < 6
          · have NK := Lib.hid (NUQ.out wr _ _ DR.out)
            have hqb := qN_bd b q4 e4 j
            have HS := Lib.hid (qNs_succ b q4 e4 j)
            have hol : (qNs b q4 e4 j).length + 1 ≤ 1000000000 := by unfold qNs; rw [List.length_map, List.length_range]; omega
            have hn : ((stepQ b (qSt b q4 e4 j).1 (qSt b q4 e4 j).2).1 : Int) = qN b q4 e4 j := rfl
            have hst : (stepQ b (qSt b q4 e4 j).1 (qSt b q4 e4 j).2).2 = qSt b q4 e4 (j + 1) := rfl
            rw [hn, hst] at NK
            clear hn hst
            generalize qNs b q4 e4 j = accn at *
            generalize qN b q4 e4 j = nj at *
            go_wp2_with fail
            refine NK.out.mono ?_
            rintro z w5 ⟨rfl, hd5, hg5⟩
            have OI := Lib.hid (OI.out.keep hg5 (by
              cases hb : u13.ownBlock with
              | none => exact .inl rfl
              | some b' => exact .inr (fun e2 => by injection e2 with e2; have := OI.out.base b' hb; have := hvW.out; have := hgv.out; omega)))
            have GL := Lib.hid (GL.out.trans hg5)
            have hsz := GL.out.size
            go_wp2_with (at_builtin; refine wpl_appX rfl (.tmp 53) (.tmp 56) rfl Tryz.underlying75 int_info rfl W2.heap.size _ accn [nj] _ _ _ rfl rfl rfl rfl OI.out hsz hol (by decide) ?_; intro v3 w6 ho3 hg6 hb3)
            have OZ := Lib.hid (show OwnInt w6 W2.heap.size v3 (qNs b q4 e4 (j + 1)) from by rw [HS.out]; exact ho3)
            have DZ := Lib.hid (hd5.below hb3 (by have := hvW.out; have := hgv.out; omega))
            have GZ := Lib.hid (grown_then_below GL.out hb3)
            clear ho3 hg6 hb3 hd5 hg5 hsz
            go_roundw
            case rel => exact ⟨j + 1, by go_num, by omega, OZ.out, DZ.out, GZ.out⟩
            case measure => simp [intOf]; omega
          · have hje : j = 6 := by omega
            subst hje
            have h3 := qN_bd b q4 e4 3
            have h4 := qN_bd b q4 e4 4
            have OI := Lib.hid (show OwnInt wr W2.heap.size u13 [qN b q4 e4 0, qN b q4 e4 1, qN b q4 e4 2, qN b q4 e4 3, qN b q4 e4 4, qN b q4 e4 5] from OI.out)
            generalize (qSt b q4 e4 6) = st6 at *
            generalize qN b q4 e4 0 = n0 at *
            generalize qN b q4 e4 1 = n1 at *
            generalize qN b q4 e4 2 = n2 at *
            generalize qN b q4 e4 3 = n3 at *
            generalize qN b q4 e4 4 = n4 at *
            generalize qN b q4 e4 5 = n5 at *
            have hws : IntKind.i64.wrap (n3 + n4) = n3 + n4 := by rw [IntKind.wrap_i64]; omega
            obtain ⟨g6, c6, e6, hg6, hgl6⟩ := OI.out.pos (by simp)
            subst e6
            have O := Lib.hid (O0.out.keep GL.out hnb.out)
            have GW := Lib.hid (GW0.out.trans GL.out)
            have BV := Lib.hid (BV.out.keep GL.out hvg.out)
            have hni := Lib.hid (show (Value.slice (some ⟨g6, 0, none⟩) 6 c6).ownBlock ≠ some nv from fun e2 => by have := (OI.out.lt _ e2).1; have := hvW.out; omega)
            clear GL
            have z0 := BV.out.cell 0 (.string nk) rfl
            have z1 := BV.out.cell 1 (.int .i64 0) rfl
            have z2 := BV.out.cell 2 (.int .i64 0) rfl
            have z3 := BV.out.cell 3 (.int .i64 0) rfl
            have z4 := BV.out.cell 4 (.int .i64 0) rfl
            have z5 := BV.out.cell 5 (.int .i64 0) rfl
            have z6 := BV.out.cell 6 (.string ⟨#[]⟩) rfl
            have z7 := BV.out.cell 7 (.bool false) rfl
            have f1 := BV.out.frozen 1
            have f2 := BV.out.frozen 2
            have f3 := BV.out.frozen 3
            have d0 := (show (wr).cell? ⟨g6, 0, none⟩ = some (.int .i64 n0) from OI.out.cell 0 (by simp) 0 _ rfl)
            have d1 := (show (wr).cell? ⟨g6, 1, none⟩ = some (.int .i64 n1) from OI.out.cell 1 (by simp) 0 _ rfl)
            have d2 := (show (wr).cell? ⟨g6, 2, none⟩ = some (.int .i64 n2) from OI.out.cell 2 (by simp) 0 _ rfl)
            go_wp2_with fail
            have BV := Lib.hid (show Box wr.drew nv #[.string nk, .int .i64 0, .int .i64 0, .int .i64 0, .int .i64 0, .int .i64 0, .string ⟨#[]⟩, .bool false] 55 from BV.out)
            have O := Lib.hid (show OwnVr wr.drew w2.heap.size u7 acc from O.out.on ((Below.refl _ wr).drewN 1))
            have OI := Lib.hid (show OwnInt wr.drew W2.heap.size (.slice (some ⟨g6, 0, none⟩) 6 c6) [n0, n1, n2, n3, n4, n5] from OI.out.on ((Below.refl _ wr).drewN 1))
            have DR := Lib.hid (show RdQ wr.drew w.heap.size (.pointer (some ⟨w.heap.size, 0, none⟩)) b _ _ from DR.out.on ((Below.refl _ wr).drewN 1))
            have GW := Lib.hid (show w2.grownBy wr.drew (some w.heap.size) from grown_then_below GW.out ((Below.refl _ wr).drewN 1))
            have HI : (fun W => W = wr.drew) wr.drew := rfl
            refine regk_start [11] (fun W => W = wr.drew) (by kernel_rfl) ?_
            refine regk_free 0 58 (v := ?_) (T' := ?_) (fun _ => HI) (by kernel_rfl) (by kernel_rfl) (by kernel_rfl) (by kernel_rfl) (fun _ _ _ h => h) (fun o ho => ?_) ?_ ?_
            rotate_left 2
            · cases ho
              refine ⟨rfl, rfl, fun W => ?_⟩
              go_simp; (try with_reducible rfl)
            · simp only [List.setIfInBounds_toArray, List.set_cons_succ, List.set_cons_zero]; exact rfl
            refine regk_free 1 59 (v := ?_) (T' := ?_) (fun _ => HI) (by kernel_rfl) (by kernel_rfl) (by kernel_rfl) (by kernel_rfl) (fun _ _ _ h => h) (fun o ho => ?_) ?_ ?_
            rotate_left 2
            · cases ho
              refine ⟨rfl, rfl, fun W => ?_⟩
              go_simp; (try with_reducible rfl)
            · simp only [List.setIfInBounds_toArray, List.set_cons_succ, List.set_cons_zero]; exact rfl
            refine regk_take 2 60 (v := ?_) (T' := ?_) HI (by kernel_rfl) (by kernel_rfl) (by kernel_rfl) (by kernel_rfl) (by kernel_rfl) (by kernel_rfl) (fun _ _ _ h => h) (fun o ho => ?_) ?_ ?_
            rotate_left 2
            · cases ho
              refine ⟨rfl, rfl, fun W hW => ?_⟩
              have hW := (show W = _ from hW); subst hW; go_simp; (try with_reducible rfl)
            · simp only [List.setIfInBounds_toArray, List.set_cons_succ, List.set_cons_zero]; exact rfl
            refine regk_free 3 61 (v := ?_) (T' := ?_) (fun _ => HI) (by kernel_rfl) (by kernel_rfl) (by kernel_rfl) (by kernel_rfl) (fun _ _ _ h => h) (fun o ho => ?_) ?_ ?_
            rotate_left 2
            · cases ho
              refine ⟨rfl, rfl, fun W => ?_⟩
              go_simp; (try with_reducible rfl)
            · simp only [List.setIfInBounds_toArray, List.set_cons_succ, List.set_cons_zero]; exact rfl
            refine regk_free 4 62 (v := ?_) (T' := ?_) (fun _ => HI) (by kernel_rfl) (by kernel_rfl) (by kernel_rfl) (by kernel_rfl) (fun _ _ _ h => h) (fun o ho => ?_) ?_ ?_
            rotate_left 2
            · cases ho
              refine ⟨rfl, rfl, fun W => ?_⟩
              go_simp; (try with_reducible rfl)
            · simp only [List.setIfInBounds_toArray, List.set_cons_succ, List.set_cons_zero]; exact rfl
            refine regk_take 5 63 (v := ?_) (T' := ?_) HI (by kernel_rfl) (by kernel_rfl) (by kernel_rfl) (by kernel_rfl) (by kernel_rfl) (by kernel_rfl) (fun _ _ _ h => h) (fun o ho => ?_) ?_ ?_
            rotate_left 2
            · cases ho
              refine ⟨rfl, rfl, fun W hW => ?_⟩
              have hW := (show W = _ from hW); subst hW; go_simp; (try with_reducible rfl)
            · simp only [List.setIfInBounds_toArray, List.set_cons_succ, List.set_cons_zero]; exact rfl
            refine regk_free 6 64 (v := ?_) (T' := ?_) (fun _ => HI) (by kernel_rfl) (by kernel_rfl) (by kernel_rfl) (by kernel_rfl) (fun _ _ _ h => h) (fun o ho => ?_) ?_ ?_
            rotate_left 2
            · cases ho
              refine ⟨rfl, rfl, fun W => ?_⟩
              go_simp; (try with_reducible rfl)
            · simp only [List.setIfInBounds_toArray, List.set_cons_succ, List.set_cons_zero]; exact rfl
            refine regk_free 7 65 (v := ?_) (T' := ?_) (fun _ => HI) (by kernel_rfl) (by kernel_rfl) (by kernel_rfl) (by kernel_rfl) (fun _ _ _ h => h) (fun o ho => ?_) ?_ ?_
            rotate_left 2
            · cases ho
              refine ⟨rfl, rfl, fun W => ?_⟩
              go_simp; (try with_reducible rfl)
            · simp only [List.setIfInBounds_toArray, List.set_cons_succ, List.set_cons_zero]; exact rfl
            refine regk_take 8 66 (v := ?_) (T' := ?_) HI (by kernel_rfl) (by kernel_rfl) (by kernel_rfl) (by kernel_rfl) (by kernel_rfl) (by kernel_rfl) (fun _ _ _ h => h) (fun o ho => ?_) ?_ ?_
            rotate_left 2
            · cases ho
              refine ⟨rfl, rfl, fun W hW => ?_⟩
              have hW := (show W = _ from hW); subst hW; go_simp; (try with_reducible rfl)
            · simp only [List.setIfInBounds_toArray, List.set_cons_succ, List.set_cons_zero]; exact rfl
            refine regk_free 9 67 (v := ?_) (T' := ?_) (fun _ => HI) (by kernel_rfl) (by kernel_rfl) (by kernel_rfl) (by kernel_rfl) (fun _ _ _ h => h) (fun o ho => ?_) ?_ ?_
            rotate_left 2
            · cases ho
              refine ⟨rfl, rfl, fun W => ?_⟩
              go_simp; (try with_reducible rfl)
            · simp only [List.setIfInBounds_toArray, List.set_cons_succ, List.set_cons_zero]; exact rfl
            refine regk_free 10 68 (v := ?_) (T' := ?_) (fun _ => HI) (by kernel_rfl) (by kernel_rfl) (by kernel_rfl) (by kernel_rfl) (fun _ _ _ h => h) (fun o ho => ?_) ?_ ?_
            rotate_left 2
            · cases ho
              refine ⟨rfl, rfl, fun W => ?_⟩
              go_simp; (try with_reducible rfl)
            · simp only [List.setIfInBounds_toArray, List.set_cons_succ, List.set_cons_zero]; exact rfl
            refine regk_store (I' := (fun W => W = wr.drew)) (fun _ h => h) 11 (w' := (((wr.drew.setCell ⟨nv, 1, none⟩ (.int .i64 n0)).setCell ⟨nv, 2, none⟩ (.int .i64 n1)).setCell ⟨nv, 3, none⟩ (.int .i64 n2))) (by kernel_rfl) (fun o ho => ?_) (noB_no (by kernel_rfl)) ?_
            · cases ho
              refine ⟨rfl, rfl, ?_⟩
              go_simp; (try with_reducible rfl)
            refine regk_done (by kernel_rfl) ?_
            clear HI
            clear z0 z1 z2 z3 z4 z5 z6 z7 f1 f2 f3 d0 d1 d2
            generalize hw5 : (((wr.drew.setCell ⟨nv, 1, none⟩ (.int .i64 n0)).setCell ⟨nv, 2, none⟩ (.int .i64 n1)).setCell ⟨nv, 3, none⟩ (.int .i64 n2)) = W5
            have BV := Lib.hid (show Box W5 nv #[.string nk, .int .i64 n0, .int .i64 n1, .int .i64 n2, .int .i64 0, .int .i64 0, .string ⟨#[]⟩, .bool false] 55 from by rw [← hw5]; exact put_stamp BV.out)
            have O := Lib.hid (show OwnVr W5 w2.heap.size u7 acc from by rw [← hw5]; exact (O.out.keep (((grown_set (g := nv) wr.drew 1 (.int .i64 n0)).trans (grown_set (g := nv) (wr.drew.setCell ⟨nv, 1, none⟩ (.int .i64 n0)) 2 (.int .i64 n1))).trans (grown_set (g := nv) ((wr.drew.setCell ⟨nv, 1, none⟩ (.int .i64 n0)).setCell ⟨nv, 2, none⟩ (.int .i64 n1)) 3 (.int .i64 n2))) (.inr hno.out)))
            have OI := Lib.hid (show OwnInt W5 W2.heap.size (.slice (some ⟨g6, 0, none⟩) 6 c6) [n0, n1, n2, n3, n4, n5] from by rw [← hw5]; exact (OI.out.keep (((grown_set (g := nv) wr.drew 1 (.int .i64 n0)).trans (grown_set (g := nv) (wr.drew.setCell ⟨nv, 1, none⟩ (.int .i64 n0)) 2 (.int .i64 n1))).trans (grown_set (g := nv) ((wr.drew.setCell ⟨nv, 1, none⟩ (.int .i64 n0)).setCell ⟨nv, 2, none⟩ (.int .i64 n1)) 3 (.int .i64 n2))) (.inr hni.out)))
            have DR := Lib.hid (show RdQ W5 w.heap.size (.pointer (some ⟨w.heap.size, 0, none⟩)) b _ _ from by rw [← hw5]; exact (DR.out.below ((((Below.refl nv wr.drew).setCell (p := ⟨nv, 1, none⟩) (Nat.le_refl _) (.int .i64 n0)).setCell (p := ⟨nv, 2, none⟩) (Nat.le_refl _) (.int .i64 n1)).setCell (p := ⟨nv, 3, none⟩) (Nat.le_refl _) (.int .i64 n2)) hgv.out))
            have GW := Lib.hid (show w2.grownBy W5 (some w.heap.size) from by rw [← hw5]; exact grown_then_below GW.out ((((((Below.refl nv wr.drew).setCell (p := ⟨nv, 1, none⟩) (Nat.le_refl _) (.int .i64 n0)).setCell (p := ⟨nv, 2, none⟩) (Nat.le_refl _) (.int .i64 n1)).setCell (p := ⟨nv, 3, none⟩) (Nat.le_refl _) (.int .i64 n2)).mono hnv.out)))
            clear hw5
            have z0 := BV.out.cell 0 (.string nk) rfl
            have z1 := BV.out.cell 1 (.int .i64 n0) rfl
            have z2 := BV.out.cell 2 (.int .i64 n1) rfl
            have z3 := BV.out.cell 3 (.int .i64 n2) rfl
            have z4 := BV.out.cell 4 (.int .i64 0) rfl
            have z5 := BV.out.cell 5 (.int .i64 0) rfl
            have z6 := BV.out.cell 6 (.string ⟨#[]⟩) rfl
            have z7 := BV.out.cell 7 (.bool false) rfl
            have f4 := BV.out.frozen 4
            have f5 := BV.out.frozen 5
            have d3 := (show (W5).cell? ⟨g6, 3, none⟩ = some (.int .i64 n3) from OI.out.cell 3 (by simp) 0 _ rfl)
            have d4 := (show (W5).cell? ⟨g6, 4, none⟩ = some (.int .i64 n4) from OI.out.cell 4 (by simp) 0 _ rfl)
            go_wp2_with fail
            have BV := Lib.hid (show Box W5.drew nv #[.string nk, .int .i64 n0, .int .i64 n1, .int .i64 n2, .int .i64 0, .int .i64 0, .string ⟨#[]⟩, .bool false] 55 from BV.out)
            have O := Lib.hid (show OwnVr W5.drew w2.heap.size u7 acc from O.out.on ((Below.refl _ W5).drewN 1))
            have OI := Lib.hid (show OwnInt W5.drew W2.heap.size (.slice (some ⟨g6, 0, none⟩) 6 c6) [n0, n1, n2, n3, n4, n5] from OI.out.on ((Below.refl _ W5).drewN 1))
            have DR := Lib.hid (show RdQ W5.drew w.heap.size (.pointer (some ⟨w.heap.size, 0, none⟩)) b _ _ from DR.out.on ((Below.refl _ W5).drewN 1))
            have GW := Lib.hid (show w2.grownBy W5.drew (some w.heap.size) from grown_then_below GW.out ((Below.refl _ W5).drewN 1))
            have HI : (fun W => W = W5.drew) W5.drew := rfl
            refine regk_start [12] (fun W => W = W5.drew) (by kernel_rfl) ?_
            refine regk_free 0 69 (v := ?_) (T' := ?_) (fun _ => HI) (by kernel_rfl) (by kernel_rfl) (by kernel_rfl) (by kernel_rfl) (fun _ _ _ h => h) (fun o ho => ?_) ?_ ?_
            rotate_left 2
            · cases ho
              refine ⟨rfl, rfl, fun W => ?_⟩
              go_simp; (try with_reducible rfl)
            · simp only [List.setIfInBounds_toArray, List.set_cons_succ, List.set_cons_zero]; exact rfl
            refine regk_free 1 70 (v := ?_) (T' := ?_) (fun _ => HI) (by kernel_rfl) (by kernel_rfl) (by kernel_rfl) (by kernel_rfl) (fun _ _ _ h => h) (fun o ho => ?_) ?_ ?_
            rotate_left 2
            · cases ho
              refine ⟨rfl, rfl, fun W => ?_⟩
              go_simp; (try with_reducible rfl)
            · simp only [List.setIfInBounds_toArray, List.set_cons_succ, List.set_cons_zero]; exact rfl
            refine regk_take 2 71 (v := ?_) (T' := ?_) HI (by kernel_rfl) (by kernel_rfl) (by kernel_rfl) (by kernel_rfl) (by kernel_rfl) (by kernel_rfl) (fun _ _ _ h => h) (fun o ho => ?_) ?_ ?_
            rotate_left 2
            · cases ho
              refine ⟨rfl, rfl, fun W hW => ?_⟩
              have hW := (show W = _ from hW); subst hW; go_simp; (try with_reducible rfl)
            · simp only [List.setIfInBounds_toArray, List.set_cons_succ, List.set_cons_zero]; exact rfl
            refine regk_free 3 72 (v := ?_) (T' := ?_) (fun _ => HI) (by kernel_rfl) (by kernel_rfl) (by kernel_rfl) (by kernel_rfl) (fun _ _ _ h => h) (fun o ho => ?_) ?_ ?_
            rotate_left 2
            · cases ho
              refine ⟨rfl, rfl, fun W => ?_⟩
              go_simp; (try with_reducible rfl)
            · simp only [List.setIfInBounds_toArray, List.set_cons_succ, List.set_cons_zero]; exact rfl
            refine regk_free 4 73 (v := ?_) (T' := ?_) (fun _ => HI) (by kernel_rfl) (by kernel_rfl) (by kernel_rfl) (by kernel_rfl) (fun _ _ _ h => h) (fun o ho => ?_) ?_ ?_
            rotate_left 2
            · cases ho
              refine ⟨rfl, rfl, fun W => ?_⟩
              go_simp; (try with_reducible rfl)
            · simp only [List.setIfInBounds_toArray, List.set_cons_succ, List.set_cons_zero]; exact rfl
            refine regk_take 5 74 (v := ?_) (T' := ?_) HI (by kernel_rfl) (by kernel_rfl) (by kernel_rfl) (by kernel_rfl) (by kernel_rfl) (by kernel_rfl) (fun _ _ _ h => h) (fun o ho => ?_) ?_ ?_
            rotate_left 2
            · cases ho
              refine ⟨rfl, rfl, fun W hW => ?_⟩
              have hW := (show W = _ from hW); subst hW; go_simp; (try with_reducible rfl)
            · simp only [List.setIfInBounds_toArray, List.set_cons_succ, List.set_cons_zero]; exact rfl
            refine regk_free 6 75 (v := ?_) (T' := ?_) (fun _ => HI) (by kernel_rfl) (by kernel_rfl) (by kernel_rfl) (by kernel_rfl) (fun _ _ _ h => h) (fun o ho => ?_) ?_ ?_
            rotate_left 2
            · cases ho
              refine ⟨rfl, rfl, fun W => ?_⟩
              go_simp; (try with_reducible rfl)
            · simp only [List.setIfInBounds_toArray, List.set_cons_succ, List.set_cons_zero]; exact rfl
            refine regk_free 7 76 (v := ?_) (T' := ?_) (fun _ => HI) (by kernel_rfl) (by kernel_rfl) (by kernel_rfl) (by kernel_rfl) (fun _ _ _ h => h) (fun o ho => ?_) ?_ ?_
            rotate_left 2
            · cases ho
              refine ⟨rfl, rfl, fun W => ?_⟩
              go_simp; (try with_reducible rfl)
            · simp only [List.setIfInBounds_toArray, List.set_cons_succ, List.set_cons_zero]; exact rfl
            refine regk_take 8 77 (v := ?_) (T' := ?_) HI (by kernel_rfl) (by kernel_rfl) (by kernel_rfl) (by kernel_rfl) (by kernel_rfl) (by kernel_rfl) (fun _ _ _ h => h) (fun o ho => ?_) ?_ ?_
            rotate_left 2
            · cases ho
              refine ⟨rfl, rfl, fun W hW => ?_⟩
              have hW := (show W = _ from hW); subst hW; go_simp; (try with_reducible rfl)
            · simp only [List.setIfInBounds_toArray, List.set_cons_succ, List.set_cons_zero]; exact rfl
            refine regk_free 9 78 (v := ?_) (T' := ?_) (fun _ => HI) (by kernel_rfl) (by kernel_rfl) (by kernel_rfl) (by kernel_rfl) (fun _ _ _ h => h) (fun o ho => ?_) ?_ ?_
            rotate_left 2
            · cases ho
              refine ⟨rfl, rfl, fun W => ?_⟩
              go_simp; (try with_reducible rfl)
            · simp only [List.setIfInBounds_toArray, List.set_cons_succ, List.set_cons_zero]; exact rfl
            refine regk_free 10 79 (v := ?_) (T' := ?_) (fun _ => HI) (by kernel_rfl) (by kernel_rfl) (by kernel_rfl) (by kernel_rfl) (fun _ _ _ h => h) (fun o ho => ?_) ?_ ?_
            rotate_left 2
            · cases ho
              refine ⟨rfl, rfl, fun W => ?_⟩
              go_simp; (try with_reducible rfl)
            · simp only [List.setIfInBounds_toArray, List.set_cons_succ, List.set_cons_zero]; exact rfl
            refine regk_free 11 80 (v := ?_) (T' := ?_) (fun _ => HI) (by kernel_rfl) (by kernel_rfl) (by kernel_rfl) (by kernel_rfl) (fun _ _ _ h => h) (fun o ho => ?_) ?_ ?_
            rotate_left 2
            · cases ho
              refine ⟨rfl, rfl, fun W => ?_⟩
              go_simp; (try with_reducible rfl)
            · simp only [List.setIfInBounds_toArray, List.set_cons_succ, List.set_cons_zero]; exact rfl
            refine regk_store (I' := (fun W => W = W5.drew)) (fun _ h => h) 12 (w' := ((W5.drew.setCell ⟨nv, 4, none⟩ (.int .i64 n3)).setCell ⟨nv, 5, none⟩ (.int .i64 (n3 + n4)))) (by kernel_rfl) (fun o ho => ?_) (noB_no (by kernel_rfl)) ?_
            · cases ho
              refine ⟨rfl, rfl, ?_⟩
              go_simp; (try with_reducible rfl)
            refine regk_done (by kernel_rfl) ?_
            clear HI
            clear z0 z1 z2 z3 z4 z5 z6 z7 f4 f5 d3 d4
            generalize hw6 : ((W5.drew.setCell ⟨nv, 4, none⟩ (.int .i64 n3)).setCell ⟨nv, 5, none⟩ (.int .i64 (n3 + n4))) = W6
            have BV := Lib.hid (show Box W6 nv #[.string nk, .int .i64 n0, .int .i64 n1, .int .i64 n2, .int .i64 n3, .int .i64 (n3 + n4), .string ⟨#[]⟩, .bool false] 55 from by rw [← hw6]; exact put_span BV.out)
            have O := Lib.hid (show OwnVr W6 w2.heap.size u7 acc from by rw [← hw6]; exact (O.out.keep ((grown_set (g := nv) W5.drew 4 (.int .i64 n3)).trans (grown_set (g := nv) (W5.drew.setCell ⟨nv, 4, none⟩ (.int .i64 n3)) 5 (.int .i64 (n3 + n4)))) (.inr hno.out)))
            have OI := Lib.hid (show OwnInt W6 W2.heap.size (.slice (some ⟨g6, 0, none⟩) 6 c6) [n0, n1, n2, n3, n4, n5] from by rw [← hw6]; exact (OI.out.keep ((grown_set (g := nv) W5.drew 4 (.int .i64 n3)).trans (grown_set (g := nv) (W5.drew.setCell ⟨nv, 4, none⟩ (.int .i64 n3)) 5 (.int .i64 (n3 + n4)))) (.inr hni.out)))
            have DR := Lib.hid (show RdQ W6 w.heap.size (.pointer (some ⟨w.heap.size, 0, none⟩)) b _ _ from by rw [← hw6]; exact (DR.out.below (((Below.refl nv W5.drew).setCell (p := ⟨nv, 4, none⟩) (Nat.le_refl _) (.int .i64 n3)).setCell (p := ⟨nv, 5, none⟩) (Nat.le_refl _) (.int .i64 (n3 + n4))) hgv.out))
            have GW := Lib.hid (show w2.grownBy W6 (some w.heap.size) from by rw [← hw6]; exact grown_then_below GW.out (((((Below.refl nv W5.drew).setCell (p := ⟨nv, 4, none⟩) (Nat.le_refl _) (.int .i64 n3)).setCell (p := ⟨nv, 5, none⟩) (Nat.le_refl _) (.int .i64 (n3 + n4))).mono hnv.out)))
            clear hw6
            have z0 := BV.out.cell 0 (.string nk) rfl
            have z1 := BV.out.cell 1 (.int .i64 n0) rfl
            have z2 := BV.out.cell 2 (.int .i64 n1) rfl
            have z3 := BV.out.cell 3 (.int .i64 n2) rfl
            have z4 := BV.out.cell 4 (.int .i64 n3) rfl
            have z5 := BV.out.cell 5 (.int .i64 (n3 + n4)) rfl
            have z6 := BV.out.cell 6 (.string ⟨#[]⟩) rfl
            have z7 := BV.out.cell 7 (.bool false) rfl
            have f7 := BV.out.frozen 7
            have d5 := (show (W6).cell? ⟨g6, 5, none⟩ = some (.int .i64 n5) from OI.out.cell 5 (by simp) 0 _ rfl)
            have e5 := (show ((W6.setCell ⟨nv, 7, none⟩ (.bool (n5 == 1)))).cell? ⟨g6, 5, none⟩ = some (.int .i64 n5) from (OI.out.keep (grown_set (g := nv) W6 7 (.bool (n5 == 1))) (.inr hni.out)).cell 5 (by simp) 0 _ rfl)
            go_wp2_with fail
            clear z0 z1 z2 z3 z4 z5 z6 z7 f7 d5 e5
            generalize hw7 : (W6.setCell ⟨nv, 7, none⟩ (.bool (n5 == 1))) = W7
            have BV := Lib.hid (show Box W7 nv #[.string nk, .int .i64 n0, .int .i64 n1, .int .i64 n2, .int .i64 n3, .int .i64 (n3 + n4), .string ⟨#[]⟩, .bool (n5 == 1)] 55 from by rw [← hw7]; exact put_gone BV.out)
            have O := Lib.hid (show OwnVr W7 w2.heap.size u7 acc from by rw [← hw7]; exact (O.out.keep (grown_set (g := nv) W6 7 (.bool (n5 == 1))) (.inr hno.out)))
            have OI := Lib.hid (show OwnInt W7 W2.heap.size (.slice (some ⟨g6, 0, none⟩) 6 c6) [n0, n1, n2, n3, n4, n5] from by rw [← hw7]; exact (OI.out.keep (grown_set (g := nv) W6 7 (.bool (n5 == 1))) (.inr hni.out)))
            have DR := Lib.hid (show RdQ W7 w.heap.size (.pointer (some ⟨w.heap.size, 0, none⟩)) b _ _ from by rw [← hw7]; exact (DR.out.below ((Below.refl nv W6).setCell (p := ⟨nv, 7, none⟩) (Nat.le_refl _) (.bool (n5 == 1))) hgv.out))
            have GW := Lib.hid (show w2.grownBy W7 (some w.heap.size) from by rw [← hw7]; exact grown_then_below GW.out ((((Below.refl nv W6).setCell (p := ⟨nv, 7, none⟩) (Nat.le_refl _) (.bool (n5 == 1))).mono hnv.out)))
            clear hw7
            refine (VX.out _ DR.out).mono ?_
            rintro z w8 ⟨rfl, hd8, hg8⟩
            have O := Lib.hid (O.out.keep hg8 hnb.out)
            have GW := Lib.hid (GW.out.trans hg8)
            have BV := Lib.hid (BV.out.keep hg8 hvg.out)
            have z0 := BV.out.cell 0 (.string nk) rfl
            have z1 := BV.out.cell 1 (.int .i64 n0) rfl
            have z2 := BV.out.cell 2 (.int .i64 n1) rfl
            have z3 := BV.out.cell 3 (.int .i64 n2) rfl
            have z4 := BV.out.cell 4 (.int .i64 n3) rfl
            have z5 := BV.out.cell 5 (.int .i64 (n3 + n4)) rfl
            have z6 := BV.out.cell 6 (.string ⟨#[]⟩) rfl
            have z7 := BV.out.cell 7 (.bool (n5 == 1)) rfl
            have f6 := BV.out.frozen 6
            have B9 := Lib.hid (put_value (x := .string ⟨vx.toArray⟩) BV.out)
            have O := Lib.hid (O.out.keep (grown_set (g := nv) w8 6 (.string ⟨vx.toArray⟩)) (.inr hno.out))
            have DR := Lib.hid (hd8.below ((Below.refl nv w8).setCell (p := ⟨nv, 6, none⟩) (Nat.le_refl _) (.string ⟨vx.toArray⟩)) hgv.out)
            have GW := Lib.hid (grown_then_below GW.out (((Below.refl nv w8).setCell (p := ⟨nv, 6, none⟩) (Nat.le_refl _) (.string ⟨vx.toArray⟩)).mono hnv.out))
            have hsz := Lib.hid GW.out.size
            have hsz8 := Lib.hid (show ((w8.setCell ⟨nv, 6, none⟩ (.string ⟨vx.toArray⟩))).heap.size = w8.heap.size from by simp [World.setCell])
            clear hd8 hg8
            go_wp2_with (at_builtin; refine wpl_appX rfl (.tmp 96) (.tmp 98) rfl Tryz.underlying27 ver_info rfl w2.heap.size _ acc [(⟨nk, n0, n1, n2, (n3, n3 + n4), ⟨vx.toArray⟩, n5 == 1⟩ : Ver)] _ 1 1 rfl rfl (by rw [hsz8.out]; rfl) rfl O.out hsz.out hal1.out (by decide) ?_; intro v9 w9 ho9 hg9 hb9; have d9 := (B9.out.keep hg9.grown (fun e2 => hno.out e2.symm)).cell 0 (.string nk) rfl)
            have OZ := Lib.hid (show OwnVr w9 w2.heap.size v9 (bOut x0 (k + 1)) from by rw [HOE.out]; exact ho9)
            have DZ := Lib.hid (DR.out.below hb9 hgw2.out)
            have GZ := Lib.hid (grown_then_below GW.out hb9)
            clear ho9 hg9 hb9
            go_roundw
            case rel => exact ⟨k + 1, _, _, by go_num, by omega, DZ.out, LK3.out, by rw [HKE.out], OZ.out, by rw [HFN.out], GZ.out⟩
            case measure => simp [intOf]; omega
    · have O0 := Lib.hid O0.out
      have GF := Lib.hid (G.out.grown GW0.out G.out.size (by intro k hk; injection hk with hk; omega))
      have hsw := G.out.size
      by_cases he : e = 0
      · subst he
        have hkn : k = n := by omega
        subst hkn
        have zlt : decide ((k : Int) < (k : Int)) = false := by simp
        have zlt2 : decide (k < k) = false := by simp
        have hE0 := Lib.hid (show E = 0 from by rw [hE.out]; exact LK.out.1)
        have O0 := Lib.hid (show OwnVr wr w2.heap.size u7 OO from by rw [hO.out]; exact O0.out)
        have hFk := hF.out
        generalize bFine x0 k = fb at *
        subst hFk
        obtain ⟨AO, cO, eO, -⟩ := O0.out.rd
        subst eO
        clear hlt
        go_wp2_with fail
        refine (MAY.out _ _ O0.out.rd).mono ?_
        rintro z w3 ⟨rfl, hb3⟩
        have OM := Lib.hid (OwnX.mono (O0.out.on hb3) hsw)
        have GF := Lib.hid (GF.out.trans (hb3.mono GF.out.size))
        clear hb3
        cases FF
        · have hr := Lib.hid (hR3.out hE0.out (by simp))
          go_wp2_with fail
          go_quiet (fail)
          have GF := Lib.hid (GF.out.drewN nq)
          go_wp2_with fail
          go_ret2
          exact ⟨.slice none 0 0, by rw [hr.out]; rfl, by rw [hr.out]; exact OwnX.nil _ _, GF.out⟩
        · cases hm : blkB OO
          · have hr := Lib.hid (hR3.out hE0.out (by simp [hm]))
            go_wp2_with fail
            go_quiet (fail)
            have GF := Lib.hid (GF.out.drewN nq)
            go_wp2_with fail
            go_ret2
            exact ⟨.slice none 0 0, by rw [hr.out]; rfl, by rw [hr.out]; exact OwnX.nil _ _, GF.out⟩
          · by_cases hq : encBlk OO = b
            · have hr := Lib.hid (hR2.out hE0.out rfl hm hq)
              have z1 : (encBlk OO == b) = true := by rw [beq_iff_eq]; exact hq
              have z2 : (encBlk OO != b) = false := by simp [bne, hq]
              generalize encBlk OO = eb at *
              clear hq
              go_wp2_with fail
              have GF := Lib.hid (show Below w.heap.size w w3.drew from GF.out.drew)
              refine reg_start (by kernel_rfl) ?_
              refine reg_take2 0 113 (v := ?_) (T' := ?_) (Later.refl _) (by kernel_rfl) (by kernel_rfl) (by kernel_rfl) (fun _ _ _ h => h) (fun o ho => ?_) ?_ ?_
              rotate_left 2
              · cases ho
                refine ⟨rfl, rfl, fun W hW => ?_⟩
                go_simp; (try with_reducible rfl)
              · simp only [List.setIfInBounds_toArray, List.set_cons_succ, List.set_cons_zero]; exact rfl
              refine reg_take2 1 114 (v := ?_) (T' := ?_) (Later.refl _) (by kernel_rfl) (by kernel_rfl) (by kernel_rfl) (fun _ _ _ h => h) (fun o ho => ?_) ?_ ?_
              rotate_left 2
              · cases ho
                refine ⟨rfl, rfl, fun W hW => ?_⟩
                go_simp; (try with_reducible rfl)
              · simp only [List.setIfInBounds_toArray, List.set_cons_succ, List.set_cons_zero]; exact rfl
              refine reg_take2 2 115 (v := ?_) (T' := ?_) (Later.refl _) (by kernel_rfl) (by kernel_rfl) (by kernel_rfl) (fun _ _ _ h => h) (fun o ho => ?_) ?_ ?_
              rotate_left 2
              · cases ho
                refine ⟨rfl, rfl, fun W hW => ?_⟩
                go_simp; (try with_reducible rfl)
              · simp only [List.setIfInBounds_toArray, List.set_cons_succ, List.set_cons_zero]; exact rfl
              refine reg_take2 3 116 (v := ?_) (T' := ?_) (Later.refl _) (by kernel_rfl) (by kernel_rfl) (by kernel_rfl) (fun _ _ _ h => h) (fun o ho => ?_) ?_ ?_
              rotate_left 2
              · cases ho
                refine ⟨rfl, rfl, fun W hW => ?_⟩
                go_simp; (try with_reducible rfl)
              · simp only [List.setIfInBounds_toArray, List.set_cons_succ, List.set_cons_zero]; exact rfl
              refine reg_take2 4 117 (v := ?_) (T' := ?_) (Later.refl _) (by kernel_rfl) (by kernel_rfl) (by kernel_rfl) (fun _ _ _ h => h) (fun o ho => ?_) ?_ ?_
              rotate_left 2
              · cases ho
                refine ⟨rfl, rfl, fun W hW => ?_⟩
                go_simp; (try with_reducible rfl)
              · simp only [List.setIfInBounds_toArray, List.set_cons_succ, List.set_cons_zero]; exact rfl
              refine reg_take2 5 118 (v := ?_) (T' := ?_) (Later.refl _) (by kernel_rfl) (by kernel_rfl) (by kernel_rfl) (fun _ _ _ h => h) (fun o ho => ?_) ?_ ?_
              rotate_left 2
              · cases ho
                refine ⟨rfl, rfl, fun W hW => ?_⟩
                go_simp; (try with_reducible rfl)
              · simp only [List.setIfInBounds_toArray, List.set_cons_succ, List.set_cons_zero]; exact rfl
              refine reg_take2 6 119 (v := ?_) (T' := ?_) (Later.refl _) (by kernel_rfl) (by kernel_rfl) (by kernel_rfl) (fun _ _ _ h => h) (fun o ho => ?_) ?_ ?_
              rotate_left 2
              · cases ho
                refine ⟨rfl, rfl, fun W hW => ?_⟩
                go_simp; (try with_reducible rfl)
              · simp only [List.setIfInBounds_toArray, List.set_cons_succ, List.set_cons_zero]; exact rfl
              refine reg_take2 7 120 (v := ?_) (T' := ?_) (Later.refl _) (by kernel_rfl) (by kernel_rfl) (by kernel_rfl) (fun _ _ _ h => h) (fun o ho => ?_) ?_ ?_
              rotate_left 2
              · cases ho
                refine ⟨rfl, rfl, fun W hW => ?_⟩
                go_simp; (try with_reducible rfl)
              · simp only [List.setIfInBounds_toArray, List.set_cons_succ, List.set_cons_zero]; exact rfl
              refine reg_take2 10 123 (v := ?_) (T' := ?_) (Later.refl _) (by kernel_rfl) (by kernel_rfl) (by kernel_rfl) (fun _ _ _ h => h) (fun o ho => ?_) ?_ ?_
              rotate_left 2
              · cases ho
                refine ⟨rfl, rfl, fun W hW => ?_⟩
                go_simp; (try with_reducible rfl)
              · simp only [List.setIfInBounds_toArray, List.set_cons_succ, List.set_cons_zero]; exact rfl
              refine reg_take2 11 124 (v := ?_) (T' := ?_) (Later.refl _) (by kernel_rfl) (by kernel_rfl) (by kernel_rfl) (fun _ _ _ h => h) (fun o ho => ?_) ?_ ?_
              rotate_left 2
              · cases ho
                refine ⟨rfl, rfl, fun W hW => ?_⟩
                have hcv := RdB.str (RB0.out.below (GF.out.trans (hW.mono GF.out.size)))
                go_simp; (try with_reducible rfl)
              · simp only [List.setIfInBounds_toArray, List.set_cons_succ, List.set_cons_zero]; exact rfl
              refine reg_call2 8 121 (Later.refl _) (by kernel_rfl) 33 #[.slice AO OO.length cO] (fun o ho => by cases ho; exact ⟨rfl, rfl, fun W => by go_simp⟩) ?_
              refine (WRT.out hm _ _ (OwnX.rd (OwnX.on OM.out ((Below.refl _ w3).drewN 1)))).mono ?_
              rintro z x1 ⟨v8, rfl, ho8, hb8⟩
              have Y := Lib.hid ho8.rd
              have GF := Lib.hid (GF.out.trans (hb8.mono GF.out.size))
              refine ⟨_, _, rfl, hb8, (by simp only [List.setIfInBounds_toArray, List.set_cons_succ, List.set_cons_zero]; exact rfl), ?_⟩
              have hx31 : Below w3.heap.size w3 x1 := (show Below w3.heap.size w3 w3.drew from (Below.refl _ w3).drewN 1).trans hb8
              clear ho8 hb8
              refine reg_take2 9 122 (v := ?_) (T' := ?_) (Later.refl _) (by kernel_rfl) (by kernel_rfl) (by kernel_rfl) (fun _ _ _ h => h) (fun o ho => ?_) ?_ ?_
              rotate_left 2
              · cases ho
                refine ⟨rfl, rfl, fun W hW => ?_⟩
                have hcv := RdB.str (RdB.below Y.out hW)
                go_simp; (try with_reducible rfl)
              · simp only [List.setIfInBounds_toArray, List.set_cons_succ, List.set_cons_zero]; exact rfl
              refine reg_take2 12 125 (v := ?_) (T' := ?_) (Later.refl _) (by kernel_rfl) (by kernel_rfl) (by kernel_rfl) (fun _ _ _ h => h) (fun o ho => ?_) ?_ ?_
              rotate_left 2
              · cases ho
                refine ⟨rfl, rfl, fun W hW => ?_⟩
                go_simp; (try with_reducible rfl)
              · simp only [List.setIfInBounds_toArray, List.set_cons_succ, List.set_cons_zero]; exact rfl
              refine reg_take2 13 126 (v := ?_) (T' := ?_) (Later.refl _) (by kernel_rfl) (by kernel_rfl) (by kernel_rfl) (fun _ _ _ h => h) (fun o ho => ?_) ?_ ?_
              rotate_left 2
              · cases ho
                refine ⟨rfl, rfl, fun W hW => ?_⟩
                go_simp; (try with_reducible rfl)
              · simp only [List.setIfInBounds_toArray, List.set_cons_succ, List.set_cons_zero]; exact rfl
              refine reg_done (by kernel_rfl) ?_
              have OF := Lib.hid (OwnX.on OM.out (show Below w3.heap.size w3 x1 from hx31))
              go_wp2_with fail
              go_ret2
              exact ⟨_, by rw [hr.out]; rfl, by rw [hr.out]; exact OF.out, GF.out⟩
            · have hr := Lib.hid (hR3.out hE0.out (fun h => hq h.2))
              have z1 : (encBlk OO == b) = false := by rw [beq_eq_false_iff_ne]; exact hq
              have z2 : (encBlk OO != b) = true := by simp [bne, z1]
              generalize encBlk OO = eb at *
              clear hq
              go_wp2_with fail
              have GF := Lib.hid (show Below w.heap.size w w3.drew from GF.out.drew)
              refine reg_start (by kernel_rfl) ?_
              refine reg_take2 0 113 (v := ?_) (T' := ?_) (Later.refl _) (by kernel_rfl) (by kernel_rfl) (by kernel_rfl) (fun _ _ _ h => h) (fun o ho => ?_) ?_ ?_
              rotate_left 2
              · cases ho
                refine ⟨rfl, rfl, fun W hW => ?_⟩
                go_simp; (try with_reducible rfl)
              · simp only [List.setIfInBounds_toArray, List.set_cons_succ, List.set_cons_zero]; exact rfl
              refine reg_take2 1 114 (v := ?_) (T' := ?_) (Later.refl _) (by kernel_rfl) (by kernel_rfl) (by kernel_rfl) (fun _ _ _ h => h) (fun o ho => ?_) ?_ ?_
              rotate_left 2
              · cases ho
                refine ⟨rfl, rfl, fun W hW => ?_⟩
                go_simp; (try with_reducible rfl)
              · simp only [List.setIfInBounds_toArray, List.set_cons_succ, List.set_cons_zero]; exact rfl
              refine reg_take2 2 115 (v := ?_) (T' := ?_) (Later.refl _) (by kernel_rfl) (by kernel_rfl) (by kernel_rfl) (fun _ _ _ h => h) (fun o ho => ?_) ?_ ?_
              rotate_left 2
              · cases ho
                refine ⟨rfl, rfl, fun W hW => ?_⟩
                go_simp; (try with_reducible rfl)
              · simp only [List.setIfInBounds_toArray, List.set_cons_succ, List.set_cons_zero]; exact rfl
              refine reg_take2 3 116 (v := ?_) (T' := ?_) (Later.refl _) (by kernel_rfl) (by kernel_rfl) (by kernel_rfl) (fun _ _ _ h => h) (fun o ho => ?_) ?_ ?_
              rotate_left 2
              · cases ho
                refine ⟨rfl, rfl, fun W hW => ?_⟩
                go_simp; (try with_reducible rfl)
              · simp only [List.setIfInBounds_toArray, List.set_cons_succ, List.set_cons_zero]; exact rfl
              refine reg_take2 4 117 (v := ?_) (T' := ?_) (Later.refl _) (by kernel_rfl) (by kernel_rfl) (by kernel_rfl) (fun _ _ _ h => h) (fun o ho => ?_) ?_ ?_
              rotate_left 2
              · cases ho
                refine ⟨rfl, rfl, fun W hW => ?_⟩
                go_simp; (try with_reducible rfl)
              · simp only [List.setIfInBounds_toArray, List.set_cons_succ, List.set_cons_zero]; exact rfl
              refine reg_take2 5 118 (v := ?_) (T' := ?_) (Later.refl _) (by kernel_rfl) (by kernel_rfl) (by kernel_rfl) (fun _ _ _ h => h) (fun o ho => ?_) ?_ ?_
              rotate_left 2
              · cases ho
                refine ⟨rfl, rfl, fun W hW => ?_⟩
                go_simp; (try with_reducible rfl)
              · simp only [List.setIfInBounds_toArray, List.set_cons_succ, List.set_cons_zero]; exact rfl
              refine reg_take2 6 119 (v := ?_) (T' := ?_) (Later.refl _) (by kernel_rfl) (by kernel_rfl) (by kernel_rfl) (fun _ _ _ h => h) (fun o ho => ?_) ?_ ?_
              rotate_left 2
              · cases ho
                refine ⟨rfl, rfl, fun W hW => ?_⟩
                go_simp; (try with_reducible rfl)
              · simp only [List.setIfInBounds_toArray, List.set_cons_succ, List.set_cons_zero]; exact rfl
              refine reg_take2 7 120 (v := ?_) (T' := ?_) (Later.refl _) (by kernel_rfl) (by kernel_rfl) (by kernel_rfl) (fun _ _ _ h => h) (fun o ho => ?_) ?_ ?_
              rotate_left 2
              · cases ho
                refine ⟨rfl, rfl, fun W hW => ?_⟩
                go_simp; (try with_reducible rfl)
              · simp only [List.setIfInBounds_toArray, List.set_cons_succ, List.set_cons_zero]; exact rfl
              refine reg_take2 10 123 (v := ?_) (T' := ?_) (Later.refl _) (by kernel_rfl) (by kernel_rfl) (by kernel_rfl) (fun _ _ _ h => h) (fun o ho => ?_) ?_ ?_
              rotate_left 2
              · cases ho
                refine ⟨rfl, rfl, fun W hW => ?_⟩
                go_simp; (try with_reducible rfl)
              · simp only [List.setIfInBounds_toArray, List.set_cons_succ, List.set_cons_zero]; exact rfl
              refine reg_take2 11 124 (v := ?_) (T' := ?_) (Later.refl _) (by kernel_rfl) (by kernel_rfl) (by kernel_rfl) (fun _ _ _ h => h) (fun o ho => ?_) ?_ ?_
              rotate_left 2
              · cases ho
                refine ⟨rfl, rfl, fun W hW => ?_⟩
                have hcv := RdB.str (RB0.out.below (GF.out.trans (hW.mono GF.out.size)))
                go_simp; (try with_reducible rfl)
              · simp only [List.setIfInBounds_toArray, List.set_cons_succ, List.set_cons_zero]; exact rfl
              refine reg_call2 8 121 (Later.refl _) (by kernel_rfl) 33 #[.slice AO OO.length cO] (fun o ho => by cases ho; exact ⟨rfl, rfl, fun W => by go_simp⟩) ?_
              refine (WRT.out hm _ _ (OwnX.rd (OwnX.on OM.out ((Below.refl _ w3).drewN 1)))).mono ?_
              rintro z x1 ⟨v8, rfl, ho8, hb8⟩
              have Y := Lib.hid ho8.rd
              have GF := Lib.hid (GF.out.trans (hb8.mono GF.out.size))
              refine ⟨_, _, rfl, hb8, (by simp only [List.setIfInBounds_toArray, List.set_cons_succ, List.set_cons_zero]; exact rfl), ?_⟩
              have hx31 : Below w3.heap.size w3 x1 := (show Below w3.heap.size w3 w3.drew from (Below.refl _ w3).drewN 1).trans hb8
              clear ho8 hb8
              refine reg_take2 9 122 (v := ?_) (T' := ?_) (Later.refl _) (by kernel_rfl) (by kernel_rfl) (by kernel_rfl) (fun _ _ _ h => h) (fun o ho => ?_) ?_ ?_
              rotate_left 2
              · cases ho
                refine ⟨rfl, rfl, fun W hW => ?_⟩
                have hcv := RdB.str (RdB.below Y.out hW)
                go_simp; (try with_reducible rfl)
              · simp only [List.setIfInBounds_toArray, List.set_cons_succ, List.set_cons_zero]; exact rfl
              refine reg_take2 12 125 (v := ?_) (T' := ?_) (Later.refl _) (by kernel_rfl) (by kernel_rfl) (by kernel_rfl) (fun _ _ _ h => h) (fun o ho => ?_) ?_ ?_
              rotate_left 2
              · cases ho
                refine ⟨rfl, rfl, fun W hW => ?_⟩
                go_simp; (try with_reducible rfl)
              · simp only [List.setIfInBounds_toArray, List.set_cons_succ, List.set_cons_zero]; exact rfl
              refine reg_take2 13 126 (v := ?_) (T' := ?_) (Later.refl _) (by kernel_rfl) (by kernel_rfl) (by kernel_rfl) (fun _ _ _ h => h) (fun o ho => ?_) ?_ ?_
              rotate_left 2
              · cases ho
                refine ⟨rfl, rfl, fun W hW => ?_⟩
                go_simp; (try with_reducible rfl)
              · simp only [List.setIfInBounds_toArray, List.set_cons_succ, List.set_cons_zero]; exact rfl
              refine reg_done (by kernel_rfl) ?_
              go_wp2_with fail
              go_ret2
              exact ⟨.slice none 0 0, by rw [hr.out]; rfl, by rw [hr.out]; exact OwnX.nil _ _, GF.out⟩
      · have hEe := Lib.hid (show E = e from by have hl : (bS x0 k).2 = e := LK.out.1; rw [hE.out]; exact (bS_end (by rw [hl]; exact he) hk).trans hl)
        have hr := Lib.hid (hR1.out (by rw [hEe.out]; exact he))
        have z0 : (e == 0) = false := by rw [beq_eq_false_iff_ne]; exact he
        have z1 : (e != 0) = true := by simpa [bne] using he
        have RES := Lib.hid (show res = ([], e) from by rw [hr.out, hEe.out])
        clear hlt
        rcases Nat.lt_or_ge k n with hkn | hkn
        case' inl =>
          have zlt : decide ((k : Int) < (n : Int)) = true := by simp; omega
        case' inr =>
          have zlt : decide ((k : Int) < (n : Int)) = false := by rw [decide_eq_false_iff_not]; omega
        all_goals
          go_wp2_with fail
          go_quiet (fail)
          have GF := Lib.hid (GF.out.drewN nq)
          go_wp2_with fail
          go_ret2
          exact ⟨.slice none 0 0, by rw [RES.out]; rfl, by rw [RES.out]; exact OwnX.nil _ _, GF.out⟩
end Go.Proofs.YtefjdmlmmoeoaaaGreat
