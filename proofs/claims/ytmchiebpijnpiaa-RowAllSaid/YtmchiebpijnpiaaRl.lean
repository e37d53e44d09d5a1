/- Layer 6: all versions of bytes, by the document. -/
import Derived.Test.YtmchiebpijnpiaaRk
namespace Go.Proofs.Ytmchiebpijnpiaa
open Go.RowKit
set_option linter.unusedVariables false

/-- The document's reader, just made. -/
theorem RdQ.made (w : World) (A : Option Addr) (c : Nat) (l : List UInt8) (h : RdB w w.heap.size (.slice A l.length c) l) :
    RdQ (w.alloc (.cells #[.slice A l.length c, .int .i64 0, .int .i64 0] 42)) w.heap.size (.pointer (some ⟨w.heap.size, 0, none⟩)) l 0 0 := by
  have hn := heap_alloc_new w (.cells #[.slice A l.length c, .int .i64 0, .int .i64 0] 42)
  refine ⟨rfl, by simp, ?_, ?_, ?_, ?_, Nat.zero_le _, .slice A l.length c, ?_, h.below (alloc_below w _)⟩
  · rw [cell_of_row _ _ _ _ _ (0, 0) hn]; rfl
  · rw [cell_of_row _ _ _ _ _ (0, 0) hn]; rfl
  · simp
  · simp
  · rw [cell_of_row _ _ _ _ _ (0, 0) hn]; rfl

set_option maxHeartbeats 8000000 in
theorem ref6_all (v : Value) (l : List UInt8) (w : World) (h : RdB w w.heap.size v l) (hl : l.length ≤ 100000) :
    Calls Try.prog 23 #[v] w fun r w' => ∃ v', r = .returned (.tuple #[v', .int .i64 (allV l).2]) ∧ OwnVr w' w.heap.size v' (allV l).1 ∧ Below w.heap.size w w' := by
  have hst := Lib.hid (show allV l = if (stepN l 0).2.2 ≠ 0 then ([], (stepN l 0).2.2) else allGo (stepN l 0).1 (stepN l 0).2.1 from rfl)
  obtain ⟨A0, c0, rfl, -⟩ := id h
  have D := Lib.hid (RdQ.made w A0 c0 l h)
  have L0 : Lk (l, 0) l (0, 0) := ⟨rfl, fun _ => rfl⟩
  obtain ⟨k1, k2⟩ := link_step L0
  have K1 := Lib.hid k1
  have K2 := Lib.hid k2
  clear k1 k2 L0
  have NU := Lib.hid (fun w g p h => number_doc w g p l 0 0 h (by omega))
  have TK := Lib.hid (fun w g p q h => ref6_take w g p l q 0 h (by omega))
  have RS := Lib.hid (fun w g p q e h => rest_doc w g p l q e h (by omega))
  have hbd := stepN_bd l 0
  have hsuf := (step_suf l 0).length_le
  have G := Lib.hid (alloc_below w (.cells #[.slice A0 l.length c0, .int .i64 0, .int .i64 0] 42))
  simp only at K1 K2 hst hbd hsuf
  generalize allV l = res at *
  generalize stepN l 0 = sn at *
  generalize stepQ l 0 0 = sq at *
  obtain ⟨n, l1, e1⟩ := sn
  obtain ⟨n', q1, e1'⟩ := sq
  unfold Lk at K2
  simp only at K1 K2 hst hbd NU hsuf
  obtain ⟨hk1, hk2⟩ := K2.out
  have hk0 := K1.out
  subst hk0 hk1
  have hbd2 : (n : Int) ≤ 4611686018427387903 := by omega
  clear K1 K2 h hbd
  have HK2 := Lib.hid hk2
  clear hk2
  go_enter Try.func23, Try.ntmps23
  go_wp2_with fail
  generalize hw1 : w.alloc (.cells #[.slice A0 l.length c0, .int .i64 0, .int .i64 0] 42) = w1 at *
  have hg1 := D.out.lt
  refine (NU.out _ _ _ D.out).mono ?_
  rintro z w2 ⟨rfl, hd, hg⟩
  have D := Lib.hid hd
  have G := Lib.hid (G.out.grown hg G.out.size (by intro k hk; injection hk with hk; omega))
  clear hd hg hw1
  by_cases he : e1 = 0
  · subst he
    rw [if_neg (by simp)] at hst
    have ce := D.out.err
    go_wp2_with fail
    clear ce
    go_loopw [6, 7] (fun x i wr => ∃ (k : Nat) (acc : List Ver) (q : Nat), i = .int .i64 k ∧ k ≤ n ∧ acc.length + (l.length - q) ≤ l.length ∧ OwnVr wr w2.heap.size x acc ∧ RdQ wr w.heap.size (.pointer (some ⟨w.heap.size, 0, none⟩)) l q 0 ∧ res = preV acc (allGo (n - k) (l.drop q)) ∧ w2.grownBy wr (some w.heap.size)) (fun _ i _ => n - (intOf i).toNat)
    case atStart => exact ⟨0, [], q1, rfl, by omega, by simp, OwnX.nil _ _, D.out, by rw [hst.out, allGo_nil, ← HK2.out (by simp)]; rfl, World.grownBy.refl _ _⟩
    case round =>
      obtain ⟨k, acc, q, rfl, hk, hal, ho, hd, hr, hg⟩ := hrel
      have O := Lib.hid ho
      have DR := Lib.hid hd
      have GW := Lib.hid hg
      have HR := Lib.hid hr
      have HAL := Lib.hid hal
      clear ho hd hg hr hal
      by_cases hlt : k < n
      · have zlt : decide ((k : Int) < (n : Int)) = true := by simp; omega
        have LK : Lk (l.drop q, 0) l (q, 0) := ⟨rfl, fun _ => rfl⟩
        have ht := link_take LK
        have hv := (link_val LK).2
        have hless := take_less (l.drop q) 0
        have hgo := allGo_step (n - (k + 1)) (l.drop q) acc
        rw [show n - (k + 1) + 1 = n - k from by omega, ← HR.out] at hgo
        have TKK := Lib.hid (TK.out wr _ _ q DR.out)
        simp only at ht hv
        rw [← ht] at TKK
        generalize takeL (l.drop q) 0 = tk at *
        generalize valL (l.drop q) 0 = vl at *
        generalize valQ l q 0 = vq at *
        obtain ⟨⟨kk, b, e, s, ⟨x, y⟩, u, gg⟩, te⟩ := tk
        obtain ⟨vx, l2, ve⟩ := vl
        obtain ⟨vx', q2, ve'⟩ := vq
        unfold Lk at hv
        unfold verV at TKK
        simp only at hv hless hgo TKK
        obtain ⟨hv1, hv2⟩ := hv
        subst hv1
        have HV2 := Lib.hid hv2
        have HLESS := Lib.hid hless
        have HGO := Lib.hid hgo
        clear ht LK hv2 hless hgo
        go_wp2_with fail
        refine TKK.out.mono ?_
        rintro z w3 ⟨rfl, hd3, hg3⟩
        have hsz := GW.out.size
        have O := Lib.hid (O.out.keep hg3 (by
          cases hb : u6.ownBlock with
          | none => exact .inl rfl
          | some b' => exact .inr (fun e2 => by injection e2 with e2; have := O.out.base b' hb; have := G.out.size; have := D.out.lt; omega)))
        have GW := Lib.hid (GW.out.trans hg3)
        have BX := Lib.hid (Box.new w3 #[.string kk, .int .i64 b, .int .i64 e, .int .i64 s, .int .i64 x, .int .i64 y, .string u, .bool gg] 27 _ rfl)
        have O := Lib.hid (O.out.on (alloc_below w3 (.cells #[.string kk, .int .i64 b, .int .i64 e, .int .i64 s, .int .i64 x, .int .i64 y, .string u, .bool gg] 27)))
        have DR := Lib.hid (hd3.on (alloc_below w3 (.cells #[.string kk, .int .i64 b, .int .i64 e, .int .i64 s, .int .i64 x, .int .i64 y, .string u, .bool gg] 27)))
        have GW := Lib.hid (GW.out.trans (grown_of_below (alloc_below w3 (.cells #[.string kk, .int .i64 b, .int .i64 e, .int .i64 s, .int .i64 x, .int .i64 y, .string u, .bool gg] 27))))
        clear hd3 hg3 hsz TKK
        by_cases hte : te = 0
        · subst hte
          obtain ⟨hve, -, hll⟩ := HLESS.out rfl
          subst hve
          have hq2 := HV2.out rfl
          have hgo := HGO.out
          rw [if_neg (by simp), hq2] at hgo
          have HR := Lib.hid hgo
          have hll2 := hll
          rw [hq2, List.length_drop, List.length_drop] at hll2
          have hal := HAL.out
          have hql := DR.out.le
          have HAL := Lib.hid (show (acc ++ [(⟨kk, b, e, s, (x, y), u, gg⟩ : Ver)]).length + (l.length - q2) ≤ l.length from by rw [List.length_append, List.length_singleton]; omega)
          have hal1 := Lib.hid (show acc.length + 1 ≤ 1000000000 from by omega)
          clear hgo hll hll2 hal hq2 hql
          generalize hw4 : w3.alloc (.cells #[.string kk, .int .i64 b, .int .i64 e, .int .i64 s, .int .i64 x, .int .i64 y, .string u, .bool gg] 27) = w4 at *
          have c0 := BX.out.cell 0 (.string kk) rfl
          have c1 := BX.out.cell 1 (.int .i64 b) rfl
          have c2 := BX.out.cell 2 (.int .i64 e) rfl
          have c3 := BX.out.cell 3 (.int .i64 s) rfl
          have c4 := BX.out.cell 4 (.int .i64 x) rfl
          have c5 := BX.out.cell 5 (.int .i64 y) rfl
          have c6 := BX.out.cell 6 (.string u) rfl
          have c7 := BX.out.cell 7 (.bool gg) rfl
          have hsz := Lib.hid GW.out.size
          have hw2 : w.heap.size < w2.heap.size := D.out.lt
          go_wp2_with (at_builtin; go_loud (refine wpl_appX rfl (.tmp 37) (.tmp 39) rfl Try.underlying46 ver_info rfl w2.heap.size _ acc [(⟨kk, b, e, s, (x, y), u, gg⟩ : Ver)] _ _ _ rfl rfl rfl rfl O.out hsz.out hal1.out (by decide) ?_); intro v3 w5 ho3 hg3 hb3)
          have DZ := Lib.hid (DR.out.below hb3 (by omega))
          have GZ := Lib.hid (grown_then_below GW.out hb3)
          have OZ := Lib.hid ho3
          clear ho3 hg3 hb3 hsz hw2
          go_roundw
          case rel => exact ⟨k + 1, _, q2, by go_num, by omega, HAL.out, OZ.out, DZ.out, HR.out, GZ.out⟩
          case measure => simp [intOf]; omega
        · have hte2 : (te != 0) = true := by simpa [bne] using hte
          have hgo := HGO.out
          rw [if_pos hte] at hgo
          have HR := Lib.hid hgo
          clear hgo HGO HLESS
          have GF := Lib.hid (G.out.grown GW.out G.out.size (by intro k hk; injection hk with hk; omega))
          go_wp2_with fail
          go_ret2
          exact ⟨.slice none 0 0, by (try rw [HR.out]) <;> rfl, by rw [HR.out]; exact OwnX.nil _ _, GF.out⟩
      · have hkn : k = n := by omega
        have hgo := HR.out
        rw [show n - k = 0 from by omega, allGo_end, List.length_drop] at hgo
        have GF := Lib.hid (G.out.grown GW.out G.out.size (by intro k hk; injection hk with hk; omega))
        have RR := Lib.hid (RS.out _ _ _ _ _ DR.out)
        rw [if_pos rfl] at RR
        subst hkn
        by_cases hrest : 0 < l.length - q
        · rw [if_pos hrest] at hgo
          have HR := Lib.hid hgo
          clear hgo
          have zr : decide ((0 : Int) < ((l.length - q : Nat) : Int)) = true := by simp; omega
          generalize l.length - q = rest at *
          go_wp2_with fail
          refine RR.out.mono ?_
          rintro z w3 ⟨rfl, hb3⟩
          have GF := Lib.hid (GF.out.trans (hb3.mono GF.out.size))
          clear hb3
          go_wp2_with fail
          go_ret2
          exact ⟨.slice none 0 0, by (try rw [HR.out]) <;> rfl, by rw [HR.out]; exact OwnX.nil _ _, GF.out⟩
        · rw [if_neg hrest] at hgo
          have HR := Lib.hid hgo
          clear hgo
          have zr : decide ((0 : Int) < ((l.length - q : Nat) : Int)) = false := by simp; omega
          generalize l.length - q = rest at *
          go_wp2_with fail
          refine RR.out.mono ?_
          rintro z w3 ⟨rfl, hb3⟩
          have GF := Lib.hid (GF.out.trans (hb3.mono GF.out.size))
          have O := Lib.hid (O.out.on hb3)
          clear hb3
          go_wp2_with fail
          go_ret2
          exact ⟨u6, by (try rw [HR.out]) <;> rfl, by rw [HR.out]; exact OwnX.mono O.out G.out.size, GF.out⟩
  · have hne : (e1 != 0) = true := by simpa [bne] using he
    rw [if_pos he] at hst
    have ce := D.out.err
    go_wp2_with fail
    go_quiet (fail)
    go_wp2_with fail
    go_ret2
    exact ⟨.slice none 0 0, by (try rw [hst.out]) <;> rfl, by rw [hst.out]; exact OwnX.nil _ _, G.out.drewN _⟩
end Go.Proofs.Ytmchiebpijnpiaa
