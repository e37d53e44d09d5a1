/- Layer 6: all versions of bytes, by the project. -/
import Derived.Test.YtmchiebpijnpiaaRi
namespace Go.Proofs.Ytmchiebpijnpiaa
open Go.RowKit
set_option linter.unusedVariables false

set_option maxHeartbeats 8000000 in
theorem row_all (v : Value) (l : List UInt8) (w : World) (h : RdB w w.heap.size v l) (hl : l.length ≤ 100000) :
    Calls Try.prog 20 #[v] w fun r w' => ∃ v', r = .returned (.tuple #[v', .int .i64 (allV l).2]) ∧ OwnVr w' w.heap.size v' (allV l).1 ∧ Below w.heap.size w w' := by
  have hst := Lib.hid (show allV l = if (stepN l 0).2.2 ≠ 0 then ([], (stepN l 0).2.2) else allGo (stepN l 0).1 (stepN l 0).2.1 from rfl)
  have VRD := Lib.hid (fun w h => vary_read v l w h (by omega))
  have NU := Lib.hid (fun w base g p h => number_any w base g p l 0 h (by omega))
  have TK := Lib.hid (fun w base g p q (hq : q.length ≤ l.length) h => row_next w base g p q 0 h (by omega))
  have hbd := stepN_bd l 0
  have hsuf := (step_suf l 0).length_le
  have R := Lib.hid h
  have hzero : (stepN l 0).2.2 ≠ 0 → (stepN l 0).1 = 0 := fun hne => by
    have h0 := rdN_zero l
    unfold stepN at hne ⊢
    rw [if_neg (by simp)] at hne ⊢
    split
    · rfl
    · rename_i h1; rw [if_neg h1] at hne; exact absurd rfl hne
  generalize allV l = res at *
  generalize stepN l 0 = sn at *
  obtain ⟨n, l1, e1⟩ := sn
  simp only at hst hbd NU hsuf hzero
  have hbd2 : (n : Int) ≤ 4611686018427387903 := by omega
  have HZERO := Lib.hid hzero
  clear h hbd hzero
  go_enter Try.func20, Try.ntmps20
  go_wp2_with fail
  refine (VRD.out _ R.out).mono ?_
  rintro z w1 ⟨p, g, rfl, hd, hb⟩
  have hg1 := hd.lt
  have hgf := hd.from'
  have D := Lib.hid hd
  have G := Lib.hid hb
  clear hd hb
  go_wp2_with fail
  refine (NU.out _ _ _ _ D.out).mono ?_
  rintro z w2 ⟨rfl, hd, hg⟩
  have D := Lib.hid hd
  have G := Lib.hid (G.out.grown hg G.out.size (by intro k hk; injection hk with hk; omega))
  clear hd hg
  by_cases he : e1 = 0
  · subst he
    rw [if_neg (by simp)] at hst
    go_wp2_with fail
    go_loopw [5, 12] (fun x i wr => ∃ (k : Nat) (acc : List Ver) (q : List UInt8), i = .int .i64 k ∧ k ≤ n ∧ acc.length + q.length ≤ l.length ∧ OwnVr wr w2.heap.size x acc ∧ RdR wr w.heap.size g p q 0 ∧ res = preV acc (allGo (n - k) q) ∧ w2.grownBy wr (some g)) (fun _ i _ => n - (intOf i).toNat)
    case atStart => exact ⟨0, [], l1, rfl, by omega, by simpa using hsuf, OwnX.nil _ _, D.out, by rw [hst.out, allGo_nil]; rfl, World.grownBy.refl _ _⟩
    case round =>
      obtain ⟨k, acc, q, rfl, hk, hal, ho, hd, hr, hg⟩ := hrel
      have O := Lib.hid ho
      have DR := Lib.hid hd
      have GW := Lib.hid hg
      have HR := Lib.hid hr
      have HAL := Lib.hid hal
      clear ho hd hg hr hal
      by_cases hlt : k < n
      · have zlt : decide ((k : Int) < (n : Int)) = true := by simp; omega
        have hless := take_less q 0
        have hgo := allGo_step (n - (k + 1)) q acc
        rw [show n - (k + 1) + 1 = n - k from by omega, ← HR.out] at hgo
        have TKK := Lib.hid (TK.out wr _ _ _ q (by have := HAL.out; omega) DR.out)
        generalize takeL q 0 = tk at *
        generalize valL q 0 = vl at *
        obtain ⟨⟨kk, b, e, s, ⟨x, y⟩, u, gg⟩, te⟩ := tk
        obtain ⟨vx, l2, ve⟩ := vl
        unfold verV at TKK
        simp only at hless hgo TKK
        have HLESS := Lib.hid hless
        have HGO := Lib.hid hgo
        clear hless hgo
        go_wp2_with fail
        refine TKK.out.mono ?_
        rintro z w3 ⟨rfl, hd3, hg3⟩
        have hsz := GW.out.size
        have O := Lib.hid (O.out.keep hg3 (by
          cases hb : u5.ownBlock with
          | none => exact .inl rfl
          | some b' => exact .inr (fun e2 => by injection e2 with e2; have := O.out.base b' hb; have := D.out.lt; omega)))
        have GW := Lib.hid (GW.out.trans hg3)
        have BX := Lib.hid (Box.new w3 #[.string kk, .int .i64 b, .int .i64 e, .int .i64 s, .int .i64 x, .int .i64 y, .string u, .bool gg] 27 _ rfl)
        have O := Lib.hid (O.out.on (alloc_below w3 (.cells #[.string kk, .int .i64 b, .int .i64 e, .int .i64 s, .int .i64 x, .int .i64 y, .string u, .bool gg] 27)))
        have DR := Lib.hid (hd3.on (alloc_below w3 (.cells #[.string kk, .int .i64 b, .int .i64 e, .int .i64 s, .int .i64 x, .int .i64 y, .string u, .bool gg] 27)))
        have GW := Lib.hid (GW.out.trans (grown_of_below (alloc_below w3 (.cells #[.string kk, .int .i64 b, .int .i64 e, .int .i64 s, .int .i64 x, .int .i64 y, .string u, .bool gg] 27))))
        clear hd3 hg3 hsz TKK
        by_cases hte : te = 0
        · subst hte
          obtain ⟨hve, -, hll⟩ := HLESS.out rfl
          subst hve
          have hgo := HGO.out
          rw [if_neg (by simp)] at hgo
          have HR := Lib.hid hgo
          have hal := HAL.out
          have HAL := Lib.hid (show (acc ++ [(⟨kk, b, e, s, (x, y), u, gg⟩ : Ver)]).length + l2.length ≤ l.length from by rw [List.length_append, List.length_singleton]; omega)
          have hal1 := Lib.hid (show acc.length + 1 ≤ 1000000000 from by omega)
          clear hgo hll hal
          generalize hw4 : w3.alloc (.cells #[.string kk, .int .i64 b, .int .i64 e, .int .i64 s, .int .i64 x, .int .i64 y, .string u, .bool gg] 27) = w4 at *
          have c0 := BX.out.cell 0 (.string kk) rfl
          have c1 := BX.out.cell 1 (.int .i64 b) rfl
          have c2 := BX.out.cell 2 (.int .i64 e) rfl
          have c3 := BX.out.cell 3 (.int .i64 s) rfl
          have c4 := BX.out.cell 4 (.int .i64 x) rfl
          have c5 := BX.out.cell 5 (.int .i64 y) rfl
          have c6 := BX.out.cell 6 (.string u) rfl
          have c7 := BX.out.cell 7 (.bool gg) rfl
          have hsz := Lib.hid GW.out.size
          have hw2 := Lib.hid D.out.lt
          go_wp2_with (at_builtin; refine wpl_appX rfl (.tmp 22) (.tmp 24) rfl Try.underlying46 ver_info rfl w2.heap.size _ acc [(⟨kk, b, e, s, (x, y), u, gg⟩ : Ver)] _ _ _ rfl rfl rfl rfl O.out hsz.out hal1.out (by decide) ?_; intro v3 w5 ho3 hg3 hb3)
          have DZ := Lib.hid (DR.out.below hb3 hw2.out)
          have GZ := Lib.hid (grown_then_below GW.out hb3)
          have OZ := Lib.hid ho3
          clear ho3 hg3 hb3 hsz hw2
          go_roundw
          case rel => exact ⟨k + 1, _, l2, by go_num, by omega, HAL.out, OZ.out, DZ.out, HR.out, GZ.out⟩
          case measure => simp [intOf]; omega
        · have hte2 : (te != 0) = true := by simpa [bne] using hte
          have hgo := HGO.out
          rw [if_pos hte] at hgo
          have HR := Lib.hid hgo
          clear hgo HGO HLESS
          have GF := Lib.hid (G.out.grown GW.out G.out.size (by intro k hk; injection hk with hk; omega))
          go_wp2_with fail
          go_ret2
          exact ⟨.slice none 0 0, by (try rw [HR.out]) <;> rfl, by rw [HR.out]; exact OwnX.nil _ _, GF.out⟩
      · have hkn : k = n := by omega
        have hgo := HR.out
        rw [show n - k = 0 from by omega, allGo_end] at hgo
        have GF := Lib.hid (G.out.grown GW.out G.out.size (by intro k hk; injection hk with hk; omega))
        have RR := Lib.hid (rest_any _ _ _ _ _ _ DR.out)
        have ER := Lib.hid (err_any _ _ _ _ _ _ DR.out)
        have zk : decide ((n : Int) < (n : Int)) = false := by simp
        subst hkn
        by_cases hrest : 0 < q.length
        · rw [if_pos hrest] at hgo
          have HR := Lib.hid hgo
          clear hgo
          have zr : decide ((0 : Int) < (q.length : Int)) = true := by rw [decide_eq_true_iff]; omega
          generalize q.length = rest at *
          go_wp2_with fail
          refine ER.out.mono ?_
          rintro z w3 ⟨rfl, rfl⟩
          go_wp2_with fail
          refine RR.out.mono ?_
          rintro z w3 ⟨rfl, rfl⟩
          go_wp2_with fail
          go_ret2
          exact ⟨.slice none 0 0, by (try rw [HR.out]) <;> rfl, by rw [HR.out]; exact OwnX.nil _ _, GF.out⟩
        · rw [if_neg hrest] at hgo
          have HR := Lib.hid hgo
          clear hgo
          rw [show (q.length : Int) = 0 from by omega] at RR
          go_wp2_with fail
          refine ER.out.mono ?_
          rintro z w3 ⟨rfl, rfl⟩
          go_wp2_with fail
          refine RR.out.mono ?_
          rintro z w3 ⟨rfl, rfl⟩
          go_wp2_with fail
          go_ret2
          exact ⟨u5, by (try rw [HR.out]) <;> rfl, by rw [HR.out]; exact OwnX.mono O.out G.out.size, GF.out⟩
  · have hne : (e1 != 0) = true := by simpa [bne] using he
    rw [if_pos he] at hst
    have hn0 := HZERO.out he
    subst hn0
    have ER := Lib.hid (fun W h => err_any W w.heap.size g p l1 e1 h)
    go_wp2_with fail
    go_loopw [12] (fun i wr => i = .int .i64 0 ∧ wr = w2) (fun _ _ => 0)
    case atStart => exact ⟨rfl, rfl⟩
    case round =>
      obtain ⟨rfl, rfl⟩ := hrel
      go_wp2_with fail
      refine (ER.out _ D.out).mono ?_
      rintro z w3 ⟨rfl, rfl⟩
      go_wp2_with fail
      refine (ER.out _ D.out).mono ?_
      rintro z w3 ⟨rfl, rfl⟩
      go_wp2_with fail
      go_ret2
      exact ⟨.slice none 0 0, by (try rw [hst.out]) <;> rfl, by rw [hst.out]; exact OwnX.nil _ _, G.out⟩
end Go.Proofs.Ytmchiebpijnpiaa
