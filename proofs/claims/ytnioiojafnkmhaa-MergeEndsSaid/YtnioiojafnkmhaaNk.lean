/- Layer 10, the project's: of things that are alike the last one; what the laws ask. -/
import Derived.Test.YtnioiojafnkmhaaNhV
import Derived.Test.YtnioiojafnkmhaaNhI
import Derived.Test.YtnioiojafnkmhaaNhS
namespace Go.Proofs.Ytnioiojafnkmhaa
open Go.RowKit
set_option linter.unusedVariables false

theorem all_k : AllK := fun va ls w ha hs hl => all_ver va ls w ha hs hl
theorem num_k : NumK := by
  intro va ls w ha hs hl
  have K := Lib.hid (all_int va ls w ha hs hl)
  unfold cmpI at K
  go_enter Try.func18, Try.ntmps18
  go_wp2_with fail
  refine K.out.mono ?_
  rintro z w1 ⟨v1, rfl, ho, hb⟩
  go_wp2_with fail
  go_ret
  exact ⟨v1, rfl, ho, hb⟩
theorem str_k : StrK := by
  intro va ls w ha hs hl
  have K := Lib.hid (all_str va ls w ha hs hl)
  unfold cmpS at K
  go_enter Try.func19, Try.ntmps19
  go_wp2_with fail
  refine K.out.mono ?_
  rintro z w1 ⟨v1, rfl, ho, hb⟩
  go_wp2_with fail
  go_ret
  exact ⟨v1, rfl, ho, hb⟩
theorem alike_cmp (a b : Ver) : alikeV a b = (cmpV a b == 0) := by
  rw [ver_cmp.zero]
  unfold alikeV
  cases lessV a b <;> cases lessV b a <;> rfl
set_option maxHeartbeats 4000000 in
set_option maxRecDepth 100000 in
theorem once_k : OnceK := by
  intro va l w ha hl
  have HA := Lib.hid ha
  have HL := Lib.hid hl
  obtain ⟨A, ca, rfl, hla, hca, -⟩ := ha
  clear hl
  unfold cmpF
  go_enter Try.func21, Try.ntmps21
  go_wp2_with fail
  go_loopw [5, 10] (fun x i wr => ∃ k : Nat, i = .int .i64 k ∧ k ≤ l.length ∧ OwnVr wr w.heap.size x (onceTo alikeV l k) ∧ Below w.heap.size w wr) (fun _ i _ => l.length - (intOf i).toNat)
  case atStart => exact ⟨0, rfl, Nat.zero_le _, OwnX.nil _ _, Below.refl _ _⟩
  case round =>
    obtain ⟨k, rfl, hk, ho, hbw⟩ := hrel
    rename World => wo
    have O := Lib.hid ho
    have G := Lib.hid hbw
    clear ho hbw
    by_cases hlt : k < l.length
    · have zl : decide ((k : Int) < (l.length : Int)) = true := by simp; omega
      have hw64 : IntKind.i64.wrap ((k : Int) + 1) = (k : Int) + 1 := by rw [IntKind.wrap_i64]; have := HL.out; omega
      obtain ⟨b, o, rfl, -⟩ := RdVr.here HA.out k hlt
      have hal := Lib.hid (show (onceTo alikeV l k).length + 1 ≤ 1000000000 from by have := once_len alikeV l k; have := HL.out; omega)
      obtain ⟨p, hp⟩ : ∃ p, l[k] = p := ⟨_, rfl⟩
      obtain ⟨kk, bb, ee, ss, ⟨xx, yy⟩, uu, gg⟩ := p
      have PP := Lib.hid hp
      clear hp
      obtain ⟨-, e0, e1, e2, e3, e4, e5, e6, e7⟩ := RdVr.cells1 (HA.out.below G.out) k hlt PP.out
      have BX := Lib.hid (Box.new wo #[.string kk, .int .i64 bb, .int .i64 ee, .int .i64 ss, .int .i64 xx, .int .i64 yy, .string uu, .bool gg] 33 wo.heap.size rfl)
      have hb0 := alloc_below wo (.cells #[.string kk, .int .i64 bb, .int .i64 ee, .int .i64 ss, .int .i64 xx, .int .i64 yy, .string uu, .bool gg] 33)
      have O := Lib.hid (O.out.on hb0)
      have G := Lib.hid (G.out.trans (hb0.mono G.out.size))
      clear hb0
      by_cases hlast : k + 1 = l.length
      · have ze : ((k : Int) + 1 == (l.length : Int)) = true := by rw [beq_iff_eq]; omega
        have zen : ((k + 1 : Nat) == l.length) = true := by rw [beq_iff_eq]; omega
        have ST := Lib.hid (once_last (al := alikeV) hlt hlast PP.out)
        clear hlast
        go_wp2_with fail
        generalize wo.alloc (.cells #[.string kk, .int .i64 bb, .int .i64 ee, .int .i64 ss, .int .i64 xx, .int .i64 yy, .string uu, .bool gg] 33) = W1 at *
        go_quiet (fail)
        have O := Lib.hid (O.out.on ((Below.refl _ W1).drewN nq))
        have G := Lib.hid (G.out.drewN nq)
        have BX := Lib.hid (BX.out.drewN nq)
        have x0 := BX.out.cell 0 (.string kk) rfl
        have x1 := BX.out.cell 1 (.int .i64 bb) rfl
        have x2 := BX.out.cell 2 (.int .i64 ee) rfl
        have x3 := BX.out.cell 3 (.int .i64 ss) rfl
        have x4 := BX.out.cell 4 (.int .i64 xx) rfl
        have x5 := BX.out.cell 5 (.int .i64 yy) rfl
        have x6 := BX.out.cell 6 (.string uu) rfl
        have x7 := BX.out.cell 7 (.bool gg) rfl
        clear e0 e1 e2 e3 e4 e5 e6 e7
        go_wp2_with (at_builtin; refine wpl_appX rfl (.tmp 31) (.tmp 33) rfl Try.underlying24 ver_info rfl w.heap.size _ (onceTo alikeV l k) [(⟨kk, bb, ee, ss, (xx, yy), uu, gg⟩ : Ver)] _ _ _ rfl rfl rfl rfl O.out G.out.size hal.out (by decide) ?_; intro v5 w5 ho5 hg5 hb5)
        have OZ := Lib.hid (show OwnVr w5 w.heap.size v5 (onceTo alikeV l (k + 1)) from by rw [ST.out]; exact ho5)
        have GZ := Lib.hid (G.out.trans hb5)
        clear ho5 hg5 hb5
        go_roundw
        case rel => exact ⟨k + 1, by go_num, by omega, OZ.out, GZ.out⟩
        case measure => simp [intOf]; omega
      · have ze : ((k : Int) + 1 == (l.length : Int)) = false := by rw [beq_eq_false_iff_ne]; omega
        have zen : ((k + 1 : Nat) == l.length) = false := by rw [beq_eq_false_iff_ne]; omega
        have hlt1 : k + 1 < l.length := by omega
        have hz1 : 0 ≤ (k : Int) + 1 := by omega
        have hi1 : (k : Int) + 1 < (l.length : Int) := by omega
        obtain ⟨q, hq⟩ : ∃ q, l[k + 1] = q := ⟨_, rfl⟩
        obtain ⟨kk', bb', ee', ss', ⟨xx', yy'⟩, uu', gg'⟩ := q
        have QQ := Lib.hid hq
        have ST := Lib.hid (once_step (al := alikeV) hlt hlt1 PP.out hq)
        rw [alike_cmp] at ST
        have AK := Lib.hid (fun w => ask_ver ⟨kk, bb, ee, ss, (xx, yy), uu, gg⟩ ⟨kk', bb', ee', ss', (xx', yy'), uu', gg'⟩ w)
        unfold verV cmpF at AK
        simp only at AK
        generalize cmpV ⟨kk, bb, ee, ss, (xx, yy), uu, gg⟩ ⟨kk', bb', ee', ss', (xx', yy'), uu', gg'⟩ = n at AK ST
        clear hq hlast
        go_wp2_with fail
        generalize wo.alloc (.cells #[.string kk, .int .i64 bb, .int .i64 ee, .int .i64 ss, .int .i64 xx, .int .i64 yy, .string uu, .bool gg] 33) = W1 at *
        obtain ⟨-, d0, d1, d2, d3, d4, d5, d6, d7⟩ := RdVr.cells1 (HA.out.below G.out) (k + 1) hlt1 QQ.out
        have x0 := BX.out.cell 0 (.string kk) rfl
        have x1 := BX.out.cell 1 (.int .i64 bb) rfl
        have x2 := BX.out.cell 2 (.int .i64 ee) rfl
        have x3 := BX.out.cell 3 (.int .i64 ss) rfl
        have x4 := BX.out.cell 4 (.int .i64 xx) rfl
        have x5 := BX.out.cell 5 (.int .i64 yy) rfl
        have x6 := BX.out.cell 6 (.string uu) rfl
        have x7 := BX.out.cell 7 (.bool gg) rfl
        clear e0 e1 e2 e3 e4 e5 e6 e7
        have HI : (fun X => X = W1.drew) W1.drew := rfl
        refine regk_start [13] (fun X => X = W1.drew) (by kernel_rfl) ?_
        refine regk_free 0 15 (v := ?_) (T' := ?_) (fun _ => HI) (by kernel_rfl) (by kernel_rfl) (by kernel_rfl) (by kernel_rfl) (fun _ _ _ h => h) (fun o ho => ?_) ?_ ?_
        rotate_left 2
        · cases ho
          refine ⟨rfl, rfl, fun W => ?_⟩
          go_simp; (try with_reducible rfl)
        · simp only [List.setIfInBounds_toArray, List.set_cons_succ, List.set_cons_zero]; exact rfl
        refine regk_free 1 16 (v := ?_) (T' := ?_) (fun _ => HI) (by kernel_rfl) (by kernel_rfl) (by kernel_rfl) (by kernel_rfl) (fun _ _ _ h => h) (fun o ho => ?_) ?_ ?_
        rotate_left 2
        · cases ho
          refine ⟨rfl, rfl, fun W => ?_⟩
          go_simp; (try with_reducible rfl)
        · simp only [List.setIfInBounds_toArray, List.set_cons_succ, List.set_cons_zero]; exact rfl
        refine regk_free 2 17 (v := ?_) (T' := ?_) (fun _ => HI) (by kernel_rfl) (by kernel_rfl) (by kernel_rfl) (by kernel_rfl) (fun _ _ _ h => h) (fun o ho => ?_) ?_ ?_
        rotate_left 2
        · cases ho
          refine ⟨rfl, rfl, fun W => ?_⟩
          go_simp; (try with_reducible rfl)
        · simp only [List.setIfInBounds_toArray, List.set_cons_succ, List.set_cons_zero]; exact rfl
        refine regk_free 3 18 (v := ?_) (T' := ?_) (fun _ => HI) (by kernel_rfl) (by kernel_rfl) (by kernel_rfl) (by kernel_rfl) (fun _ _ _ h => h) (fun o ho => ?_) ?_ ?_
        rotate_left 2
        · cases ho
          refine ⟨rfl, rfl, fun W => ?_⟩
          go_simp; (try with_reducible rfl)
        · simp only [List.setIfInBounds_toArray, List.set_cons_succ, List.set_cons_zero]; exact rfl
        refine regk_free 4 19 (v := ?_) (T' := ?_) (fun _ => HI) (by kernel_rfl) (by kernel_rfl) (by kernel_rfl) (by kernel_rfl) (fun _ _ _ h => h) (fun o ho => ?_) ?_ ?_
        rotate_left 2
        · cases ho
          refine ⟨rfl, rfl, fun W => ?_⟩
          go_simp; (try with_reducible rfl)
        · simp only [List.setIfInBounds_toArray, List.set_cons_succ, List.set_cons_zero]; exact rfl
        refine regk_free 5 20 (v := ?_) (T' := ?_) (fun _ => HI) (by kernel_rfl) (by kernel_rfl) (by kernel_rfl) (by kernel_rfl) (fun _ _ _ h => h) (fun o ho => ?_) ?_ ?_
        rotate_left 2
        · cases ho
          refine ⟨rfl, rfl, fun W => ?_⟩
          go_simp; (try with_reducible rfl)
        · simp only [List.setIfInBounds_toArray, List.set_cons_succ, List.set_cons_zero]; exact rfl
        refine regk_free 6 21 (v := ?_) (T' := ?_) (fun _ => HI) (by kernel_rfl) (by kernel_rfl) (by kernel_rfl) (by kernel_rfl) (fun _ _ _ h => h) (fun o ho => ?_) ?_ ?_
        rotate_left 2
        · cases ho
          refine ⟨rfl, rfl, fun W => ?_⟩
          go_simp; (try with_reducible rfl)
        · simp only [List.setIfInBounds_toArray, List.set_cons_succ, List.set_cons_zero]; exact rfl
        refine regk_take 7 22 (v := ?_) (T' := ?_) HI (by kernel_rfl) (by kernel_rfl) (by kernel_rfl) (by kernel_rfl) (by kernel_rfl) (by kernel_rfl) (fun _ _ _ h => h) (fun o ho => ?_) ?_ ?_
        rotate_left 2
        · cases ho
          refine ⟨rfl, rfl, fun W hW => ?_⟩
          have hW := (show W = _ from hW); subst hW; go_simp; (try with_reducible rfl)
        · simp only [List.setIfInBounds_toArray, List.set_cons_succ, List.set_cons_zero]; exact rfl
        refine regk_free 8 23 (v := ?_) (T' := ?_) (fun _ => HI) (by kernel_rfl) (by kernel_rfl) (by kernel_rfl) (by kernel_rfl) (fun _ _ _ h => h) (fun o ho => ?_) ?_ ?_
        rotate_left 2
        · cases ho
          refine ⟨rfl, rfl, fun W => ?_⟩
          go_simp; (try with_reducible rfl)
        · simp only [List.setIfInBounds_toArray, List.set_cons_succ, List.set_cons_zero]; exact rfl
        refine regk_free 9 24 (v := ?_) (T' := ?_) (fun _ => HI) (by kernel_rfl) (by kernel_rfl) (by kernel_rfl) (by kernel_rfl) (fun _ _ _ h => h) (fun o ho => ?_) ?_ ?_
        rotate_left 2
        · cases ho
          refine ⟨rfl, rfl, fun W => ?_⟩
          go_simp; (try with_reducible rfl)
        · simp only [List.setIfInBounds_toArray, List.set_cons_succ, List.set_cons_zero]; exact rfl
        refine regk_free 10 25 (v := ?_) (T' := ?_) (fun _ => HI) (by kernel_rfl) (by kernel_rfl) (by kernel_rfl) (by kernel_rfl) (fun _ _ _ h => h) (fun o ho => ?_) ?_ ?_
        rotate_left 2
        · cases ho
          refine ⟨rfl, rfl, fun W => ?_⟩
          go_simp; (try with_reducible rfl)
        · simp only [List.setIfInBounds_toArray, List.set_cons_succ, List.set_cons_zero]; exact rfl
        refine regk_free 11 26 (v := ?_) (T' := ?_) (fun _ => HI) (by kernel_rfl) (by kernel_rfl) (by kernel_rfl) (by kernel_rfl) (fun _ _ _ h => h) (fun o ho => ?_) ?_ ?_
        rotate_left 2
        · cases ho
          refine ⟨rfl, rfl, fun W => ?_⟩
          go_simp; (try with_reducible rfl)
        · simp only [List.setIfInBounds_toArray, List.set_cons_succ, List.set_cons_zero]; exact rfl
        refine regk_take 12 27 (v := ?_) (T' := ?_) HI (by kernel_rfl) (by kernel_rfl) (by kernel_rfl) (by kernel_rfl) (by kernel_rfl) (by kernel_rfl) (fun _ _ _ h => h) (fun o ho => ?_) ?_ ?_
        rotate_left 2
        · cases ho
          refine ⟨rfl, rfl, fun W hW => ?_⟩
          have hW := (show W = _ from hW); subst hW; go_simp; (try with_reducible rfl)
        · simp only [List.setIfInBounds_toArray, List.set_cons_succ, List.set_cons_zero]; exact rfl
        refine regk_call (I' := (fun X => X = W1.drew)) (fun _ h => h) 13 28 (by kernel_rfl) 33 #[.func (.func 13) #[] #[], .agg #[.string kk, .int .i64 bb, .int .i64 ee, .int .i64 ss, .int .i64 xx, .int .i64 yy, .string uu, .bool gg], .agg #[.string kk', .int .i64 bb', .int .i64 ee', .int .i64 ss', .int .i64 xx', .int .i64 yy', .string uu', .bool gg']] (fun o ho => by cases ho; exact ⟨rfl, rfl, fun W => by go_simp⟩) ?_
        refine (AK.out _).mono ?_
        rintro e y1 ⟨rfl, hb1⟩
        refine ⟨_, _, rfl, (noB_no (by kernel_rfl)), (by simp only [List.setIfInBounds_toArray, List.set_cons_succ, List.set_cons_zero]; rfl), ?_⟩
        refine regk_free 14 29 (v := ?_) (T' := ?_) (noB_no (by kernel_rfl)) (by kernel_rfl) (by kernel_rfl) (by kernel_rfl) (by kernel_rfl) (fun _ _ _ h => h) (fun o ho => ?_) ?_ ?_
        rotate_left 2
        · cases ho
          refine ⟨rfl, rfl, fun W => ?_⟩
          go_simp; (try with_reducible rfl)
        · simp only [List.setIfInBounds_toArray, List.set_cons_succ, List.set_cons_zero]; exact rfl
        refine regk_free 15 30 (v := ?_) (T' := ?_) (noB_no (by kernel_rfl)) (by kernel_rfl) (by kernel_rfl) (by kernel_rfl) (by kernel_rfl) (fun _ _ _ h => h) (fun o ho => ?_) ?_ ?_
        rotate_left 2
        · cases ho
          refine ⟨rfl, rfl, fun W => ?_⟩
          go_simp; (try with_reducible rfl)
        · simp only [List.setIfInBounds_toArray, List.set_cons_succ, List.set_cons_zero]; exact rfl
        refine regk_done (by kernel_rfl) ?_
        have G := Lib.hid ((G.out.drewN 1).trans (hb1.mono G.out.size))
        have O := Lib.hid ((O.out.on ((Below.refl _ W1).drewN 1)).on hb1)
        have BX := Lib.hid ((BX.out.drewN 1).later hb1)
        clear hb1 d0 d1 d2 d3 d4 d5 d6 d7 x0 x1 x2 x3 x4 x5 x6 x7 HI
        have x0 := BX.out.cell 0 (.string kk) rfl
        have x1 := BX.out.cell 1 (.int .i64 bb) rfl
        have x2 := BX.out.cell 2 (.int .i64 ee) rfl
        have x3 := BX.out.cell 3 (.int .i64 ss) rfl
        have x4 := BX.out.cell 4 (.int .i64 xx) rfl
        have x5 := BX.out.cell 5 (.int .i64 yy) rfl
        have x6 := BX.out.cell 6 (.string uu) rfl
        have x7 := BX.out.cell 7 (.bool gg) rfl
        cases hz : (n == 0)
        · have hz2 : (n != 0) = true := by simp [bne, hz]
          rw [hz] at ST
          go_wp2_with (at_builtin; refine wpl_appX rfl (.tmp 31) (.tmp 33) rfl Try.underlying24 ver_info rfl w.heap.size _ (onceTo alikeV l k) [(⟨kk, bb, ee, ss, (xx, yy), uu, gg⟩ : Ver)] _ _ _ rfl rfl rfl rfl O.out G.out.size hal.out (by decide) ?_; intro v5 w5 ho5 hg5 hb5)
          have OZ := Lib.hid (show OwnVr w5 w.heap.size v5 (onceTo alikeV l (k + 1)) from by rw [ST.out]; exact ho5)
          have GZ := Lib.hid (G.out.trans hb5)
          clear ho5 hg5 hb5
          go_roundw
          case rel => exact ⟨k + 1, by go_num, by omega, OZ.out, GZ.out⟩
          case measure => simp [intOf]; omega
        · have hz2 : (n != 0) = false := by simp [bne, hz]
          rw [hz] at ST
          have OZ := Lib.hid (show OwnVr y1 w.heap.size _ (onceTo alikeV l (k + 1)) from by rw [ST.out]; simpa using O.out)
          go_wp2_with fail
          go_roundw
          case rel => exact ⟨k + 1, by go_num, by omega, OZ.out, G.out⟩
          case measure => simp [intOf]; omega
    · have hkl : k = l.length := by omega
      have zl : decide ((k : Int) < (l.length : Int)) = false := by simp; omega
      have O := Lib.hid (show OwnVr wo w.heap.size _ (onceTo alikeV l l.length) from by rw [← hkl]; exact O.out)
      clear hkl
      go_wp2_with fail
      go_ret
      exact ⟨_, rfl, O.out, G.out⟩
end Go.Proofs.Ytnioiojafnkmhaa
