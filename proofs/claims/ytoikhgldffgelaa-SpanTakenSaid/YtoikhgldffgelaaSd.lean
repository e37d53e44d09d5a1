/- Layer 4: what is left of a span, by the document's answer. -/
import Derived.Test.YtoikhgldffgelaaSc
import Derived.Test.YtoikhgldffgelaaBregk
namespace Go.Proofs.Ytoikhgldffgelaa
open Go.RowKit
set_option linter.unusedVariables false

set_option maxHeartbeats 4000000 in
theorem ref_minus (s t : Sp) (w : World) :
    Calls Try.prog 14 #[spV s, spV t] w fun e w' => ∃ v', e = .returned v' ∧ OwnSp w' w.heap.size v' (minusF s t) ∧ Below w.heap.size w w' := by
  obtain ⟨a1, a2⟩ := s
  obtain ⟨b1, b2⟩ := t
  have M1 := Lib.hid (ref_may (a1, a2))
  have B0 := Lib.hid ((Box.new w #[.int .i64 a1, .int .i64 a2] 23 _ rfl).alloc (.cells #[.int .i64 b1, .int .i64 b2] 23))
  have B1 := Lib.hid (Box.new (w.alloc (.cells #[.int .i64 a1, .int .i64 a2] 23)) #[.int .i64 b1, .int .i64 b2] 23 (w.heap.size + 1) (by simp))
  have G := Lib.hid (((Below.refl w.heap.size w).alloc (Nat.le_refl _) (.cells #[.int .i64 a1, .int .i64 a2] 23)).alloc (by simp) (.cells #[.int .i64 b1, .int .i64 b2] 23))
  have hmin := Lib.hid (sweep_minus (a1, a2) (b1, b2))
  have hno := Lib.hid (show mayB (a1, a2) = false → minusF (a1, a2) (b1, b2) = [] from fun h => by unfold minusF; rw [if_neg (by simp [h])])
  unfold spV at M1 ⊢
  generalize minusF (a1, a2) (b1, b2) = res at *
  go_enter Try.func14, Try.ntmps14
  go_wp2_with fail
  generalize (w.alloc (.cells #[.int .i64 a1, .int .i64 a2] 23)).alloc (.cells #[.int .i64 b1, .int .i64 b2] 23) = W at *
  refine (M1.out _).mono ?_
  rintro e w1 ⟨rfl, hb1⟩
  have B0 := Lib.hid (B0.out.later hb1)
  have B1 := Lib.hid (B1.out.later hb1)
  have G := Lib.hid (G.out.trans (hb1.mono G.out.size))
  clear hb1
  by_cases hm : mayB (a1, a2) = true
  · rw [hm]
    have hmin := Lib.hid (hmin.out hm)
    have c00 := B0.out.cell 0 (.int .i64 a1) rfl
    have c01 := B0.out.cell 1 (.int .i64 a2) rfl
    have c10 := B1.out.cell 0 (.int .i64 b1) rfl
    have c11 := B1.out.cell 1 (.int .i64 b2) rfl
    have HL := Lib.hid (OwnX.new (L := spL) (e := 23) w1 #[.int .i64 a1, .int .i64 a2, .int .i64 b1, .int .i64 b2] [(a1, a2), (b1, b2)] 2 rfl rfl (by simp)).rd
    clear hm hno
    go_wp2_with fail
    refine (ref_ends _ [(a1, a2), (b1, b2)] _ HL.out (by simp)).mono ?_
    rintro e w2 ⟨v2, rfl, ho2, hb2⟩
    have hb3 := (alloc_below w1 (.cells #[.int .i64 a1, .int .i64 a2, .int .i64 b1, .int .i64 b2] 23)).trans (hb2.mono (by simp))
    have B0 := Lib.hid (B0.out.later hb3)
    have B1 := Lib.hid (B1.out.later hb3)
    have G := Lib.hid (G.out.trans (hb3.mono G.out.size))
    have hel := ends_len [(a1, a2), (b1, b2)]
    simp only [List.length_cons, List.length_nil] at hel
    have E2 := Lib.hid ho2.rd
    obtain ⟨Ae, ce, rfl, -⟩ := ho2.rd
    generalize endsF [(a1, a2), (b1, b2)] = en at *
    clear hb2 hb3 ho2 c00 c01 c10 c11
    have hn2 := G.out.size
    have HN2 := Lib.hid hn2
    clear hn2
    go_wp2_with fail
    go_loopw [5, 8] (fun x i wr => ∃ (k : Nat) (o : List Sp), i = .int .i64 k ∧ k ≤ en.length ∧ o.length ≤ k ∧ OwnSp wr w2.heap.size x o ∧ msweep (a1, a2) (b1, b2) o (en.drop k) = res ∧ Below w2.heap.size w2 wr) (fun _ i _ => en.length - (intOf i).toNat)
    case atStart => exact ⟨0, [], rfl, by omega, Nat.le_refl _, OwnX.nil _ _, hmin.out, Below.refl _ _⟩
    case round =>
      obtain ⟨k, o, rfl, hk, hok, ho, hsw, hb⟩ := hrel
      have O := Lib.hid ho
      have GW := Lib.hid hb
      have SW := Lib.hid hsw
      have B0 := Lib.hid (B0.out.later hb)
      have B1 := Lib.hid (B1.out.later hb)
      clear ho hsw hb
      by_cases hlt : k + 1 < en.length
      · obtain ⟨be, oe, rfl, hbe0, hx⟩ := RdI.here (E2.out.below GW.out) k (by omega)
        obtain ⟨be', oe', e1, -, hy⟩ := RdI.here (E2.out.below GW.out) (k + 1) hlt
        cases e1
        have hkl : k < en.length := by omega
        have hbe : be < wr.heap.size := by have := GW.out.size; omega
        have hd1 : en.drop k = en[k] :: en[k + 1] :: en.drop (k + 1 + 1) := by rw [List.drop_eq_getElem_cons (by omega), List.drop_eq_getElem_cons hlt]
        have hd2 : en.drop (k + 1) = en[k + 1] :: en.drop (k + 1 + 1) := List.drop_eq_getElem_cons hlt
        have HST := Lib.hid (show msweep (a1, a2) (b1, b2) (mstep (a1, a2) (b1, b2) o en[k] en[k + 1]) (en.drop (k + 1)) = res from by
          have := SW.out; rw [hd1] at this; rw [hd2]; exact this)
        have hol : o.length + 1 ≤ 1000000000 := by omega
        clear hd1 hd2 SW
        generalize en[k] = x at *
        generalize en[k + 1] = y at *
        go_wp2_with fail
        have HI : (fun W => Below wr.heap.size wr.drew W) wr.drew := Below.refl _ _
-- REGION A
        refine regk_start [] (fun W => Below wr.heap.size wr.drew W) (by kernel_rfl) ?_
        refine regk_take 0 26 (v := ?_) (T' := ?_) HI (by kernel_rfl) (by kernel_rfl) (by kernel_rfl) (by kernel_rfl) (by kernel_rfl) (by kernel_rfl) (fun _ _ _ h => h) (fun o ho => ?_) ?_ ?_
        rotate_left 2
        · cases ho
          refine ⟨rfl, rfl, fun W hW => ?_⟩
          have hW0 := Box.cell (Box.on (show Box wr.drew _ _ _ from B0.out) (show Below wr.heap.size wr.drew W from hW) B0.out.lt) 0 (.int .i64 a1) rfl
          have hW1 := Box.cell (Box.on (show Box wr.drew _ _ _ from B0.out) (show Below wr.heap.size wr.drew W from hW) B0.out.lt) 1 (.int .i64 a2) rfl
          go_simp; (try with_reducible rfl)
        · simp only [List.setIfInBounds_toArray, List.set_cons_succ, List.set_cons_zero]; exact rfl
        refine regk_free 1 27 (v := ?_) (T' := ?_) (fun _ => HI) (by kernel_rfl) (by kernel_rfl) (by kernel_rfl) (by kernel_rfl) (fun _ _ _ h => h) (fun o ho => ?_) ?_ ?_
        rotate_left 2
        · cases ho
          refine ⟨rfl, rfl, fun W => ?_⟩
          go_simp; (try with_reducible rfl)
        · simp only [List.setIfInBounds_toArray, List.set_cons_succ, List.set_cons_zero]; exact rfl
        refine regk_free 2 28 (v := ?_) (T' := ?_) (fun _ => HI) (by kernel_rfl) (by kernel_rfl) (by kernel_rfl) (by kernel_rfl) (fun _ _ _ h => h) (fun o ho => ?_) ?_ ?_
        rotate_left 2
        · cases ho
          refine ⟨rfl, rfl, fun W => ?_⟩
          go_simp; (try with_reducible rfl)
        · simp only [List.setIfInBounds_toArray, List.set_cons_succ, List.set_cons_zero]; exact rfl
        refine regk_free 3 29 (v := ?_) (T' := ?_) (fun _ => HI) (by kernel_rfl) (by kernel_rfl) (by kernel_rfl) (by kernel_rfl) (fun _ _ _ h => h) (fun o ho => ?_) ?_ ?_
        rotate_left 2
        · cases ho
          refine ⟨rfl, rfl, fun W => ?_⟩
          go_simp; (try with_reducible rfl)
        · simp only [List.setIfInBounds_toArray, List.set_cons_succ, List.set_cons_zero]; exact rfl
        refine regk_take 4 30 (v := ?_) (T' := ?_) HI (by kernel_rfl) (by kernel_rfl) (by kernel_rfl) (by kernel_rfl) (by kernel_rfl) (by kernel_rfl) (fun _ _ _ h => h) (fun o ho => ?_) ?_ ?_
        rotate_left 2
        · cases ho
          refine ⟨rfl, rfl, fun W hW => ?_⟩
          have hW2 := (Below.cell (p := ⟨be, oe + k, none⟩) (show Below wr.heap.size wr.drew W from hW) hbe).trans (show wr.drew.cell? _ = _ from hx)
          go_simp; (try with_reducible rfl)
        · simp only [List.setIfInBounds_toArray, List.set_cons_succ, List.set_cons_zero]; exact rfl
        refine regk_call (I' := (fun W => Below wr.heap.size wr.drew W)) (fun _ h => h) 5 31 (by kernel_rfl) 18 #[.agg #[.int .i64 a1, .int .i64 a2], .int .i64 x] (fun o ho => by cases ho; exact ⟨rfl, rfl, fun W => by go_simp⟩) ?_
        refine (ref_has (a1, a2) x _).mono ?_
        rintro e x1 ⟨rfl, hb1⟩
        have HI : (fun W => Below wr.heap.size wr.drew W) x1 := hb1
        refine ⟨_, _, rfl, fun _ => HI, (by simp only [List.setIfInBounds_toArray, List.set_cons_succ, List.set_cons_zero]; exact rfl), ?_⟩
        refine regk_free 6 9 (v := ?_) (T' := ?_) (fun _ => HI) (by kernel_rfl) (by kernel_rfl) (by kernel_rfl) (by kernel_rfl) (fun _ _ _ h => h) (fun o ho => ?_) ?_ ?_
        rotate_left 2
        · cases ho
          refine ⟨rfl, rfl, fun W => ?_⟩
          go_simp; (try with_reducible rfl)
        · simp only [List.setIfInBounds_toArray, List.set_cons_succ, List.set_cons_zero]; exact rfl
        refine regk_done (by kernel_rfl) ?_
-- DONE A
        generalize hha : hasB (a1, a2) x = ha at *
        have B0 := Lib.hid (Box.on (show Box wr.drew _ _ _ from B0.out) hb1 B0.out.lt)
        have B1 := Lib.hid (Box.on (show Box wr.drew _ _ _ from B1.out) hb1 B1.out.lt)
        have O := Lib.hid (OwnX.on (show OwnSp wr.drew _ _ _ from O.out) hb1)
        have GW := Lib.hid ((GW.out.drewN 1).trans (hb1.mono GW.out.size))
        have hx := (Below.cell (p := ⟨be, oe + k, none⟩) hb1 hbe).trans (show wr.drew.cell? _ = _ from hx)
        have hy := (Below.cell (p := ⟨be, oe + (k + 1), none⟩) hb1 hbe).trans (show wr.drew.cell? _ = _ from hy)
        have hbe : be < x1.heap.size := Nat.lt_of_lt_of_le hbe hb1.size
        clear hb1 HI
        go_wp2_with fail
        have HI : (fun W => Below x1.heap.size x1.drew W) x1.drew := Below.refl _ _
-- REGION B
        refine regk_start [] (fun W => Below x1.heap.size x1.drew W) (by kernel_rfl) ?_
        refine regk_take 0 32 (v := ?_) (T' := ?_) HI (by kernel_rfl) (by kernel_rfl) (by kernel_rfl) (by kernel_rfl) (by kernel_rfl) (by kernel_rfl) (fun _ _ _ h => h) (fun o ho => ?_) ?_ ?_
        rotate_left 2
        · cases ho
          refine ⟨rfl, rfl, fun W hW => ?_⟩
          have hW0 := Box.cell (Box.on (show Box x1.drew _ _ _ from B1.out) (show Below x1.heap.size x1.drew W from hW) B1.out.lt) 0 (.int .i64 b1) rfl
          have hW1 := Box.cell (Box.on (show Box x1.drew _ _ _ from B1.out) (show Below x1.heap.size x1.drew W from hW) B1.out.lt) 1 (.int .i64 b2) rfl
          go_simp; (try with_reducible rfl)
        · simp only [List.setIfInBounds_toArray, List.set_cons_succ, List.set_cons_zero]; exact rfl
        refine regk_free 1 33 (v := ?_) (T' := ?_) (fun _ => HI) (by kernel_rfl) (by kernel_rfl) (by kernel_rfl) (by kernel_rfl) (fun _ _ _ h => h) (fun o ho => ?_) ?_ ?_
        rotate_left 2
        · cases ho
          refine ⟨rfl, rfl, fun W => ?_⟩
          go_simp; (try with_reducible rfl)
        · simp only [List.setIfInBounds_toArray, List.set_cons_succ, List.set_cons_zero]; exact rfl
        refine regk_free 2 34 (v := ?_) (T' := ?_) (fun _ => HI) (by kernel_rfl) (by kernel_rfl) (by kernel_rfl) (by kernel_rfl) (fun _ _ _ h => h) (fun o ho => ?_) ?_ ?_
        rotate_left 2
        · cases ho
          refine ⟨rfl, rfl, fun W => ?_⟩
          go_simp; (try with_reducible rfl)
        · simp only [List.setIfInBounds_toArray, List.set_cons_succ, List.set_cons_zero]; exact rfl
        refine regk_free 3 35 (v := ?_) (T' := ?_) (fun _ => HI) (by kernel_rfl) (by kernel_rfl) (by kernel_rfl) (by kernel_rfl) (fun _ _ _ h => h) (fun o ho => ?_) ?_ ?_
        rotate_left 2
        · cases ho
          refine ⟨rfl, rfl, fun W => ?_⟩
          go_simp; (try with_reducible rfl)
        · simp only [List.setIfInBounds_toArray, List.set_cons_succ, List.set_cons_zero]; exact rfl
        refine regk_take 4 36 (v := ?_) (T' := ?_) HI (by kernel_rfl) (by kernel_rfl) (by kernel_rfl) (by kernel_rfl) (by kernel_rfl) (by kernel_rfl) (fun _ _ _ h => h) (fun o ho => ?_) ?_ ?_
        rotate_left 2
        · cases ho
          refine ⟨rfl, rfl, fun W hW => ?_⟩
          have hW2 := (Below.cell (p := ⟨be, oe + k, none⟩) (show Below x1.heap.size x1.drew W from hW) hbe).trans (show x1.drew.cell? _ = _ from hx)
          go_simp; (try with_reducible rfl)
        · simp only [List.setIfInBounds_toArray, List.set_cons_succ, List.set_cons_zero]; exact rfl
        refine regk_call (I' := (fun W => Below x1.heap.size x1.drew W)) (fun _ h => h) 5 37 (by kernel_rfl) 18 #[.agg #[.int .i64 b1, .int .i64 b2], .int .i64 x] (fun o ho => by cases ho; exact ⟨rfl, rfl, fun W => by go_simp⟩) ?_
        refine (ref_has (b1, b2) x _).mono ?_
        rintro e x2 ⟨rfl, hb2⟩
        have HI : (fun W => Below x1.heap.size x1.drew W) x2 := hb2
        refine ⟨_, _, rfl, fun _ => HI, (by simp only [List.setIfInBounds_toArray, List.set_cons_succ, List.set_cons_zero]; exact rfl), ?_⟩
        refine regk_free 6 10 (v := ?_) (T' := ?_) (fun _ => HI) (by kernel_rfl) (by kernel_rfl) (by kernel_rfl) (by kernel_rfl) (fun _ _ _ h => h) (fun o ho => ?_) ?_ ?_
        rotate_left 2
        · cases ho
          refine ⟨rfl, rfl, fun W => ?_⟩
          go_simp; (try with_reducible rfl)
        · simp only [List.setIfInBounds_toArray, List.set_cons_succ, List.set_cons_zero]; exact rfl
        refine regk_done (by kernel_rfl) ?_
-- DONE B
        generalize hhb : hasB (b1, b2) x = hb at *
        have B0 := Lib.hid (Box.on (show Box x1.drew _ _ _ from B0.out) hb2 B0.out.lt)
        have B1 := Lib.hid (Box.on (show Box x1.drew _ _ _ from B1.out) hb2 B1.out.lt)
        have O := Lib.hid (OwnX.on (show OwnSp x1.drew _ _ _ from O.out) hb2)
        have GW := Lib.hid ((GW.out.drewN 1).trans (hb2.mono GW.out.size))
        have hx := (Below.cell (p := ⟨be, oe + k, none⟩) hb2 hbe).trans (show x1.drew.cell? _ = _ from hx)
        have hy := (Below.cell (p := ⟨be, oe + (k + 1), none⟩) hb2 hbe).trans (show x1.drew.cell? _ = _ from hy)
        have hbe : be < x2.heap.size := Nat.lt_of_lt_of_le hbe hb2.size
        have HA := Lib.hid hha
        have HB := Lib.hid hhb
        clear hb2 HI hha hhb
        by_cases hin : ha = true ∧ hb = false
        · obtain ⟨rfl, rfl⟩ := hin
          rcases snoc_or o with rfl | ⟨xs, q, rfl⟩
          · have hlen : ([] : List Sp).length = 0 := rfl
            have HR := Lib.hid (mstep_nil (y := y) HA.out HB.out)
            have hv5 : u5 = .slice none 0 0 ∨ ∃ g c, u5 = .slice (some ⟨g, 0, none⟩) 0 c := by
              rcases O.out.2 with ⟨h, _⟩ | ⟨g, cap, _, h, _⟩
              · exact .inl h
              · exact .inr ⟨g, cap, h⟩
            obtain ⟨A5, c5, hv5⟩ : ∃ A5 c5, u5 = .slice A5 0 c5 := by
              rcases hv5 with h | ⟨g, c, h⟩
              · exact ⟨_, _, h⟩
              · exact ⟨_, _, h⟩
            subst hv5
            go_wp2_with fail
            go_quiet (fail)
            go_wp2_with fail
            have HI : (fun W => W = (x2.drewN nq).drew) (x2.drewN nq).drew := rfl
            have hk0 : (0 : Int) ≤ (k : Int) + 1 := by omega
            have hwr : IntKind.i64.wrap ((k : Int) + 1) = ((k + 1 : Nat) : Int) := by rw [IntKind.wrap_i64]; omega
-- REGION N
            refine regk_start [11, 12] (fun W => W = (x2.drewN nq).drew) (by kernel_rfl) ?_
            refine regk_free 0 71 (v := ?_) (T' := ?_) (fun _ => HI) (by kernel_rfl) (by kernel_rfl) (by kernel_rfl) (by kernel_rfl) (fun _ _ _ h => h) (fun o ho => ?_) ?_ ?_
            rotate_left 2
            · cases ho
              refine ⟨rfl, rfl, fun W => ?_⟩
              go_simp; (try with_reducible rfl)
            · simp only [List.setIfInBounds_toArray, List.set_cons_succ, List.set_cons_zero]; exact rfl
            refine regk_free 1 72 (v := ?_) (T' := ?_) (fun _ => HI) (by kernel_rfl) (by kernel_rfl) (by kernel_rfl) (by kernel_rfl) (fun _ _ _ h => h) (fun o ho => ?_) ?_ ?_
            rotate_left 2
            · cases ho
              refine ⟨rfl, rfl, fun W => ?_⟩
              go_simp; (try with_reducible rfl)
            · simp only [List.setIfInBounds_toArray, List.set_cons_succ, List.set_cons_zero]; exact rfl
            refine regk_free 2 73 (v := ?_) (T' := ?_) (fun _ => HI) (by kernel_rfl) (by kernel_rfl) (by kernel_rfl) (by kernel_rfl) (fun _ _ _ h => h) (fun o ho => ?_) ?_ ?_
            rotate_left 2
            · cases ho
              refine ⟨rfl, rfl, fun W => ?_⟩
              go_simp; (try with_reducible rfl)
            · simp only [List.setIfInBounds_toArray, List.set_cons_succ, List.set_cons_zero]; exact rfl
            refine regk_free 3 74 (v := ?_) (T' := ?_) (fun _ => HI) (by kernel_rfl) (by kernel_rfl) (by kernel_rfl) (by kernel_rfl) (fun _ _ _ h => h) (fun o ho => ?_) ?_ ?_
            rotate_left 2
            · cases ho
              refine ⟨rfl, rfl, fun W => ?_⟩
              go_simp; (try with_reducible rfl)
            · simp only [List.setIfInBounds_toArray, List.set_cons_succ, List.set_cons_zero]; exact rfl
            refine regk_take 4 75 (v := ?_) (T' := ?_) HI (by kernel_rfl) (by kernel_rfl) (by kernel_rfl) (by kernel_rfl) (by kernel_rfl) (by kernel_rfl) (fun _ _ _ h => h) (fun o ho => ?_) ?_ ?_
            rotate_left 2
            · cases ho
              refine ⟨rfl, rfl, fun W hW => ?_⟩
              have hW := (show W = _ from hW); subst hW; go_simp; (try with_reducible rfl)
            · simp only [List.setIfInBounds_toArray, List.set_cons_succ, List.set_cons_zero]; exact rfl
            refine regk_free 5 76 (v := ?_) (T' := ?_) (fun _ => HI) (by kernel_rfl) (by kernel_rfl) (by kernel_rfl) (by kernel_rfl) (fun _ _ _ h => h) (fun o ho => ?_) ?_ ?_
            rotate_left 2
            · cases ho
              refine ⟨rfl, rfl, fun W => ?_⟩
              go_simp; (try with_reducible rfl)
            · simp only [List.setIfInBounds_toArray, List.set_cons_succ, List.set_cons_zero]; exact rfl
            refine regk_free 6 77 (v := ?_) (T' := ?_) (fun _ => HI) (by kernel_rfl) (by kernel_rfl) (by kernel_rfl) (by kernel_rfl) (fun _ _ _ h => h) (fun o ho => ?_) ?_ ?_
            rotate_left 2
            · cases ho
              refine ⟨rfl, rfl, fun W => ?_⟩
              go_simp; (try with_reducible rfl)
            · simp only [List.setIfInBounds_toArray, List.set_cons_succ, List.set_cons_zero]; exact rfl
            refine regk_free 7 78 (v := ?_) (T' := ?_) (fun _ => HI) (by kernel_rfl) (by kernel_rfl) (by kernel_rfl) (by kernel_rfl) (fun _ _ _ h => h) (fun o ho => ?_) ?_ ?_
            rotate_left 2
            · cases ho
              refine ⟨rfl, rfl, fun W => ?_⟩
              go_simp; (try with_reducible rfl)
            · simp only [List.setIfInBounds_toArray, List.set_cons_succ, List.set_cons_zero]; exact rfl
            refine regk_free 8 79 (v := ?_) (T' := ?_) (fun _ => HI) (by kernel_rfl) (by kernel_rfl) (by kernel_rfl) (by kernel_rfl) (fun _ _ _ h => h) (fun o ho => ?_) ?_ ?_
            rotate_left 2
            · cases ho
              refine ⟨rfl, rfl, fun W => ?_⟩
              go_simp; (try with_reducible rfl)
            · simp only [List.setIfInBounds_toArray, List.set_cons_succ, List.set_cons_zero]; exact rfl
            refine regk_take 9 80 (v := ?_) (T' := ?_) HI (by kernel_rfl) (by kernel_rfl) (by kernel_rfl) (by kernel_rfl) (by kernel_rfl) (by kernel_rfl) (fun _ _ _ h => h) (fun o ho => ?_) ?_ ?_
            rotate_left 2
            · cases ho
              refine ⟨rfl, rfl, fun W hW => ?_⟩
              have hW := (show W = _ from hW); subst hW; go_simp; (try with_reducible rfl)
            · simp only [List.setIfInBounds_toArray, List.set_cons_succ, List.set_cons_zero]; exact rfl
            refine regk_free 10 81 (v := ?_) (T' := ?_) (fun _ => HI) (by kernel_rfl) (by kernel_rfl) (by kernel_rfl) (by kernel_rfl) (fun _ _ _ h => h) (fun o ho => ?_) ?_ ?_
            rotate_left 2
            · cases ho
              refine ⟨rfl, rfl, fun W => ?_⟩
              go_simp; (try with_reducible rfl)
            · simp only [List.setIfInBounds_toArray, List.set_cons_succ, List.set_cons_zero]; exact rfl
            refine regk_make (I' := (fun W => W = (x2.drewN nq).drew)) (fun _ h => h) 11 82 (v := .slice (some ⟨x2.heap.size, 0, none⟩) 1 1) (w' := (x2.drewN nq).drew.alloc (.cells #[.int .i64 x, .int .i64 y] 23)) (T' := ?_) (by kernel_rfl) (fun o ho => ?_) (noB_no (by kernel_rfl)) ?_ ?_
            rotate_left
            · cases ho
              refine ⟨rfl, rfl, ?_⟩
              go_simp
            · simp only [List.setIfInBounds_toArray, List.set_cons_succ, List.set_cons_zero]; exact rfl
            obtain ⟨v7, w7, hrun, ho7, hg7, hb7⟩ := appX_run (P := Try.prog) (L := spL) (W := (x2.drewN nq).drew.alloc (.cells #[.int .i64 x, .int .i64 y] 23)) (g := x2.heap.size) (c := 1) (m := 1) (ty := 26) (r := [(x, y)]) Try.underlying26 sp_info rfl ((show OwnSp (x2.drewN nq).drew _ _ [] from O.out).on (alloc_below _ _)) (heap_alloc_new (x2.drewN nq).drew _) rfl (by have := GW.out.size; simp; omega) hol (by decide)
            refine regk_make (I' := (fun W => W = (x2.drewN nq).drew)) (fun _ h => h) 12 83 (v := v7) (w' := w7) (T' := ?_) (by kernel_rfl) (fun o ho => ?_) (noB_no (by kernel_rfl)) ?_ ?_
            rotate_left
            · cases ho
              exact ⟨rfl, rfl, exec_appK (.tmp 71) (.tmp 82) rfl rfl rfl hrun⟩
            · simp only [List.setIfInBounds_toArray, List.set_cons_succ, List.set_cons_zero]; exact rfl
            refine regk_free 13 5 (v := ?_) (T' := ?_) (noB_no (by kernel_rfl)) (by kernel_rfl) (by kernel_rfl) (by kernel_rfl) (by kernel_rfl) (fun _ _ _ h => h) (fun o ho => ?_) ?_ ?_
            rotate_left 2
            · cases ho
              refine ⟨rfl, rfl, fun W => ?_⟩
              go_simp; (try with_reducible rfl)
            · simp only [List.setIfInBounds_toArray, List.set_cons_succ, List.set_cons_zero]; exact rfl
            refine regk_done (by kernel_rfl) ?_
-- DONE N
            have hbz := (((Below.refl w2.heap.size x2).drewN (nq + 1)).alloc (show w2.heap.size ≤ x2.heap.size from GW.out.size) (.cells #[.int .i64 x, .int .i64 y] 23)).trans hb7
            go_wp2_with fail
            go_roundw
            case rel => exact ⟨k + 1, [] ++ [(x, y)], by go_num, by omega, by simp, ho7, by have := HST.out; rw [HR.out] at this; exact this, GW.out.trans hbz⟩
            case measure => simp [intOf]; omega
          · have hlen : (xs ++ [q]).length = xs.length + 1 := by simp
            obtain ⟨g, c5, hv5, hg1, hg2⟩ := O.out.pos (by omega)
            rw [hlen] at hv5
            subst hv5
            have hcq := O.out.cell xs.length (by omega) 1 (.int .i64 q.2) (by simp [spL])
            have hfq := O.out.frozen (xs.length * 2 + 1)
            have hcq : x2.cell? ⟨g, xs.length * 2 + 1, none⟩ = some (.int .i64 q.2) := hcq
            by_cases hqx : q.2 = x
            · have hqd : ((q.2 : Int) == x) = true := by simpa using hqx
              go_wp2_with fail
              go_quiet (fail)
              go_wp2_with fail
              have HR := Lib.hid (show mstep (a1, a2) (b1, b2) (xs ++ [q]) x y = xs ++ [(q.1, y)] from by
                have := mstep_join (out := xs) (u := q.1) (y := y) HA.out HB.out
                rw [← hqx] at this ⊢
                exact this)
              have hst := ((show OwnSp (x2.drewN nq) _ _ _ from O.out).stored xs.length (by omega) 1 (by decide) (.int .i64 y) (q.1, y) (by simp [spL])).1
              have hset : (xs ++ [q]).set xs.length (q.1, y) = xs ++ [(q.1, y)] := by simp
              rw [hset] at hst
              go_roundw
              case rel => exact ⟨k + 1, xs ++ [(q.1, y)], by go_num, by omega, by simp at hok ⊢; omega, hst, by have := HST.out; rw [HR.out] at this; exact this, (GW.out.drewN nq).setCell (p := ⟨g, xs.length * 2 + 1, none⟩) hg1 _⟩
              case measure => simp [intOf]; omega
            · have hqd : ((q.2 : Int) == x) = false := by simpa using hqx
              have HR := Lib.hid (mstep_more (out := xs) (u := q.1) (v := q.2) (y := y) HA.out HB.out hqx)
              go_wp2_with fail
              go_quiet (fail)
              go_wp2_with fail
              have HI : (fun W => W = (x2.drewN nq).drew) (x2.drewN nq).drew := rfl
              have hk0 : (0 : Int) ≤ (k : Int) + 1 := by omega
              have hwr : IntKind.i64.wrap ((k : Int) + 1) = ((k + 1 : Nat) : Int) := by rw [IntKind.wrap_i64]; omega
-- REGION S
              refine regk_start [11, 12] (fun W => W = (x2.drewN nq).drew) (by kernel_rfl) ?_
              refine regk_free 0 71 (v := ?_) (T' := ?_) (fun _ => HI) (by kernel_rfl) (by kernel_rfl) (by kernel_rfl) (by kernel_rfl) (fun _ _ _ h => h) (fun o ho => ?_) ?_ ?_
              rotate_left 2
              · cases ho
                refine ⟨rfl, rfl, fun W => ?_⟩
                go_simp; (try with_reducible rfl)
              · simp only [List.setIfInBounds_toArray, List.set_cons_succ, List.set_cons_zero]; exact rfl
              refine regk_free 1 72 (v := ?_) (T' := ?_) (fun _ => HI) (by kernel_rfl) (by kernel_rfl) (by kernel_rfl) (by kernel_rfl) (fun _ _ _ h => h) (fun o ho => ?_) ?_ ?_
              rotate_left 2
              · cases ho
                refine ⟨rfl, rfl, fun W => ?_⟩
                go_simp; (try with_reducible rfl)
              · simp only [List.setIfInBounds_toArray, List.set_cons_succ, List.set_cons_zero]; exact rfl
              refine regk_free 2 73 (v := ?_) (T' := ?_) (fun _ => HI) (by kernel_rfl) (by kernel_rfl) (by kernel_rfl) (by kernel_rfl) (fun _ _ _ h => h) (fun o ho => ?_) ?_ ?_
              rotate_left 2
              · cases ho
                refine ⟨rfl, rfl, fun W => ?_⟩
                go_simp; (try with_reducible rfl)
              · simp only [List.setIfInBounds_toArray, List.set_cons_succ, List.set_cons_zero]; exact rfl
              refine regk_free 3 74 (v := ?_) (T' := ?_) (fun _ => HI) (by kernel_rfl) (by kernel_rfl) (by kernel_rfl) (by kernel_rfl) (fun _ _ _ h => h) (fun o ho => ?_) ?_ ?_
              rotate_left 2
              · cases ho
                refine ⟨rfl, rfl, fun W => ?_⟩
                go_simp; (try with_reducible rfl)
              · simp only [List.setIfInBounds_toArray, List.set_cons_succ, List.set_cons_zero]; exact rfl
              refine regk_take 4 75 (v := ?_) (T' := ?_) HI (by kernel_rfl) (by kernel_rfl) (by kernel_rfl) (by kernel_rfl) (by kernel_rfl) (by kernel_rfl) (fun _ _ _ h => h) (fun o ho => ?_) ?_ ?_
              rotate_left 2
              · cases ho
                refine ⟨rfl, rfl, fun W hW => ?_⟩
                have hW := (show W = _ from hW); subst hW; go_simp; (try with_reducible rfl)
              · simp only [List.setIfInBounds_toArray, List.set_cons_succ, List.set_cons_zero]; exact rfl
              refine regk_free 5 76 (v := ?_) (T' := ?_) (fun _ => HI) (by kernel_rfl) (by kernel_rfl) (by kernel_rfl) (by kernel_rfl) (fun _ _ _ h => h) (fun o ho => ?_) ?_ ?_
              rotate_left 2
              · cases ho
                refine ⟨rfl, rfl, fun W => ?_⟩
                go_simp; (try with_reducible rfl)
              · simp only [List.setIfInBounds_toArray, List.set_cons_succ, List.set_cons_zero]; exact rfl
              refine regk_free 6 77 (v := ?_) (T' := ?_) (fun _ => HI) (by kernel_rfl) (by kernel_rfl) (by kernel_rfl) (by kernel_rfl) (fun _ _ _ h => h) (fun o ho => ?_) ?_ ?_
              rotate_left 2
              · cases ho
                refine ⟨rfl, rfl, fun W => ?_⟩
                go_simp; (try with_reducible rfl)
              · simp only [List.setIfInBounds_toArray, List.set_cons_succ, List.set_cons_zero]; exact rfl
              refine regk_free 7 78 (v := ?_) (T' := ?_) (fun _ => HI) (by kernel_rfl) (by kernel_rfl) (by kernel_rfl) (by kernel_rfl) (fun _ _ _ h => h) (fun o ho => ?_) ?_ ?_
              rotate_left 2
              · cases ho
                refine ⟨rfl, rfl, fun W => ?_⟩
                go_simp; (try with_reducible rfl)
              · simp only [List.setIfInBounds_toArray, List.set_cons_succ, List.set_cons_zero]; exact rfl
              refine regk_free 8 79 (v := ?_) (T' := ?_) (fun _ => HI) (by kernel_rfl) (by kernel_rfl) (by kernel_rfl) (by kernel_rfl) (fun _ _ _ h => h) (fun o ho => ?_) ?_ ?_
              rotate_left 2
              · cases ho
                refine ⟨rfl, rfl, fun W => ?_⟩
                go_simp; (try with_reducible rfl)
              · simp only [List.setIfInBounds_toArray, List.set_cons_succ, List.set_cons_zero]; exact rfl
              refine regk_take 9 80 (v := ?_) (T' := ?_) HI (by kernel_rfl) (by kernel_rfl) (by kernel_rfl) (by kernel_rfl) (by kernel_rfl) (by kernel_rfl) (fun _ _ _ h => h) (fun o ho => ?_) ?_ ?_
              rotate_left 2
              · cases ho
                refine ⟨rfl, rfl, fun W hW => ?_⟩
                have hW := (show W = _ from hW); subst hW; go_simp; (try with_reducible rfl)
              · simp only [List.setIfInBounds_toArray, List.set_cons_succ, List.set_cons_zero]; exact rfl
              refine regk_free 10 81 (v := ?_) (T' := ?_) (fun _ => HI) (by kernel_rfl) (by kernel_rfl) (by kernel_rfl) (by kernel_rfl) (fun _ _ _ h => h) (fun o ho => ?_) ?_ ?_
              rotate_left 2
              · cases ho
                refine ⟨rfl, rfl, fun W => ?_⟩
                go_simp; (try with_reducible rfl)
              · simp only [List.setIfInBounds_toArray, List.set_cons_succ, List.set_cons_zero]; exact rfl
              refine regk_make (I' := (fun W => W = (x2.drewN nq).drew)) (fun _ h => h) 11 82 (v := .slice (some ⟨x2.heap.size, 0, none⟩) 1 1) (w' := (x2.drewN nq).drew.alloc (.cells #[.int .i64 x, .int .i64 y] 23)) (T' := ?_) (by kernel_rfl) (fun o ho => ?_) (noB_no (by kernel_rfl)) ?_ ?_
              rotate_left
              · cases ho
                refine ⟨rfl, rfl, ?_⟩
                go_simp
              · simp only [List.setIfInBounds_toArray, List.set_cons_succ, List.set_cons_zero]; exact rfl
              obtain ⟨v7, w7, hrun, ho7, hg7, hb7⟩ := appX_run (P := Try.prog) (L := spL) (W := (x2.drewN nq).drew.alloc (.cells #[.int .i64 x, .int .i64 y] 23)) (g := x2.heap.size) (c := 1) (m := 1) (ty := 26) (r := [(x, y)]) Try.underlying26 sp_info rfl ((show OwnSp (x2.drewN nq).drew _ _ (xs ++ [q]) from O.out).on (alloc_below _ _)) (heap_alloc_new (x2.drewN nq).drew _) rfl (by have := GW.out.size; simp; omega) hol (by decide)
              refine regk_make (I' := (fun W => W = (x2.drewN nq).drew)) (fun _ h => h) 12 83 (v := v7) (w' := w7) (T' := ?_) (by kernel_rfl) (fun o ho => ?_) (noB_no (by kernel_rfl)) ?_ ?_
              rotate_left
              · cases ho
                exact ⟨rfl, rfl, exec_appK (.tmp 71) (.tmp 82) rfl rfl rfl hrun⟩
              · simp only [List.setIfInBounds_toArray, List.set_cons_succ, List.set_cons_zero]; exact rfl
              refine regk_free 13 5 (v := ?_) (T' := ?_) (noB_no (by kernel_rfl)) (by kernel_rfl) (by kernel_rfl) (by kernel_rfl) (by kernel_rfl) (fun _ _ _ h => h) (fun o ho => ?_) ?_ ?_
              rotate_left 2
              · cases ho
                refine ⟨rfl, rfl, fun W => ?_⟩
                go_simp; (try with_reducible rfl)
              · simp only [List.setIfInBounds_toArray, List.set_cons_succ, List.set_cons_zero]; exact rfl
              refine regk_done (by kernel_rfl) ?_
-- DONE S
              have hbz := (((Below.refl w2.heap.size x2).drewN (nq + 1)).alloc (show w2.heap.size ≤ x2.heap.size from GW.out.size) (.cells #[.int .i64 x, .int .i64 y] 23)).trans hb7
              go_wp2_with fail
              go_roundw
              case rel => exact ⟨k + 1, xs ++ [q] ++ [(x, y)], by go_num, by omega, by simp at hok ⊢; omega, ho7, by have := HST.out; rw [HR.out] at this; exact this, GW.out.trans hbz⟩
              case measure => simp [intOf]; omega
        · have HR := Lib.hid (show mstep (a1, a2) (b1, b2) o x y = o from mstep_out (by rw [HA.out, HB.out]; exact hin))
          have hrel2 := Lib.hid (show ∃ (k' : Nat) (o' : List Sp), Value.int .i64 ((k : Int) + 1) = .int .i64 k' ∧ k' ≤ en.length ∧ o'.length ≤ k' ∧ OwnSp x2 w2.heap.size u5 o' ∧ msweep (a1, a2) (b1, b2) o' (en.drop k') = res ∧ Below w2.heap.size w2 x2 from
            ⟨k + 1, o, by go_num, by omega, by omega, O.out, by have := HST.out; rw [HR.out] at this; exact this, GW.out⟩)
          clear HST HR HA HB
          cases ha <;> cases hb
          all_goals first | exact absurd ⟨rfl, rfl⟩ hin | skip
          all_goals
            clear hin
            go_wp2_with fail
            go_roundw
          all_goals first | exact hrel2.out | (simp [intOf]; omega)
      · have hres := Lib.hid (show o = res from by
          have h := SW.out
          cases hd : en.drop k with
          | nil => rw [hd] at h; exact h
          | cons z r =>
            cases r with
            | nil => rw [hd] at h; exact h
            | cons z2 r2 => exfalso; have := congrArg List.length hd; simp at this; omega)
        have O1 := Lib.hid (show OwnSp wr w.heap.size u5 res from by rw [← hres.out]; exact O.out.mono HN2.out)
        have G1 := Lib.hid (G.out.trans (GW.out.mono G.out.size))
        clear SW hres O
        go_wp2_with fail
        go_ret
        exact ⟨_, rfl, O1.out, G1.out⟩
  · have hm : mayB (a1, a2) = false := by simpa using hm
    rw [hm]
    have hr := hno.out hm
    subst hr
    go_wp2_with fail
    go_ret
    exact ⟨_, rfl, OwnX.nil _ _, G.out⟩
end Go.Proofs.Ytoikhgldffgelaa
