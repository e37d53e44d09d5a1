/- Layer 5, the project's: what is left of a rectangle. -/
import Derived.Test.YtjfneppjdgfecaaEj
import Derived.Test.YtjfneppjdgfecaaBcopy
namespace Go.Proofs.Ytjfneppjdgfecaa
open Go.RowKit
set_option linter.unusedVariables false
attribute [local go_sem] sto_cx

def rxL : Lay Re := ⟨2, fun r => [.complex .f64 (fw r.1.1) (fw r.2.1), .complex .f64 (fw r.1.2) (fw r.2.2)], fun _ => rfl, fun x u hu => by simp at hu; rcases hu with rfl | rfl <;> rfl, by decide⟩
theorem rx_info : (Try.prog.info? 28).map (fun i => (i.zero, i.size, i.bytes)) = some (some (.agg #[.complex .f64 0 0, .complex .f64 0 0]), 2, 32) := by kernel_rfl
abbrev RdRx (w : World) (B : Nat) (v : Value) (l : List Re) : Prop := RdX rxL w B v l
abbrev OwnRx (w : World) (base : Nat) (v : Value) (l : List Re) : Prop := OwnX rxL 28 w base v l
theorem RdRx.here {w : World} {B : Nat} {A : Option Addr} {n c : Nat} {l : List Re} (h : RdRx w B (.slice A n c) l) (k : Nat) (hk : k < l.length) : ∃ b o, A = some ⟨b, o, none⟩ ∧ b < B ∧ w.cell? ⟨b, o + k * 2, none⟩ = some (.complex .f64 (fw l[k].1.1) (fw l[k].2.1)) ∧ w.cell? ⟨b, o + k * 2 + 1, none⟩ = some (.complex .f64 (fw l[k].1.2) (fw l[k].2.2)) := by
  obtain ⟨b, o, rfl, hb, hc⟩ := h.at k hk
  exact ⟨b, o, rfl, hb, hc 0 _ rfl, hc 1 _ rfl⟩
/-- A box beside a row of another type that grows. -/
theorem Box.beside {β : Type} {L' : Lay β} {e' t : TypeId} {w w' : World} {n b2 : Nat} {cs : Array Value} {u u' : Value} {m : List β} (h : Box w n cs t) (ho : OwnX L' e' w b2 u m) (he : t ≠ e') (hg : Grew w w' u u') : Box w' n cs t := by
  refine h.keep hg.grown (fun e => ?_)
  rcases ho.2 with ⟨rfl, _⟩ | ⟨g, cap, cur, rfl, _, hh, _⟩
  · cases e
  · simp [Value.ownBlock] at e
    subst e
    unfold Box at h
    rw [h] at hh
    injection hh with hh
    injection hh with _ hh _
    exact he hh
theorem map_snoc {α β : Type} (f : α → β) (l : List α) (k : Nat) (h : k < l.length) : (l.take (k + 1)).map f = (l.take k).map f ++ [f l[k]] := by
  rw [List.take_succ_eq_append_getElem h, List.map_append]; rfl

set_option maxHeartbeats 8000000 in
theorem p_rminus {va vb : Value} {a b : Re} (ha : Rc va a) (hoa : okR a) (hb : Rc vb b) (hob : okR b) (w : World) :
    Calls Try.prog 19 #[va, vb] w fun e w' => ∃ v', e = .returned v' ∧ OwnRx w' w.heap.size v' (pMinus a b) ∧ Below w.heap.size w w' := by
  have E1 := Lib.hid (fun w => p_epochs ha hoa w)
  have E2 := Lib.hid (fun w => p_epochs hb hob w)
  have T1 := Lib.hid (fun w => p_times ha hoa w)
  have T2 := Lib.hid (fun w => p_times hb hob w)
  have M1 := Lib.hid (fun w => p_meet a.1 b.1 w)
  have N1 := Lib.hid (fun w => p_minus a.1 b.1 w)
  have N2 := Lib.hid (fun w => p_minus a.2 b.2 w)
  have MR := Lib.hid p_rect
  have hs1 := minus_len a.1 b.1
  have hs2 := minus_len a.2 b.2
  have hp := Lib.hid (show pMinus a b = (minusF a.1 b.1).map (fun e => (e, a.2)) ++ (if (meetF a.1 b.1).2 = true then (minusF a.2 b.2).map (fun t => ((meetF a.1 b.1).1, t)) else []) from rfl)
  obtain ⟨a1, a2, a3, a4, rfl, -, -, -, -⟩ := ha
  obtain ⟨b1, b2, b3, b4, rfl, -, -, -, -⟩ := hb
  clear hoa hob
  generalize pMinus a b = res at *
  generalize meetF a.1 b.1 = mm at *
  generalize minusF a.1 b.1 = s1 at *
  generalize minusF a.2 b.2 = s2 at *
  obtain ⟨⟨m1, m2⟩, k⟩ := mm
  obtain ⟨⟨x1, x2⟩, ⟨z1, z2⟩⟩ := a
  obtain ⟨⟨u1, u2⟩, ⟨v1, v2⟩⟩ := b
  have hsp : ∀ x : Sp, spV x = .agg #[.int .i64 x.1, .int .i64 x.2] := fun _ => rfl
  have hre : ∀ r : Re, reC r = .agg #[.complex .f64 (fw r.1.1) (fw r.2.1), .complex .f64 (fw r.1.2) (fw r.2.2)] := fun _ => rfl
  simp only [hsp, hre] at E1 E2 T1 T2 M1 N1 N2 MR
  simp only at hp
  clear hsp hre
  have B0 := Lib.hid ((Box.new w #[.complex .f64 a1 a2, .complex .f64 a3 a4] 28 _ rfl).alloc (.cells #[.complex .f64 b1 b2, .complex .f64 b3 b4] 28))
  have B1 := Lib.hid (Box.new (w.alloc (.cells #[.complex .f64 a1 a2, .complex .f64 a3 a4] 28)) #[.complex .f64 b1 b2, .complex .f64 b3 b4] 28 (w.heap.size + 1) (by simp))
  have G := Lib.hid ((alloc_below w (.cells #[.complex .f64 a1 a2, .complex .f64 a3 a4] 28)).alloc (by simp) (.cells #[.complex .f64 b1 b2, .complex .f64 b3 b4] 28))
  go_enter Try.func19, Try.ntmps19
  go_wp2_with fail
  generalize (w.alloc (.cells #[.complex .f64 a1 a2, .complex .f64 a3 a4] 28)).alloc (.cells #[.complex .f64 b1 b2, .complex .f64 b3 b4] 28) = W0 at *
  have l0 := B0.out.lt
  have l1 := B1.out.lt
  have HI : (fun W => Below W0.heap.size W0 W) W0.drew := (Below.refl _ _).drewN 1
-- REGION A
  refine regk_start [] (fun W => Below W0.heap.size W0 W) (by kernel_rfl) ?_
  refine regk_take 0 12 (v := ?_) (T' := ?_) HI (by kernel_rfl) (by kernel_rfl) (by kernel_rfl) (by kernel_rfl) (by kernel_rfl) (by kernel_rfl) (fun _ _ _ h => h) (fun o ho => ?_) ?_ ?_
  rotate_left 2
  · cases ho
    refine ⟨rfl, rfl, fun W hW => ?_⟩
    have hV0 := (Below.cell (p := ⟨w.heap.size, 0, none⟩) (show Below W0.heap.size W0 W from hW) l0).trans (B0.out.cell 0 (.complex .f64 a1 a2) rfl)
    have hV1 := (Below.cell (p := ⟨w.heap.size, 1, none⟩) (show Below W0.heap.size W0 W from hW) l0).trans (B0.out.cell 1 (.complex .f64 a3 a4) rfl)
    go_simp; (try with_reducible rfl)
  · simp only [List.setIfInBounds_toArray, List.set_cons_succ, List.set_cons_zero]; exact rfl
  refine regk_take 2 14 (v := ?_) (T' := ?_) HI (by kernel_rfl) (by kernel_rfl) (by kernel_rfl) (by kernel_rfl) (by kernel_rfl) (by kernel_rfl) (fun _ _ _ h => h) (fun o ho => ?_) ?_ ?_
  rotate_left 2
  · cases ho
    refine ⟨rfl, rfl, fun W hW => ?_⟩
    have hV0 := (Below.cell (p := ⟨w.heap.size + 1, 0, none⟩) (show Below W0.heap.size W0 W from hW) l1).trans (B1.out.cell 0 (.complex .f64 b1 b2) rfl)
    have hV1 := (Below.cell (p := ⟨w.heap.size + 1, 1, none⟩) (show Below W0.heap.size W0 W from hW) l1).trans (B1.out.cell 1 (.complex .f64 b3 b4) rfl)
    go_simp; (try with_reducible rfl)
  · simp only [List.setIfInBounds_toArray, List.set_cons_succ, List.set_cons_zero]; exact rfl
  refine regk_free 6 18 (v := ?_) (T' := ?_) (fun _ => HI) (by kernel_rfl) (by kernel_rfl) (by kernel_rfl) (by kernel_rfl) (fun _ _ _ h => h) (fun o ho => ?_) ?_ ?_
  rotate_left 2
  · cases ho
    refine ⟨rfl, rfl, fun W => ?_⟩
    go_simp; (try with_reducible rfl)
  · simp only [List.setIfInBounds_toArray, List.set_cons_succ, List.set_cons_zero]; exact rfl
  refine regk_call (I' := (fun W => Below W0.heap.size W0 W)) (fun _ h => h) 1 13 (by kernel_rfl) 25 #[.agg #[.complex .f64 a1 a2, .complex .f64 a3 a4]] (fun o ho => by cases ho; exact ⟨rfl, rfl, fun W => by go_simp⟩) ?_
  refine (E1.out _).mono ?_
  rintro e y1 ⟨rfl, hb1⟩
  have HI : (fun W => Below W0.heap.size W0 W) y1 := (show Below W0.heap.size W0 _ from HI).trans (hb1.mono (show Below W0.heap.size W0 _ from HI).size)
  refine ⟨_, _, rfl, fun _ => HI, (by simp only [List.setIfInBounds_toArray, List.set_cons_succ, List.set_cons_zero]; exact rfl), ?_⟩
  refine regk_call (I' := (fun W => Below W0.heap.size W0 W)) (fun _ h => h) 3 15 (by kernel_rfl) 25 #[.agg #[.complex .f64 b1 b2, .complex .f64 b3 b4]] (fun o ho => by cases ho; exact ⟨rfl, rfl, fun W => by go_simp⟩) ?_
  refine (E2.out _).mono ?_
  rintro e y2 ⟨rfl, hb2⟩
  have HI : (fun W => Below W0.heap.size W0 W) y2 := (show Below W0.heap.size W0 _ from HI).trans (hb2.mono (show Below W0.heap.size W0 _ from HI).size)
  refine ⟨_, _, rfl, fun _ => HI, (by simp only [List.setIfInBounds_toArray, List.set_cons_succ, List.set_cons_zero]; exact rfl), ?_⟩
  refine regk_call (I' := (fun W => Below W0.heap.size W0 W)) (fun _ h => h) 4 16 (by kernel_rfl) 32 #[.agg #[.int .i64 x1, .int .i64 x2], .agg #[.int .i64 u1, .int .i64 u2]] (fun o ho => by cases ho; exact ⟨rfl, rfl, fun W => by go_simp⟩) ?_
  refine (N1.out _).mono ?_
  rintro e y3 ⟨v3, rfl, ho3, hb3⟩
  have HI : (fun W => Below W0.heap.size W0 W) y3 := (show Below W0.heap.size W0 _ from HI).trans (hb3.mono (show Below W0.heap.size W0 _ from HI).size)
  have ho3 := Lib.hid ho3
  obtain ⟨A3, c3, e3, -⟩ := ho3.out.rd
  subst e3
  refine ⟨_, _, rfl, fun _ => HI, (by simp only [List.setIfInBounds_toArray, List.set_cons_succ, List.set_cons_zero]; exact rfl), ?_⟩
  refine regk_free 5 17 (v := ?_) (T' := ?_) (fun _ => HI) (by kernel_rfl) (by kernel_rfl) (by kernel_rfl) (by kernel_rfl) (fun _ _ _ h => h) (fun o ho => ?_) ?_ ?_
  rotate_left 2
  · cases ho
    refine ⟨rfl, rfl, fun W => ?_⟩
    go_simp; (try with_reducible rfl)
  · simp only [List.setIfInBounds_toArray, List.set_cons_succ, List.set_cons_zero]; exact rfl
  refine regk_done (by kernel_rfl) ?_
-- DONE A
  have B0 := Lib.hid (B0.out.later (show Below W0.heap.size W0 _ from HI))
  have B1 := Lib.hid (B1.out.later (show Below W0.heap.size W0 _ from HI))
  have G := Lib.hid (G.out.trans ((show Below W0.heap.size W0 _ from HI).mono G.out.size))
  have RL := Lib.hid ho3.out.rd
  clear ho3 HI hb1 hb2 hb3 l0 l1
  go_wp2_with fail
  go_loopw [5, 18] (fun x i wr => ∃ k : Nat, i = .int .i64 k ∧ k ≤ s1.length ∧ OwnRx wr y3.heap.size x ((s1.take k).map fun e => (e, (z1, z2))) ∧ Below y3.heap.size y3 wr) (fun _ i _ => s1.length - (intOf i).toNat)
  case atStart => exact ⟨0, rfl, Nat.zero_le _, OwnX.nil _ _, Below.refl _ _⟩
  case round =>
    obtain ⟨j, rfl, hj, ho, hb⟩ := hrel
    have O := Lib.hid ho
    have GW := Lib.hid hb
    have B0w := Lib.hid (B0.out.later hb)
    have B1w := Lib.hid (B1.out.later hb)
    clear ho hb
    by_cases hlt : j < s1.length
    · obtain ⟨ba, oa, rfl, hba, c0, c1⟩ := RdSp.here (RL.out.below GW.out) j hlt
      have hba2 : ba < wr.heap.size := by have := GW.out.size; omega
      have FS := Lib.hid (map_snoc (fun e : Sp => (e, ((z1, z2) : Sp))) s1 j hlt)
      have hol : ((s1.take j).map fun e : Sp => (e, ((z1, z2) : Sp))).length + 1 ≤ 1000000000 := by
        have := List.length_take_le j s1
        rw [List.length_map]; omega
      generalize (s1.take j).map (fun e : Sp => (e, ((z1, z2) : Sp))) = acc at *
      have HR := Lib.hid (MR.out s1[j] (z1, z2))
      generalize s1[j] = q at *
      obtain ⟨q1, q2⟩ := q
      simp only at HR
      have BX := Lib.hid (Box.new wr #[.int .i64 q1, .int .i64 q2] 23 _ rfl)
      have B0x := Lib.hid (B0w.out.alloc (.cells #[.int .i64 q1, .int .i64 q2] 23))
      have O := Lib.hid (O.out.on (alloc_below wr (.cells #[.int .i64 q1, .int .i64 q2] 23)))
      have GW := Lib.hid (GW.out.alloc GW.out.size (.cells #[.int .i64 q1, .int .i64 q2] 23))
      go_wp2_with fail
      generalize hws : wr.alloc (.cells #[.int .i64 q1, .int .i64 q2] 23) = ws at *
      have l3 := BX.out.lt
      have l4 := B0x.out.lt
      have HI : (fun W => Below ws.heap.size ws W) ws.drew := (Below.refl _ _).drewN 1
-- REGION B
      refine regk_start [5, 6] (fun W => Below ws.heap.size ws W) (by kernel_rfl) ?_
      refine regk_free 0 22 (v := ?_) (T' := ?_) (fun _ => HI) (by kernel_rfl) (by kernel_rfl) (by kernel_rfl) (by kernel_rfl) (fun _ _ _ h => h) (fun o ho => ?_) ?_ ?_
      rotate_left 2
      · cases ho
        refine ⟨rfl, rfl, fun W => ?_⟩
        go_simp; (try with_reducible rfl)
      · simp only [List.setIfInBounds_toArray, List.set_cons_succ, List.set_cons_zero]; exact rfl
      refine regk_take 1 23 (v := ?_) (T' := ?_) HI (by kernel_rfl) (by kernel_rfl) (by kernel_rfl) (by kernel_rfl) (by kernel_rfl) (by kernel_rfl) (fun _ _ _ h => h) (fun o ho => ?_) ?_ ?_
      rotate_left 2
      · cases ho
        refine ⟨rfl, rfl, fun W hW => ?_⟩
        have hV0 := (Below.cell (p := ⟨wr.heap.size, 0, none⟩) (show Below ws.heap.size ws W from hW) l3).trans (BX.out.cell 0 (.int .i64 q1) rfl)
        have hV1 := (Below.cell (p := ⟨wr.heap.size, 1, none⟩) (show Below ws.heap.size ws W from hW) l3).trans (BX.out.cell 1 (.int .i64 q2) rfl)
        go_simp; (try with_reducible rfl)
      · simp only [List.setIfInBounds_toArray, List.set_cons_succ, List.set_cons_zero]; exact rfl
      refine regk_take 2 24 (v := ?_) (T' := ?_) HI (by kernel_rfl) (by kernel_rfl) (by kernel_rfl) (by kernel_rfl) (by kernel_rfl) (by kernel_rfl) (fun _ _ _ h => h) (fun o ho => ?_) ?_ ?_
      rotate_left 2
      · cases ho
        refine ⟨rfl, rfl, fun W hW => ?_⟩
        have hV0 := (Below.cell (p := ⟨w.heap.size, 0, none⟩) (show Below ws.heap.size ws W from hW) l4).trans (B0x.out.cell 0 (.complex .f64 a1 a2) rfl)
        have hV1 := (Below.cell (p := ⟨w.heap.size, 1, none⟩) (show Below ws.heap.size ws W from hW) l4).trans (B0x.out.cell 1 (.complex .f64 a3 a4) rfl)
        go_simp; (try with_reducible rfl)
      · simp only [List.setIfInBounds_toArray, List.set_cons_succ, List.set_cons_zero]; exact rfl
      refine regk_call (I' := (fun W => Below ws.heap.size ws W)) (fun _ h => h) 3 25 (by kernel_rfl) 26 #[.agg #[.complex .f64 a1 a2, .complex .f64 a3 a4]] (fun o ho => by cases ho; exact ⟨rfl, rfl, fun W => by go_simp⟩) ?_
      refine (T1.out _).mono ?_
      rintro e y11 ⟨rfl, hb11⟩
      have HI : (fun W => Below ws.heap.size ws W) y11 := (show Below ws.heap.size ws _ from HI).trans (hb11.mono (show Below ws.heap.size ws _ from HI).size)
      refine ⟨_, _, rfl, fun _ => HI, (by simp only [List.setIfInBounds_toArray, List.set_cons_succ, List.set_cons_zero]; exact rfl), ?_⟩
      refine regk_call (I' := (fun W => Below ws.heap.size ws W)) (fun _ h => h) 4 26 (by kernel_rfl) 31 #[.agg #[.int .i64 q1, .int .i64 q2], .agg #[.int .i64 z1, .int .i64 z2]] (fun o ho => by cases ho; exact ⟨rfl, rfl, fun W => by go_simp⟩) ?_
      refine (HR.out _).mono ?_
      rintro e y12 ⟨rfl, hb12⟩
      have HI : (fun W => Below ws.heap.size ws W) y12 := (show Below ws.heap.size ws _ from HI).trans (hb12.mono (show Below ws.heap.size ws _ from HI).size)
      refine ⟨_, _, rfl, fun _ => HI, (by simp only [List.setIfInBounds_toArray, List.set_cons_succ, List.set_cons_zero]; exact rfl), ?_⟩
      refine regk_make (I' := (fun W => Below ws.heap.size ws W)) (fun _ h => h) 5 27 (v := .slice (some ⟨y12.heap.size, 0, none⟩) 1 1) (w' := y12.alloc (.cells #[.complex .f64 (fw q1) (fw z1), .complex .f64 (fw q2) (fw z2)] 28)) (T' := ?_) (by kernel_rfl) (fun o ho => ?_) (noB_no (by kernel_rfl)) ?_ ?_
      rotate_left
      · cases ho
        refine ⟨rfl, rfl, ?_⟩
        go_simp; (try with_reducible rfl)
      · simp only [List.setIfInBounds_toArray, List.set_cons_succ, List.set_cons_zero]; exact rfl
      have HS := OwnX.new (L := rxL) (e := 28) y12 #[.complex .f64 (fw q1) (fw z1), .complex .f64 (fw q2) (fw z2)] [(((q1, q2) : Sp), ((z1, z2) : Sp))] 1 rfl rfl (by simp)
      have HJ : Below ws.heap.size ws (y12.alloc (.cells #[.complex .f64 (fw q1) (fw z1), .complex .f64 (fw q2) (fw z2)] 28)) := (show Below ws.heap.size ws y12 from HI).alloc (show Below ws.heap.size ws y12 from HI).size _
      generalize y12.alloc (.cells #[.complex .f64 (fw q1) (fw z1), .complex .f64 (fw q2) (fw z2)] 28) = y13 at *
      obtain ⟨v7, w7, hrun, ho7, hg7, hb7⟩ := appX_rd (P := Try.prog) (L := rxL) (W := y13) (t := 40) (ty := 40) Try.underlying40 rx_info rfl (OwnX.on O.out HJ) HS.rd (Nat.le_trans GW.out.size HJ.size) hol (by decide)
      refine regk_make (I' := (fun W => Below ws.heap.size ws W)) (fun _ h => h) 6 28 (v := v7) (w' := w7) (T' := ?_) (by kernel_rfl) (fun o ho => ?_) (noB_no (by kernel_rfl)) ?_ ?_
      rotate_left
      · cases ho
        exact ⟨rfl, rfl, exec_appK (.tmp 22) (.tmp 27) rfl rfl rfl hrun⟩
      · simp only [List.setIfInBounds_toArray, List.set_cons_succ, List.set_cons_zero]; exact rfl
      refine regk_free 7 5 (v := ?_) (T' := ?_) (noB_no (by kernel_rfl)) (by kernel_rfl) (by kernel_rfl) (by kernel_rfl) (by kernel_rfl) (fun _ _ _ h => h) (fun o ho => ?_) ?_ ?_
      rotate_left 2
      · cases ho
        refine ⟨rfl, rfl, fun W => ?_⟩
        go_simp; (try with_reducible rfl)
      · simp only [List.setIfInBounds_toArray, List.set_cons_succ, List.set_cons_zero]; exact rfl
      refine regk_done (by kernel_rfl) ?_
-- DONE B
      have GZ := Lib.hid ((GW.out.trans (HJ.mono GW.out.size)).trans hb7)
      have OZ := Lib.hid (show OwnRx w7 y3.heap.size v7 ((s1.take (j + 1)).map fun e : Sp => (e, ((z1, z2) : Sp))) from by rw [FS.out]; exact ho7)
      clear HI HJ HS hrun ho7 hg7 hb7 l3 l4 hb11 hb12
      go_wp2_with fail
      go_roundw
      case rel => exact ⟨j + 1, by go_num, by omega, OZ.out, GZ.out⟩
      case measure => simp [intOf]; omega
    · have hke : s1.take j = s1 := List.take_of_length_le (by omega)
      have O := Lib.hid (show OwnRx wr y3.heap.size u5 (s1.map fun e : Sp => (e, ((z1, z2) : Sp))) from by have := O.out; rw [hke] at this; exact this)
      clear hke
      go_wp2_with fail
      have l0 := B0w.out.lt
      have l1 := B1w.out.lt
      refine region_via2 (fun T ds a' W => ∃ n, a' = ⟨((((((((((T.setIfInBounds 31 (.agg #[.complex .f64 a1 a2, .complex .f64 a3 a4])).setIfInBounds 32 (.agg #[.int .i64 x1, .int .i64 x2])).setIfInBounds 33 (.agg #[.complex .f64 b1 b2, .complex .f64 b3 b4])).setIfInBounds 34 (.agg #[.int .i64 u1, .int .i64 u2])).setIfInBounds 35 (.tuple #[.agg #[.int .i64 m1, .int .i64 m2], .bool k])).setIfInBounds 30 (.tuple #[.agg #[.int .i64 m1, .int .i64 m2], .bool k])).setIfInBounds 36 (.agg #[.int .i64 m1, .int .i64 m2])).setIfInBounds 37 (.bool k)).setIfInBounds 8 (.pointer (some ⟨n, 0, none⟩))).setIfInBounds 9 (.bool k)), ds⟩ ∧ wr.heap.size ≤ n ∧ Box W n #[.int .i64 m1, .int .i64 m2] 23 ∧ Below wr.heap.size wr W) ?_ ?_
      · have HI : (fun W => Below wr.heap.size wr W) wr.drew := (Below.refl _ _).drewN 1
-- REGION C
        refine regk_start [9] (fun W => Below wr.heap.size wr W) (by kernel_rfl) ?_
        generalize wr.drew = y0 at *
        refine regk_take 0 31 (v := ?_) (T' := ?_) HI (by kernel_rfl) (by kernel_rfl) (by kernel_rfl) (by kernel_rfl) (by kernel_rfl) (by kernel_rfl) (fun _ _ _ h => h) (fun o ho => ?_) ?_ ?_
        rotate_left 2
        · cases ho
          refine ⟨rfl, rfl, fun W hW => ?_⟩
          have hV0 := (Below.cell (p := ⟨w.heap.size, 0, none⟩) (show Below wr.heap.size wr W from hW) l0).trans (B0w.out.cell 0 (.complex .f64 a1 a2) rfl)
          have hV1 := (Below.cell (p := ⟨w.heap.size, 1, none⟩) (show Below wr.heap.size wr W from hW) l0).trans (B0w.out.cell 1 (.complex .f64 a3 a4) rfl)
          go_simp; (try with_reducible rfl)
        · simp only [List.setIfInBounds_toArray, List.set_cons_succ, List.set_cons_zero]; exact rfl
        refine regk_take 2 33 (v := ?_) (T' := ?_) HI (by kernel_rfl) (by kernel_rfl) (by kernel_rfl) (by kernel_rfl) (by kernel_rfl) (by kernel_rfl) (fun _ _ _ h => h) (fun o ho => ?_) ?_ ?_
        rotate_left 2
        · cases ho
          refine ⟨rfl, rfl, fun W hW => ?_⟩
          have hV0 := (Below.cell (p := ⟨w.heap.size + 1, 0, none⟩) (show Below wr.heap.size wr W from hW) l1).trans (B1w.out.cell 0 (.complex .f64 b1 b2) rfl)
          have hV1 := (Below.cell (p := ⟨w.heap.size + 1, 1, none⟩) (show Below wr.heap.size wr W from hW) l1).trans (B1w.out.cell 1 (.complex .f64 b3 b4) rfl)
          go_simp; (try with_reducible rfl)
        · simp only [List.setIfInBounds_toArray, List.set_cons_succ, List.set_cons_zero]; exact rfl
        refine regk_fork 1 8 (by kernel_rfl) ?_ ?_
        ·
          refine fork_call 1 32 (by kernel_rfl) 25 #[.agg #[.complex .f64 a1 a2, .complex .f64 a3 a4]] (fun o ho => by cases ho; exact ⟨rfl, rfl, fun W => by go_simp⟩) ?_
          refine (E1.out _).mono ?_
          rintro e y1 ⟨rfl, hb⟩
          have HI : (fun W => Below wr.heap.size wr W) y1 := (show Below wr.heap.size wr y0 from HI).trans (hb.mono (show Below wr.heap.size wr y0 from HI).size)
          try (have HN := HN.later hb)
          refine ⟨_, _, rfl, (by simp only [List.setIfInBounds_toArray, List.set_cons_succ, List.set_cons_zero]; exact rfl), fun _ => HI, ?_⟩
          refine regk_fork 3 8 (by kernel_rfl) ?_ ?_
          ·
            refine fork_call 3 34 (by kernel_rfl) 25 #[.agg #[.complex .f64 b1 b2, .complex .f64 b3 b4]] (fun o ho => by cases ho; exact ⟨rfl, rfl, fun W => by go_simp⟩) ?_
            refine (E2.out _).mono ?_
            rintro e y2 ⟨rfl, hb⟩
            have HI : (fun W => Below wr.heap.size wr W) y2 := (show Below wr.heap.size wr y1 from HI).trans (hb.mono (show Below wr.heap.size wr y1 from HI).size)
            try (have HN := HN.later hb)
            refine ⟨_, _, rfl, (by simp only [List.setIfInBounds_toArray, List.set_cons_succ, List.set_cons_zero]; exact rfl), fun _ => HI, ?_⟩
            refine regk_fork 4 8 (by kernel_rfl) ?_ ?_
            ·
              refine fork_call 4 35 (by kernel_rfl) 30 #[.agg #[.int .i64 x1, .int .i64 x2], .agg #[.int .i64 u1, .int .i64 u2]] (fun o ho => by cases ho; exact ⟨rfl, rfl, fun W => by go_simp⟩) ?_
              refine (M1.out _).mono ?_
              rintro e y3 ⟨rfl, hb⟩
              have HI : (fun W => Below wr.heap.size wr W) y3 := (show Below wr.heap.size wr y2 from HI).trans (hb.mono (show Below wr.heap.size wr y2 from HI).size)
              try (have HN := HN.later hb)
              refine ⟨_, _, rfl, (by simp only [List.setIfInBounds_toArray, List.set_cons_succ, List.set_cons_zero]; exact rfl), fun _ => HI, ?_⟩
              refine regk_free 5 30 (v := ?_) (T' := ?_) (fun _ => HI) (by kernel_rfl) (by kernel_rfl) (by kernel_rfl) (by kernel_rfl) (fun _ _ _ h => h) (fun o ho => ?_) ?_ ?_
              rotate_left 2
              · cases ho
                refine ⟨rfl, rfl, fun W => ?_⟩
                go_simp; (try with_reducible rfl)
              · simp only [List.setIfInBounds_toArray, List.set_cons_succ, List.set_cons_zero]; exact rfl
              refine regk_free 6 36 (v := ?_) (T' := ?_) (fun _ => HI) (by kernel_rfl) (by kernel_rfl) (by kernel_rfl) (by kernel_rfl) (fun _ _ _ h => h) (fun o ho => ?_) ?_ ?_
              rotate_left 2
              · cases ho
                refine ⟨rfl, rfl, fun W => ?_⟩
                go_simp; (try with_reducible rfl)
              · simp only [List.setIfInBounds_toArray, List.set_cons_succ, List.set_cons_zero]; exact rfl
              refine regk_free 7 37 (v := ?_) (T' := ?_) (fun _ => HI) (by kernel_rfl) (by kernel_rfl) (by kernel_rfl) (by kernel_rfl) (fun _ _ _ h => h) (fun o ho => ?_) ?_ ?_
              rotate_left 2
              · cases ho
                refine ⟨rfl, rfl, fun W => ?_⟩
                go_simp; (try with_reducible rfl)
              · simp only [List.setIfInBounds_toArray, List.set_cons_succ, List.set_cons_zero]; exact rfl
              refine regk_make (I' := (fun W => Below wr.heap.size wr W)) (fun _ h => h) 8 8 (v := .pointer (some ⟨y3.heap.size, 0, none⟩)) (w' := y3.alloc (.cells #[.int .i64 0, .int .i64 0] 23)) (T' := ?_) (by kernel_rfl) (fun o ho => ?_) (fun _ => ?_) ?_ ?_
              rotate_left
              · cases ho
                refine ⟨rfl, rfl, ?_⟩
                go_simp; (try with_reducible rfl)
              · exact (show Below wr.heap.size wr y3 from HI).alloc (show Below wr.heap.size wr y3 from HI).size _
              · simp only [List.setIfInBounds_toArray, List.set_cons_succ, List.set_cons_zero]; exact rfl
              have HN := Box.new y3 #[.int .i64 0, .int .i64 0] 23 _ rfl
              have hn : wr.heap.size ≤ y3.heap.size := (show Below wr.heap.size wr y3 from HI).size
              have HI : (fun W => Below wr.heap.size wr W) (y3.alloc (.cells #[.int .i64 0, .int .i64 0] 23)) := (show Below wr.heap.size wr y3 from HI).alloc (show Below wr.heap.size wr y3 from HI).size _
              generalize y3.alloc (.cells #[.int .i64 0, .int .i64 0] 23) = y4 at *
              generalize y3.heap.size = n at *
              have f0 := HN.frozen 0
              have f1 := HN.frozen 1
              have z0 := HN.cell 0 (.int .i64 0) rfl
              have z1 := HN.cell 1 (.int .i64 0) rfl
              refine regk_store (I' := (fun W => Below wr.heap.size wr W)) (fun _ h => h) 9 (w' := (y4.setCell ⟨n, 0, none⟩ (.int .i64 m1)).setCell ⟨n, 1, none⟩ (.int .i64 m2)) (by kernel_rfl) (fun o ho => ?_) (noB_no (by kernel_rfl)) ?_
              · cases ho
                refine ⟨rfl, rfl, ?_⟩
                go_simp; (try with_reducible rfl)
              refine regk_free 10 9 (v := ?_) (T' := ?_) (noB_no (by kernel_rfl)) (by kernel_rfl) (by kernel_rfl) (by kernel_rfl) (by kernel_rfl) (fun _ _ _ h => h) (fun o ho => ?_) ?_ ?_
              rotate_left 2
              · cases ho
                refine ⟨rfl, rfl, fun W => ?_⟩
                go_simp; (try with_reducible rfl)
              · simp only [List.setIfInBounds_toArray, List.set_cons_succ, List.set_cons_zero]; exact rfl
              refine regk_done (by kernel_rfl) ?_
              refine Ends.mk ⟨n, ?_, hn, (HN.set 0 (.int .i64 m1)).set 1 (.int .i64 m2), ((show Below wr.heap.size wr y4 from HI).setCell (p := ⟨n, 0, none⟩) hn _).setCell (p := ⟨n, 1, none⟩) hn _⟩
              simp only [List.setIfInBounds_toArray, List.set_cons_succ, List.set_cons_zero]
            ·
              refine fork_make 8 8 (v := .pointer (some ⟨y2.heap.size, 0, none⟩)) (w' := y2.alloc (.cells #[.int .i64 0, .int .i64 0] 23)) (T' := ?_) (by kernel_rfl) (fun o ho => ?_) ?_ ?_
              rotate_left
              · cases ho
                refine ⟨rfl, rfl, ?_⟩
                go_simp; (try with_reducible rfl)
              · simp only [List.setIfInBounds_toArray, List.set_cons_succ, List.set_cons_zero]; exact rfl
              refine ⟨fun _ => (show Below wr.heap.size wr y2 from HI).alloc (show Below wr.heap.size wr y2 from HI).size _, ?_⟩
              have HN := Box.new y2 #[.int .i64 0, .int .i64 0] 23 _ rfl
              have hn : wr.heap.size ≤ y2.heap.size := (show Below wr.heap.size wr y2 from HI).size
              have HI : (fun W => Below wr.heap.size wr W) (y2.alloc (.cells #[.int .i64 0, .int .i64 0] 23)) := (show Below wr.heap.size wr y2 from HI).alloc (show Below wr.heap.size wr y2 from HI).size _
              generalize y2.alloc (.cells #[.int .i64 0, .int .i64 0] 23) = y5 at *
              generalize y2.heap.size = n at *
              refine regk_call (I' := (fun W => Below wr.heap.size wr W)) (fun _ h => h) 4 35 (by kernel_rfl) 30 #[.agg #[.int .i64 x1, .int .i64 x2], .agg #[.int .i64 u1, .int .i64 u2]] (fun o ho => by cases ho; exact ⟨rfl, rfl, fun W => by go_simp⟩) ?_
              refine (M1.out _).mono ?_
              rintro e y6 ⟨rfl, hb⟩
              have HI : (fun W => Below wr.heap.size wr W) y6 := (show Below wr.heap.size wr y5 from HI).trans (hb.mono (show Below wr.heap.size wr y5 from HI).size)
              try (have HN := HN.later hb)
              refine ⟨_, _, rfl, fun _ => HI, (by simp only [List.setIfInBounds_toArray, List.set_cons_succ, List.set_cons_zero]; exact rfl), ?_⟩
              refine regk_free 5 30 (v := ?_) (T' := ?_) (fun _ => HI) (by kernel_rfl) (by kernel_rfl) (by kernel_rfl) (by kernel_rfl) (fun _ _ _ h => h) (fun o ho => ?_) ?_ ?_
              rotate_left 2
              · cases ho
                refine ⟨rfl, rfl, fun W => ?_⟩
                go_simp; (try with_reducible rfl)
              · simp only [List.setIfInBounds_toArray, List.set_cons_succ, List.set_cons_zero]; exact rfl
              refine regk_free 6 36 (v := ?_) (T' := ?_) (fun _ => HI) (by kernel_rfl) (by kernel_rfl) (by kernel_rfl) (by kernel_rfl) (fun _ _ _ h => h) (fun o ho => ?_) ?_ ?_
              rotate_left 2
              · cases ho
                refine ⟨rfl, rfl, fun W => ?_⟩
                go_simp; (try with_reducible rfl)
              · simp only [List.setIfInBounds_toArray, List.set_cons_succ, List.set_cons_zero]; exact rfl
              refine regk_free 7 37 (v := ?_) (T' := ?_) (fun _ => HI) (by kernel_rfl) (by kernel_rfl) (by kernel_rfl) (by kernel_rfl) (fun _ _ _ h => h) (fun o ho => ?_) ?_ ?_
              rotate_left 2
              · cases ho
                refine ⟨rfl, rfl, fun W => ?_⟩
                go_simp; (try with_reducible rfl)
              · simp only [List.setIfInBounds_toArray, List.set_cons_succ, List.set_cons_zero]; exact rfl
              have f0 := HN.frozen 0
              have f1 := HN.frozen 1
              have z0 := HN.cell 0 (.int .i64 0) rfl
              have z1 := HN.cell 1 (.int .i64 0) rfl
              refine regk_store (I' := (fun W => Below wr.heap.size wr W)) (fun _ h => h) 9 (w' := (y6.setCell ⟨n, 0, none⟩ (.int .i64 m1)).setCell ⟨n, 1, none⟩ (.int .i64 m2)) (by kernel_rfl) (fun o ho => ?_) (noB_no (by kernel_rfl)) ?_
              · cases ho
                refine ⟨rfl, rfl, ?_⟩
                go_simp; (try with_reducible rfl)
              refine regk_free 10 9 (v := ?_) (T' := ?_) (noB_no (by kernel_rfl)) (by kernel_rfl) (by kernel_rfl) (by kernel_rfl) (by kernel_rfl) (fun _ _ _ h => h) (fun o ho => ?_) ?_ ?_
              rotate_left 2
              · cases ho
                refine ⟨rfl, rfl, fun W => ?_⟩
                go_simp; (try with_reducible rfl)
              · simp only [List.setIfInBounds_toArray, List.set_cons_succ, List.set_cons_zero]; exact rfl
              refine regk_done (by kernel_rfl) ?_
              refine Ends.mk ⟨n, ?_, hn, (HN.set 0 (.int .i64 m1)).set 1 (.int .i64 m2), ((show Below wr.heap.size wr y6 from HI).setCell (p := ⟨n, 0, none⟩) hn _).setCell (p := ⟨n, 1, none⟩) hn _⟩
              simp only [List.setIfInBounds_toArray, List.set_cons_succ, List.set_cons_zero]
          ·
            refine fork_make 8 8 (v := .pointer (some ⟨y1.heap.size, 0, none⟩)) (w' := y1.alloc (.cells #[.int .i64 0, .int .i64 0] 23)) (T' := ?_) (by kernel_rfl) (fun o ho => ?_) ?_ ?_
            rotate_left
            · cases ho
              refine ⟨rfl, rfl, ?_⟩
              go_simp; (try with_reducible rfl)
            · simp only [List.setIfInBounds_toArray, List.set_cons_succ, List.set_cons_zero]; exact rfl
            refine ⟨fun _ => (show Below wr.heap.size wr y1 from HI).alloc (show Below wr.heap.size wr y1 from HI).size _, ?_⟩
            have HN := Box.new y1 #[.int .i64 0, .int .i64 0] 23 _ rfl
            have hn : wr.heap.size ≤ y1.heap.size := (show Below wr.heap.size wr y1 from HI).size
            have HI : (fun W => Below wr.heap.size wr W) (y1.alloc (.cells #[.int .i64 0, .int .i64 0] 23)) := (show Below wr.heap.size wr y1 from HI).alloc (show Below wr.heap.size wr y1 from HI).size _
            generalize y1.alloc (.cells #[.int .i64 0, .int .i64 0] 23) = y7 at *
            generalize y1.heap.size = n at *
            refine regk_call (I' := (fun W => Below wr.heap.size wr W)) (fun _ h => h) 3 34 (by kernel_rfl) 25 #[.agg #[.complex .f64 b1 b2, .complex .f64 b3 b4]] (fun o ho => by cases ho; exact ⟨rfl, rfl, fun W => by go_simp⟩) ?_
            refine (E2.out _).mono ?_
            rintro e y8 ⟨rfl, hb⟩
            have HI : (fun W => Below wr.heap.size wr W) y8 := (show Below wr.heap.size wr y7 from HI).trans (hb.mono (show Below wr.heap.size wr y7 from HI).size)
            try (have HN := HN.later hb)
            refine ⟨_, _, rfl, fun _ => HI, (by simp only [List.setIfInBounds_toArray, List.set_cons_succ, List.set_cons_zero]; exact rfl), ?_⟩
            refine regk_call (I' := (fun W => Below wr.heap.size wr W)) (fun _ h => h) 4 35 (by kernel_rfl) 30 #[.agg #[.int .i64 x1, .int .i64 x2], .agg #[.int .i64 u1, .int .i64 u2]] (fun o ho => by cases ho; exact ⟨rfl, rfl, fun W => by go_simp⟩) ?_
            refine (M1.out _).mono ?_
            rintro e y9 ⟨rfl, hb⟩
            have HI : (fun W => Below wr.heap.size wr W) y9 := (show Below wr.heap.size wr y8 from HI).trans (hb.mono (show Below wr.heap.size wr y8 from HI).size)
            try (have HN := HN.later hb)
            refine ⟨_, _, rfl, fun _ => HI, (by simp only [List.setIfInBounds_toArray, List.set_cons_succ, List.set_cons_zero]; exact rfl), ?_⟩
            refine regk_free 5 30 (v := ?_) (T' := ?_) (fun _ => HI) (by kernel_rfl) (by kernel_rfl) (by kernel_rfl) (by kernel_rfl) (fun _ _ _ h => h) (fun o ho => ?_) ?_ ?_
            rotate_left 2
            · cases ho
              refine ⟨rfl, rfl, fun W => ?_⟩
              go_simp; (try with_reducible rfl)
            · simp only [List.setIfInBounds_toArray, List.set_cons_succ, List.set_cons_zero]; exact rfl
            refine regk_free 6 36 (v := ?_) (T' := ?_) (fun _ => HI) (by kernel_rfl) (by kernel_rfl) (by kernel_rfl) (by kernel_rfl) (fun _ _ _ h => h) (fun o ho => ?_) ?_ ?_
            rotate_left 2
            · cases ho
              refine ⟨rfl, rfl, fun W => ?_⟩
              go_simp; (try with_reducible rfl)
            · simp only [List.setIfInBounds_toArray, List.set_cons_succ, List.set_cons_zero]; exact rfl
            refine regk_free 7 37 (v := ?_) (T' := ?_) (fun _ => HI) (by kernel_rfl) (by kernel_rfl) (by kernel_rfl) (by kernel_rfl) (fun _ _ _ h => h) (fun o ho => ?_) ?_ ?_
            rotate_left 2
            · cases ho
              refine ⟨rfl, rfl, fun W => ?_⟩
              go_simp; (try with_reducible rfl)
            · simp only [List.setIfInBounds_toArray, List.set_cons_succ, List.set_cons_zero]; exact rfl
            have f0 := HN.frozen 0
            have f1 := HN.frozen 1
            have z0 := HN.cell 0 (.int .i64 0) rfl
            have z1 := HN.cell 1 (.int .i64 0) rfl
            refine regk_store (I' := (fun W => Below wr.heap.size wr W)) (fun _ h => h) 9 (w' := (y9.setCell ⟨n, 0, none⟩ (.int .i64 m1)).setCell ⟨n, 1, none⟩ (.int .i64 m2)) (by kernel_rfl) (fun o ho => ?_) (noB_no (by kernel_rfl)) ?_
            · cases ho
              refine ⟨rfl, rfl, ?_⟩
              go_simp; (try with_reducible rfl)
            refine regk_free 10 9 (v := ?_) (T' := ?_) (noB_no (by kernel_rfl)) (by kernel_rfl) (by kernel_rfl) (by kernel_rfl) (by kernel_rfl) (fun _ _ _ h => h) (fun o ho => ?_) ?_ ?_
            rotate_left 2
            · cases ho
              refine ⟨rfl, rfl, fun W => ?_⟩
              go_simp; (try with_reducible rfl)
            · simp only [List.setIfInBounds_toArray, List.set_cons_succ, List.set_cons_zero]; exact rfl
            refine regk_done (by kernel_rfl) ?_
            refine Ends.mk ⟨n, ?_, hn, (HN.set 0 (.int .i64 m1)).set 1 (.int .i64 m2), ((show Below wr.heap.size wr y9 from HI).setCell (p := ⟨n, 0, none⟩) hn _).setCell (p := ⟨n, 1, none⟩) hn _⟩
            simp only [List.setIfInBounds_toArray, List.set_cons_succ, List.set_cons_zero]
        ·
          refine fork_make 8 8 (v := .pointer (some ⟨y0.heap.size, 0, none⟩)) (w' := y0.alloc (.cells #[.int .i64 0, .int .i64 0] 23)) (T' := ?_) (by kernel_rfl) (fun o ho => ?_) ?_ ?_
          rotate_left
          · cases ho
            refine ⟨rfl, rfl, ?_⟩
            go_simp; (try with_reducible rfl)
          · simp only [List.setIfInBounds_toArray, List.set_cons_succ, List.set_cons_zero]; exact rfl
          refine ⟨fun _ => (show Below wr.heap.size wr y0 from HI).alloc (show Below wr.heap.size wr y0 from HI).size _, ?_⟩
          have HN := Box.new y0 #[.int .i64 0, .int .i64 0] 23 _ rfl
          have hn : wr.heap.size ≤ y0.heap.size := (show Below wr.heap.size wr y0 from HI).size
          have HI : (fun W => Below wr.heap.size wr W) (y0.alloc (.cells #[.int .i64 0, .int .i64 0] 23)) := (show Below wr.heap.size wr y0 from HI).alloc (show Below wr.heap.size wr y0 from HI).size _
          generalize y0.alloc (.cells #[.int .i64 0, .int .i64 0] 23) = y10 at *
          generalize y0.heap.size = n at *
          refine regk_call (I' := (fun W => Below wr.heap.size wr W)) (fun _ h => h) 1 32 (by kernel_rfl) 25 #[.agg #[.complex .f64 a1 a2, .complex .f64 a3 a4]] (fun o ho => by cases ho; exact ⟨rfl, rfl, fun W => by go_simp⟩) ?_
          refine (E1.out _).mono ?_
          rintro e y11 ⟨rfl, hb⟩
          have HI : (fun W => Below wr.heap.size wr W) y11 := (show Below wr.heap.size wr y10 from HI).trans (hb.mono (show Below wr.heap.size wr y10 from HI).size)
          try (have HN := HN.later hb)
          refine ⟨_, _, rfl, fun _ => HI, (by simp only [List.setIfInBounds_toArray, List.set_cons_succ, List.set_cons_zero]; exact rfl), ?_⟩
          refine regk_call (I' := (fun W => Below wr.heap.size wr W)) (fun _ h => h) 3 34 (by kernel_rfl) 25 #[.agg #[.complex .f64 b1 b2, .complex .f64 b3 b4]] (fun o ho => by cases ho; exact ⟨rfl, rfl, fun W => by go_simp⟩) ?_
          refine (E2.out _).mono ?_
          rintro e y12 ⟨rfl, hb⟩
          have HI : (fun W => Below wr.heap.size wr W) y12 := (show Below wr.heap.size wr y11 from HI).trans (hb.mono (show Below wr.heap.size wr y11 from HI).size)
          try (have HN := HN.later hb)
          refine ⟨_, _, rfl, fun _ => HI, (by simp only [List.setIfInBounds_toArray, List.set_cons_succ, List.set_cons_zero]; exact rfl), ?_⟩
          refine regk_call (I' := (fun W => Below wr.heap.size wr W)) (fun _ h => h) 4 35 (by kernel_rfl) 30 #[.agg #[.int .i64 x1, .int .i64 x2], .agg #[.int .i64 u1, .int .i64 u2]] (fun o ho => by cases ho; exact ⟨rfl, rfl, fun W => by go_simp⟩) ?_
          refine (M1.out _).mono ?_
          rintro e y13 ⟨rfl, hb⟩
          have HI : (fun W => Below wr.heap.size wr W) y13 := (show Below wr.heap.size wr y12 from HI).trans (hb.mono (show Below wr.heap.size wr y12 from HI).size)
          try (have HN := HN.later hb)
          refine ⟨_, _, rfl, fun _ => HI, (by simp only [List.setIfInBounds_toArray, List.set_cons_succ, List.set_cons_zero]; exact rfl), ?_⟩
          refine regk_free 5 30 (v := ?_) (T' := ?_) (fun _ => HI) (by kernel_rfl) (by kernel_rfl) (by kernel_rfl) (by kernel_rfl) (fun _ _ _ h => h) (fun o ho => ?_) ?_ ?_
          rotate_left 2
          · cases ho
            refine ⟨rfl, rfl, fun W => ?_⟩
            go_simp; (try with_reducible rfl)
          · simp only [List.setIfInBounds_toArray, List.set_cons_succ, List.set_cons_zero]; exact rfl
          refine regk_free 6 36 (v := ?_) (T' := ?_) (fun _ => HI) (by kernel_rfl) (by kernel_rfl) (by kernel_rfl) (by kernel_rfl) (fun _ _ _ h => h) (fun o ho => ?_) ?_ ?_
          rotate_left 2
          · cases ho
            refine ⟨rfl, rfl, fun W => ?_⟩
            go_simp; (try with_reducible rfl)
          · simp only [List.setIfInBounds_toArray, List.set_cons_succ, List.set_cons_zero]; exact rfl
          refine regk_free 7 37 (v := ?_) (T' := ?_) (fun _ => HI) (by kernel_rfl) (by kernel_rfl) (by kernel_rfl) (by kernel_rfl) (fun _ _ _ h => h) (fun o ho => ?_) ?_ ?_
          rotate_left 2
          · cases ho
            refine ⟨rfl, rfl, fun W => ?_⟩
            go_simp; (try with_reducible rfl)
          · simp only [List.setIfInBounds_toArray, List.set_cons_succ, List.set_cons_zero]; exact rfl
          have f0 := HN.frozen 0
          have f1 := HN.frozen 1
          have z0 := HN.cell 0 (.int .i64 0) rfl
          have z1 := HN.cell 1 (.int .i64 0) rfl
          refine regk_store (I' := (fun W => Below wr.heap.size wr W)) (fun _ h => h) 9 (w' := (y13.setCell ⟨n, 0, none⟩ (.int .i64 m1)).setCell ⟨n, 1, none⟩ (.int .i64 m2)) (by kernel_rfl) (fun o ho => ?_) (noB_no (by kernel_rfl)) ?_
          · cases ho
            refine ⟨rfl, rfl, ?_⟩
            go_simp; (try with_reducible rfl)
          refine regk_free 10 9 (v := ?_) (T' := ?_) (noB_no (by kernel_rfl)) (by kernel_rfl) (by kernel_rfl) (by kernel_rfl) (by kernel_rfl) (fun _ _ _ h => h) (fun o ho => ?_) ?_ ?_
          rotate_left 2
          · cases ho
            refine ⟨rfl, rfl, fun W => ?_⟩
            go_simp; (try with_reducible rfl)
          · simp only [List.setIfInBounds_toArray, List.set_cons_succ, List.set_cons_zero]; exact rfl
          refine regk_done (by kernel_rfl) ?_
          refine Ends.mk ⟨n, ?_, hn, (HN.set 0 (.int .i64 m1)).set 1 (.int .i64 m2), ((show Below wr.heap.size wr y13 from HI).setCell (p := ⟨n, 0, none⟩) hn _).setCell (p := ⟨n, 1, none⟩) hn _⟩
          simp only [List.setIfInBounds_toArray, List.set_cons_succ, List.set_cons_zero]
-- DONE C
      rintro a' W1 ⟨n, rfl, hn, hN, hB⟩
      simp only [List.setIfInBounds_toArray, List.set_cons_succ, List.set_cons_zero]
      have B0w := Lib.hid (B0w.out.later hB)
      have B1w := Lib.hid (B1w.out.later hB)
      have O := Lib.hid (O.out.on hB)
      have GW := Lib.hid (GW.out.trans (hB.mono GW.out.size))
      have HN := Lib.hid hN
      clear hB hN hn l0 l1
      cases k
      · have hr := Lib.hid (show res = s1.map fun e : Sp => (e, ((z1, z2) : Sp)) from by rw [hp.out, if_neg (by simp)]; simp)
        have OZ := Lib.hid (show OwnRx W1 w.heap.size u5 res from by rw [hr.out]; exact O.out.mono G.out.size)
        have GZ := Lib.hid (G.out.trans (GW.out.mono G.out.size))
        clear hp hr
        go_wp2_with fail
        go_ret
        exact ⟨_, rfl, OZ.out, GZ.out⟩
      · have hr := Lib.hid (show res = (s1.map fun e : Sp => (e, ((z1, z2) : Sp))) ++ s2.map fun t : Sp => (((m1, m2) : Sp), t) from by rw [hp.out, if_pos rfl])
        clear hp
        have hl1 : (s1.map fun e : Sp => (e, ((z1, z2) : Sp))).length ≤ 2 := by rw [List.length_map]; exact hs1
        generalize (s1.map fun e : Sp => (e, ((z1, z2) : Sp))) = acc0 at *
        go_wp2_with fail
        have l0 := B0w.out.lt
        have l1 := B1w.out.lt
        have HI : (fun W => Below W1.heap.size W1 W) W1.drew := (Below.refl _ _).drewN 1
-- REGION D
        refine regk_start [] (fun W => Below W1.heap.size W1 W) (by kernel_rfl) ?_
        refine regk_take 0 41 (v := ?_) (T' := ?_) HI (by kernel_rfl) (by kernel_rfl) (by kernel_rfl) (by kernel_rfl) (by kernel_rfl) (by kernel_rfl) (fun _ _ _ h => h) (fun o ho => ?_) ?_ ?_
        rotate_left 2
        · cases ho
          refine ⟨rfl, rfl, fun W hW => ?_⟩
          have hV0 := (Below.cell (p := ⟨w.heap.size, 0, none⟩) (show Below W1.heap.size W1 W from hW) l0).trans (B0w.out.cell 0 (.complex .f64 a1 a2) rfl)
          have hV1 := (Below.cell (p := ⟨w.heap.size, 1, none⟩) (show Below W1.heap.size W1 W from hW) l0).trans (B0w.out.cell 1 (.complex .f64 a3 a4) rfl)
          go_simp; (try with_reducible rfl)
        · simp only [List.setIfInBounds_toArray, List.set_cons_succ, List.set_cons_zero]; exact rfl
        refine regk_take 2 43 (v := ?_) (T' := ?_) HI (by kernel_rfl) (by kernel_rfl) (by kernel_rfl) (by kernel_rfl) (by kernel_rfl) (by kernel_rfl) (fun _ _ _ h => h) (fun o ho => ?_) ?_ ?_
        rotate_left 2
        · cases ho
          refine ⟨rfl, rfl, fun W hW => ?_⟩
          have hV0 := (Below.cell (p := ⟨w.heap.size + 1, 0, none⟩) (show Below W1.heap.size W1 W from hW) l1).trans (B1w.out.cell 0 (.complex .f64 b1 b2) rfl)
          have hV1 := (Below.cell (p := ⟨w.heap.size + 1, 1, none⟩) (show Below W1.heap.size W1 W from hW) l1).trans (B1w.out.cell 1 (.complex .f64 b3 b4) rfl)
          go_simp; (try with_reducible rfl)
        · simp only [List.setIfInBounds_toArray, List.set_cons_succ, List.set_cons_zero]; exact rfl
        refine regk_free 6 47 (v := ?_) (T' := ?_) (fun _ => HI) (by kernel_rfl) (by kernel_rfl) (by kernel_rfl) (by kernel_rfl) (fun _ _ _ h => h) (fun o ho => ?_) ?_ ?_
        rotate_left 2
        · cases ho
          refine ⟨rfl, rfl, fun W => ?_⟩
          go_simp; (try with_reducible rfl)
        · simp only [List.setIfInBounds_toArray, List.set_cons_succ, List.set_cons_zero]; exact rfl
        refine regk_call (I' := (fun W => Below W1.heap.size W1 W)) (fun _ h => h) 1 42 (by kernel_rfl) 26 #[.agg #[.complex .f64 a1 a2, .complex .f64 a3 a4]] (fun o ho => by cases ho; exact ⟨rfl, rfl, fun W => by go_simp⟩) ?_
        refine (T1.out _).mono ?_
        rintro e y21 ⟨rfl, hb21⟩
        have HI : (fun W => Below W1.heap.size W1 W) y21 := (show Below W1.heap.size W1 _ from HI).trans (hb21.mono (show Below W1.heap.size W1 _ from HI).size)
        refine ⟨_, _, rfl, fun _ => HI, (by simp only [List.setIfInBounds_toArray, List.set_cons_succ, List.set_cons_zero]; exact rfl), ?_⟩
        refine regk_call (I' := (fun W => Below W1.heap.size W1 W)) (fun _ h => h) 3 44 (by kernel_rfl) 26 #[.agg #[.complex .f64 b1 b2, .complex .f64 b3 b4]] (fun o ho => by cases ho; exact ⟨rfl, rfl, fun W => by go_simp⟩) ?_
        refine (T2.out _).mono ?_
        rintro e y22 ⟨rfl, hb22⟩
        have HI : (fun W => Below W1.heap.size W1 W) y22 := (show Below W1.heap.size W1 _ from HI).trans (hb22.mono (show Below W1.heap.size W1 _ from HI).size)
        refine ⟨_, _, rfl, fun _ => HI, (by simp only [List.setIfInBounds_toArray, List.set_cons_succ, List.set_cons_zero]; exact rfl), ?_⟩
        refine regk_call (I' := (fun W => Below W1.heap.size W1 W)) (fun _ h => h) 4 45 (by kernel_rfl) 32 #[.agg #[.int .i64 z1, .int .i64 z2], .agg #[.int .i64 v1, .int .i64 v2]] (fun o ho => by cases ho; exact ⟨rfl, rfl, fun W => by go_simp⟩) ?_
        refine (N2.out _).mono ?_
        rintro e y23 ⟨v3, rfl, ho3, hb23⟩
        have HI : (fun W => Below W1.heap.size W1 W) y23 := (show Below W1.heap.size W1 _ from HI).trans (hb23.mono (show Below W1.heap.size W1 _ from HI).size)
        have ho3 := Lib.hid ho3
        obtain ⟨A3, c3, e3, -⟩ := ho3.out.rd
        subst e3
        refine ⟨_, _, rfl, fun _ => HI, (by simp only [List.setIfInBounds_toArray, List.set_cons_succ, List.set_cons_zero]; exact rfl), ?_⟩
        refine regk_free 5 46 (v := ?_) (T' := ?_) (fun _ => HI) (by kernel_rfl) (by kernel_rfl) (by kernel_rfl) (by kernel_rfl) (fun _ _ _ h => h) (fun o ho => ?_) ?_ ?_
        rotate_left 2
        · cases ho
          refine ⟨rfl, rfl, fun W => ?_⟩
          go_simp; (try with_reducible rfl)
        · simp only [List.setIfInBounds_toArray, List.set_cons_succ, List.set_cons_zero]; exact rfl
        refine regk_done (by kernel_rfl) ?_
-- DONE D
        have HJ := (show Below W1.heap.size W1 y23 from HI)
        have O := Lib.hid (O.out.on HJ)
        have HN := Lib.hid (HN.out.later HJ)
        have GW := Lib.hid (GW.out.trans (HJ.mono GW.out.size))
        clear HI HJ hb21 hb22 hb23 l0 l1 RL
        go_wp2_with fail
        go_loopw [5, 47] (fun x i wr => ∃ k : Nat, i = .int .i64 k ∧ k ≤ s2.length ∧ OwnRx wr y3.heap.size x (acc0 ++ (s2.take k).map fun t => ((m1, m2), t)) ∧ OwnSp wr y22.heap.size (.slice A3 s2.length c3) s2 ∧ Box wr n #[.int .i64 m1, .int .i64 m2] 23 ∧ Below y3.heap.size y3 wr) (fun _ i _ => s2.length - (intOf i).toNat)
        case atStart => exact ⟨0, rfl, Nat.zero_le _, by simpa using O.out, ho3.out, HN.out, GW.out⟩
        case round =>
          obtain ⟨j, rfl, hj2, ho, hos, hN, hb⟩ := hrel
          obtain ⟨ws, rfl⟩ : ∃ ws : World, ws = wr := ⟨_, rfl⟩
          have O := Lib.hid ho
          have S := Lib.hid hos
          have HN := Lib.hid hN
          have GW := Lib.hid hb
          clear ho hos hN hb ho3
          by_cases hlt : j < s2.length
          · obtain ⟨ba, oa, rfl, hba, c0, c1⟩ := RdSp.here S.out.rd j hlt
            have FS := Lib.hid (map_snoc (fun t : Sp => (((m1, m2) : Sp), t)) s2 j hlt)
            have hol : (acc0 ++ (s2.take j).map fun t : Sp => (((m1, m2) : Sp), t)).length + 1 ≤ 1000000000 := by
              have := List.length_take_le j s2
              rw [List.length_append, List.length_map]; omega
            generalize (s2.take j).map (fun t : Sp => (((m1, m2) : Sp), t)) = acc at *
            have HR := Lib.hid (MR.out (m1, m2) s2[j])
            generalize s2[j] = q at *
            obtain ⟨q1, q2⟩ := q
            simp only at HR
            have BX := Lib.hid (Box.new ws #[.int .i64 q1, .int .i64 q2] 23 _ rfl)
            have HN := Lib.hid (HN.out.alloc (.cells #[.int .i64 q1, .int .i64 q2] 23))
            have O := Lib.hid (O.out.on (alloc_below ws (.cells #[.int .i64 q1, .int .i64 q2] 23)))
            have S := Lib.hid (S.out.on (alloc_below ws (.cells #[.int .i64 q1, .int .i64 q2] 23)))
            have GW := Lib.hid (GW.out.alloc GW.out.size (.cells #[.int .i64 q1, .int .i64 q2] 23))
            have n0 := HN.out.cell 0 (.int .i64 m1) rfl
            have n1 := HN.out.cell 1 (.int .i64 m2) rfl
            go_wp2_with fail
            refine (HR.out _).mono ?_
            rintro e w6 ⟨rfl, hb6⟩
            have O := Lib.hid (O.out.on hb6)
            have S := Lib.hid (S.out.on hb6)
            have HN := Lib.hid (HN.out.later hb6)
            have GW := Lib.hid (GW.out.trans (hb6.mono GW.out.size))
            clear hb6 n0 n1 c0 c1
            go_wp2_with (at_builtin; refine wpl_appX rfl (.tmp 51) (.tmp 55) rfl Try.underlying40 rx_info rfl y3.heap.size _ (acc0 ++ acc) [(((m1, m2) : Sp), ((q1, q2) : Sp))] _ _ _ rfl rfl rfl rfl O.out GW.out.size hol (by decide) ?_; intro v7 w7 ho7 hg7 hb7)
            have GZ := Lib.hid (GW.out.trans hb7)
            have OZ := Lib.hid (show OwnRx w7 y3.heap.size v7 (acc0 ++ (s2.take (j + 1)).map fun t : Sp => (((m1, m2) : Sp), t)) from by rw [FS.out, ← List.append_assoc]; exact ho7)
            have SZ := Lib.hid (S.out.beside O.out (by decide) hg7)
            have NZ := Lib.hid (HN.out.beside O.out (by decide) hg7)
            clear ho7 hg7 hb7
            go_wp2_with fail
            go_roundw
            case rel => exact ⟨j + 1, by go_num, by omega, OZ.out, SZ.out, NZ.out, GZ.out⟩
            case measure => simp [intOf]; omega
          · have hke : s2.take j = s2 := List.take_of_length_le (by omega)
            have OZ := Lib.hid (show OwnRx ws w.heap.size u5 res from by have := O.out; rw [hke] at this; rw [hr.out]; exact this.mono G.out.size)
            have GZ := Lib.hid (G.out.trans (GW.out.mono G.out.size))
            clear hke
            go_wp2_with fail
            go_ret
            exact ⟨_, rfl, OZ.out, GZ.out⟩
end Go.Proofs.Ytjfneppjdgfecaa
