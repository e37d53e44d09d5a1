/- SpanOwns (R4): for every list of pieces and every piece more: what Over, Without and Least were handed stays when all that they told is turned. No condition. -/
import Derived.Test.YtoikhgldffgelaaPk
import Derived.Test.YtoikhgldffgelaaBlaw
namespace Go.Proofs.Ytoikhgldffgelaa.L06
open Go.RowKit Go.ChangeShapes Go.WideShapes Go.ChangeAt
set_option linter.unusedVariables false

theorem made_len (l : List Pc) : (madeF l).length ≤ 255 := made_small l 8 (Nat.le_refl _)
/-- A row that was there ahead of another one, and that one. -/
theorem apart {w w' : World} {b1 b2 : Nat} {v1 v2 : Value} {l1 l2 : List Pc} (h1 : OwnPc w b1 v1 l1) (h2 : OwnPc w' b2 v2 l2) (hb : w.heap.size ≤ b2) : v1.ownBlock = none ∨ v1.ownBlock ≠ v2.ownBlock := by
  cases e : v1.ownBlock with
  | none => exact .inl rfl
  | some g => exact .inr (fun h => by have h3 := (h1.lt g e).2; have h4 := h2.base g h.symm; omega)
theorem apart2 {w w' : World} {b1 b2 : Nat} {v1 v2 : Value} {l1 l2 : List Pc} (h1 : OwnPc w b1 v1 l1) (h2 : OwnPc w' b2 v2 l2) (hb : w.heap.size ≤ b2) : v2.ownBlock = none ∨ v2.ownBlock ≠ v1.ownBlock := by
  cases e : v2.ownBlock with
  | none => exact .inl rfl
  | some g => exact .inr (fun h => by have h3 := (h1.lt g h.symm).2; have h4 := h2.base g e; omega)

set_option maxHeartbeats 4000000 in
theorem walk (v : Value) (l : List Pc) (p : Pc) (U : World) (h : RdPc U U.heap.size v l) : Calls Try.prog 8 #[v, pcV p] U fun e W' => e = .returned (.bool true) ∧ Below U.heap.size U W' := by
  have hl := made_len l
  have MA := Lib.hid (fun w hw => ref_made1 v l w hw)
  generalize madeF l = m at *
  have hcs := cutP_sp p
  have CU := Lib.hid (fun w => ref_cut p w)
  obtain ⟨⟨p1, p2⟩, p3⟩ := p
  generalize cutP ((p1, p2), p3) = p' at *
  obtain ⟨p'1, p4⟩ := p'
  simp only at hcs
  subst hcs
  have O1 := Lib.hid (fun x w hx => p_over x m ((p1, p2), p4) w hx (by omega))
  have N1 := Lib.hid (fun x w hx => p_without x m (p1, p2) w hx (by omega))
  have L1 := Lib.hid (fun x w hx => p_least x m w hx (by omega))
  have hxl := over_len m ((p1, p2), p4)
  have hyl := without_len m (p1, p2)
  have hzl := least_len m
  generalize overF m ((p1, p2), p4) = xs at *
  generalize withoutF m (p1, p2) = ys at *
  generalize leastF m = zs at *
  have hpc : ∀ x : Pc, pcV x = .agg #[.int .i64 x.1.1, .int .i64 x.1.2, .string x.2] := fun _ => rfl
  have hsp : ∀ x : Sp, spV x = .agg #[.int .i64 x.1, .int .i64 x.2] := fun _ => rfl
  simp only [hpc] at CU O1
  simp only [hsp] at N1
  rw [hpc]
  clear hpc hsp
  have B := Lib.hid (Box.new U #[.int .i64 p1, .int .i64 p2, .string p3] 34 _ rfl)
  have G := Lib.hid (alloc_below U (.cells #[.int .i64 p1, .int .i64 p2, .string p3] 34))
  have HV := Lib.hid (h.on G.out)
  clear h
  go_enter Try.func8, Try.ntmps8
  go_wp2_with fail
  generalize U.alloc (.cells #[.int .i64 p1, .int .i64 p2, .string p3] 34) = w0 at *
  have NW := Lib.hid (show U.heap.size < w0.heap.size from B.out.lt)
  refine (MA.out _ HV.out).mono ?_
  rintro e w1 ⟨v1, rfl, hr1, hb1⟩
  have B := Lib.hid (B.out.later hb1)
  have OM := Lib.hid hr1
  have HV := Lib.hid (HV.out.on hb1)
  have G := Lib.hid (G.out.trans (hb1.mono G.out.size))
  have S1 := Lib.hid hb1.size
  clear hr1 hb1
  go_wp2_with fail
  refine (MA.out _ HV.out).mono ?_
  rintro e w2 ⟨v2, rfl, hr2, hb2⟩
  have B := Lib.hid (B.out.later hb2)
  have OM := Lib.hid (OM.out.on hb2)
  have OK := Lib.hid (hr2.mono S1.out)
  have G := Lib.hid (G.out.trans (hb2.mono G.out.size))
  clear hr2 hb2 S1 HV
  have c0 := B.out.cell 0 (.int .i64 p1) rfl
  have c1 := B.out.cell 1 (.int .i64 p2) rfl
  have c2 := B.out.cell 2 (.string p3) rfl
  go_wp2_with fail
  refine (CU.out _).mono ?_
  rintro e w3 ⟨rfl, hb3⟩
  have B := Lib.hid (B.out.later hb3)
  have OM := Lib.hid (OM.out.on hb3)
  have OK := Lib.hid (OK.out.on hb3)
  have G := Lib.hid (G.out.trans (hb3.mono G.out.size))
  clear hb3 c0 c1 c2
  have c0 := B.out.cell 0 (.int .i64 p1) rfl
  have c1 := B.out.cell 1 (.int .i64 p2) rfl
  have c2 := B.out.cell 2 (.string p3) rfl
  have f0 := B.out.frozen 0
  have f1 := B.out.frozen 1
  have f2 := B.out.frozen 2
  have B3 := Lib.hid (show Box (((w3.setCell ⟨U.heap.size, 0, none⟩ (.int .i64 p1)).setCell ⟨U.heap.size, 1, none⟩ (.int .i64 p2)).setCell ⟨U.heap.size, 2, none⟩ (.string p4)) U.heap.size #[.int .i64 p1, .int .i64 p2, .string p4] 34 from ((B.out.set 0 _).set 1 _).set 2 _)
  have KP := Lib.hid (fun (x : Value) (hx : OwnPc w3 w0.heap.size x m) => show OwnPc (((w3.setCell ⟨U.heap.size, 0, none⟩ (.int .i64 p1)).setCell ⟨U.heap.size, 1, none⟩ (.int .i64 p2)).setCell ⟨U.heap.size, 2, none⟩ (.string p4)) w0.heap.size x m from
    ownsRow_setCell_below (ownsRow_setCell_below (ownsRow_setCell_below hx (a := ⟨U.heap.size, 0, none⟩) NW.out _) (a := ⟨U.heap.size, 1, none⟩) NW.out _) (a := ⟨U.heap.size, 2, none⟩) NW.out _)
  have OM := Lib.hid (KP.out _ OM.out)
  have OK := Lib.hid (KP.out _ OK.out)
  have G3 := Lib.hid (show Below U.heap.size U (((w3.setCell ⟨U.heap.size, 0, none⟩ (.int .i64 p1)).setCell ⟨U.heap.size, 1, none⟩ (.int .i64 p2)).setCell ⟨U.heap.size, 2, none⟩ (.string p4)) from
    ((G.out.setCell (p := ⟨U.heap.size, 0, none⟩) (Nat.le_refl _) _).setCell (p := ⟨U.heap.size, 1, none⟩) (Nat.le_refl _) _).setCell (p := ⟨U.heap.size, 2, none⟩) (Nat.le_refl _) _)
  clear KP
  generalize hws : (((w3.setCell ⟨U.heap.size, 0, none⟩ (.int .i64 p1)).setCell ⟨U.heap.size, 1, none⟩ (.int .i64 p2)).setCell ⟨U.heap.size, 2, none⟩ (.string p4)) = ws at *
  have d0 := B3.out.cell 0 (.int .i64 p1) rfl
  have d1 := B3.out.cell 1 (.int .i64 p2) rfl
  have d2 := B3.out.cell 2 (.string p4) rfl
  go_wp2_with fail
  clear hws c0 c1 c2 f0 f1 f2 B G
  refine (O1.out _ _ OM.out.rd).mono ?_
  rintro e w4 ⟨vx, rfl, hx, hb4⟩
  have B := Lib.hid (B3.out.later hb4)
  have AXM := Lib.hid (apart OM.out hx (Nat.le_refl _))
  have AXK := Lib.hid (apart OK.out hx (Nat.le_refl _))
  have OM := Lib.hid (OM.out.on hb4)
  have OK := Lib.hid (OK.out.on hb4)
  have OX := Lib.hid (hx.mono G3.out.size)
  have G := Lib.hid (G3.out.trans (hb4.mono G3.out.size))
  clear hx hb4 d0 d1 d2
  have d0 := B.out.cell 0 (.int .i64 p1) rfl
  have d1 := B.out.cell 1 (.int .i64 p2) rfl
  go_wp2_with fail
  refine (N1.out _ _ OM.out.rd).mono ?_
  rintro e w5 ⟨vy, rfl, hy, hb5⟩
  have AYM := Lib.hid (apart OM.out hy (Nat.le_refl _))
  have AYK := Lib.hid (apart OK.out hy (Nat.le_refl _))
  have AYX := Lib.hid (apart2 OX.out hy (Nat.le_refl _))
  have OM := Lib.hid (OM.out.on hb5)
  have OK := Lib.hid (OK.out.on hb5)
  have OX := Lib.hid (OX.out.on hb5)
  have OY := Lib.hid (hy.mono G.out.size)
  have G := Lib.hid (G.out.trans (hb5.mono G.out.size))
  clear hy hb5 d0 d1
  go_wp2_with fail
  refine (L1.out _ _ OM.out.rd).mono ?_
  rintro e w6 ⟨vz, rfl, hz, hb6⟩
  have AZM := Lib.hid (apart OM.out hz (Nat.le_refl _))
  have AZK := Lib.hid (apart OK.out hz (Nat.le_refl _))
  have AZX := Lib.hid (apart2 OX.out hz (Nat.le_refl _))
  have AZY := Lib.hid (apart2 OY.out hz (Nat.le_refl _))
  have OM := Lib.hid (OM.out.on hb6)
  have OK := Lib.hid (OK.out.on hb6)
  have OX := Lib.hid (OX.out.on hb6)
  have OY := Lib.hid (OY.out.on hb6)
  have OZ := Lib.hid (hz.mono G.out.size)
  have G := Lib.hid (G.out.trans (hb6.mono G.out.size))
  clear hz hb6
  obtain ⟨AX, cX, ex, -⟩ := OX.out.rd
  subst ex
  obtain ⟨AY, cY, ey, -⟩ := OY.out.rd
  subst ey
  obtain ⟨AZ, cZ, ez, -⟩ := OZ.out.rd
  subst ez
  go_wp2_with fail
  go_loopw [10] (fun i wr => ∃ (k : Nat) (q : List Pc), i = .int .i64 k ∧ k ≤ xs.length ∧ q.length = xs.length ∧ OwnPc wr U.heap.size (.slice AX xs.length cX) q ∧ w6.grownBy wr (Value.slice AX xs.length cX).ownBlock) (fun i _ => xs.length - (intOf i).toNat)
  case atStart => exact ⟨0, xs, rfl, Nat.zero_le _, rfl, OX.out, World.grownBy.refl _ _⟩
  case round =>
    obtain ⟨k, q, rfl, hk, hq, ho, hg⟩ := hrel
    have OQ := Lib.hid ho
    have GQ := Lib.hid hg
    have HQ := Lib.hid hq
    clear ho hg
    by_cases hlt : k < xs.length
    · obtain ⟨g, cc, e1, hg1, hg2⟩ := OQ.out.pos (by omega)
      rw [hq] at e1
      injection e1 with e1 e2 e3
      subst e1 e3
      have hkq : k < q.length := by omega
      have hc := OQ.out.cell k hkq 2 (.string q[k].2) (by simp [pcL])
      have hc : wr.cell? ⟨g, k * 3 + 2, none⟩ = some (.string q[k].2) := hc
      have hf := OQ.out.frozen (k * 3 + 2)
      have ST := Lib.hid (OQ.out.stored k hkq 2 (by decide) (.string ⟨#[116, 117, 114, 110, 101, 100]⟩) (q[k].1, ⟨#[116, 117, 114, 110, 101, 100]⟩) (by simp [pcL]))
      generalize q[k].2 = old at *
      go_wp2_with fail
      go_roundw
      case rel => exact ⟨k + 1, _, by go_num, by omega, by rw [List.length_set]; exact HQ.out, ST.out.1, GQ.out.trans ST.out.2⟩
      case measure => simp [intOf]; omega
    · clear hq HQ
      have OM := Lib.hid (OwnX.keep OM.out GQ.out AXM.out)
      have OK := Lib.hid (OwnX.keep OK.out GQ.out AXK.out)
      have OY := Lib.hid (OwnX.keep OY.out GQ.out AYX.out)
      have OZ := Lib.hid (OwnX.keep OZ.out GQ.out AZX.out)
      have G := Lib.hid (G.out.grown GQ.out G.out.size (fun j hj => OQ.out.base j hj))
      clear OQ GQ
      go_wp2_with fail
      obtain ⟨wa, rfl⟩ : ∃ wa : World, wa = wr := ⟨_, rfl⟩
      go_loopw [11] (fun i wr => ∃ (k : Nat) (q : List Pc), i = .int .i64 k ∧ k ≤ ys.length ∧ q.length = ys.length ∧ OwnPc wr U.heap.size (.slice AY ys.length cY) q ∧ wa.grownBy wr (Value.slice AY ys.length cY).ownBlock) (fun i _ => ys.length - (intOf i).toNat)
      case atStart => exact ⟨0, ys, rfl, Nat.zero_le _, rfl, OY.out, World.grownBy.refl _ _⟩
      case round =>
        obtain ⟨k, q, rfl, hk, hq, ho, hg⟩ := hrel
        have OQ := Lib.hid ho
        have GQ := Lib.hid hg
        have HQ := Lib.hid hq
        clear ho hg
        by_cases hlt : k < ys.length
        · obtain ⟨g, cc, e1, hg1, hg2⟩ := OQ.out.pos (by omega)
          rw [hq] at e1
          injection e1 with e1 e2 e3
          subst e1 e3
          have hkq : k < q.length := by omega
          have hc := OQ.out.cell k hkq 2 (.string q[k].2) (by simp [pcL])
          have hc : wr.cell? ⟨g, k * 3 + 2, none⟩ = some (.string q[k].2) := hc
          have hf := OQ.out.frozen (k * 3 + 2)
          have ST := Lib.hid (OQ.out.stored k hkq 2 (by decide) (.string ⟨#[116, 117, 114, 110, 101, 100]⟩) (q[k].1, ⟨#[116, 117, 114, 110, 101, 100]⟩) (by simp [pcL]))
          generalize q[k].2 = old at *
          go_wp2_with fail
          go_roundw
          case rel => exact ⟨k + 1, _, by go_num, by omega, by rw [List.length_set]; exact HQ.out, ST.out.1, GQ.out.trans ST.out.2⟩
          case measure => simp [intOf]; omega
        · clear hq HQ
          have OM := Lib.hid (OwnX.keep OM.out GQ.out AYM.out)
          have OK := Lib.hid (OwnX.keep OK.out GQ.out AYK.out)
          have OZ := Lib.hid (OwnX.keep OZ.out GQ.out AZY.out)
          have G := Lib.hid (G.out.grown GQ.out G.out.size (fun j hj => OQ.out.base j hj))
          clear OQ GQ
          go_wp2_with fail
          obtain ⟨wb, rfl⟩ : ∃ wb : World, wb = wr := ⟨_, rfl⟩
          go_loopw [12] (fun i wr => ∃ (k : Nat) (q : List Pc), i = .int .i64 k ∧ k ≤ zs.length ∧ q.length = zs.length ∧ OwnPc wr U.heap.size (.slice AZ zs.length cZ) q ∧ wb.grownBy wr (Value.slice AZ zs.length cZ).ownBlock) (fun i _ => zs.length - (intOf i).toNat)
          case atStart => exact ⟨0, zs, rfl, Nat.zero_le _, rfl, OZ.out, World.grownBy.refl _ _⟩
          case round =>
            obtain ⟨k, q, rfl, hk, hq, ho, hg⟩ := hrel
            have OQ := Lib.hid ho
            have GQ := Lib.hid hg
            have HQ := Lib.hid hq
            clear ho hg
            by_cases hlt : k < zs.length
            · obtain ⟨g, cc, e1, hg1, hg2⟩ := OQ.out.pos (by omega)
              rw [hq] at e1
              injection e1 with e1 e2 e3
              subst e1 e3
              have hkq : k < q.length := by omega
              have hc := OQ.out.cell k hkq 2 (.string q[k].2) (by simp [pcL])
              have hc : wr.cell? ⟨g, k * 3 + 2, none⟩ = some (.string q[k].2) := hc
              have hf := OQ.out.frozen (k * 3 + 2)
              have ST := Lib.hid (OQ.out.stored k hkq 2 (by decide) (.string ⟨#[116, 117, 114, 110, 101, 100]⟩) (q[k].1, ⟨#[116, 117, 114, 110, 101, 100]⟩) (by simp [pcL]))
              generalize q[k].2 = old at *
              go_wp2_with fail
              go_roundw
              case rel => exact ⟨k + 1, _, by go_num, by omega, by rw [List.length_set]; exact HQ.out, ST.out.1, GQ.out.trans ST.out.2⟩
              case measure => simp [intOf]; omega
            · clear hq HQ
              have OM := Lib.hid (OwnX.keep OM.out GQ.out AZM.out)
              have OK := Lib.hid (OwnX.keep OK.out GQ.out AZK.out)
              have G := Lib.hid (G.out.grown GQ.out G.out.size (fun j hj => OQ.out.base j hj))
              clear OQ GQ
              go_wp2_with fail
              refine (same_self v1 v2 m _ OM.out.rd OK.out.rd).mono ?_
              rintro e w8 ⟨rfl, hb8⟩
              have G := Lib.hid (G.out.trans (hb8.mono G.out.size))
              clear hb8
              go_wp2_with fail
              refine (lives_any _).mono ?_
              rintro e w9 ⟨rfl, hb9⟩
              have G := Lib.hid (G.out.trans (hb9.mono G.out.size))
              clear hb9
              go_wp2_with fail
              go_ret
              exact ⟨rfl, G.out⟩
-- END
set_option maxRecDepth 100000 in
theorem lifted (os : Os) (started : os.Started) (H : Type) (enc : TypeId × Value → H) :
    ReturnsInHanded {} Try.checked os 8 .any (Rows.spanOwnsSpec.pre6 enc Try.prog Try.f8 Rows.spanOwnsRow.domain false) (Rows.spanOwnsSpec.post enc Try.prog Try.f8 false true false false) := by
  refine returnsInHanded_of_change (C := Try.checked) Try.own started (by kernel_rfl) Try.func8
    (ChangeSpec.witness6 (enc := enc) (C := Try.checked) false ⟨#[], #[.slice none 0 0, .agg #[.int .i64 0, .int .i64 0, .string ⟨#[]⟩]], []⟩ 8 (by kernel_rfl) (by kernel_rfl) (by kernel_rfl) (by kernel_rfl)) ?_
  intro W base args ds gs before hval0 hW _ _
  have hval : ∀ (j : Nat) t v, Try.f8.params[j]? = some t → args[j]? = some v → Value.okWide Try.prog W .any base t v := hval0
  have hW' := hW
  obtain ⟨p, q, hA0, hV, rfl, _, _⟩ := hW
  have hA : DataW.TrodAll enc Try.prog W 0 (fun _ => true) true Try.f8.params.toList args.toList ds p := hA0
  rw [Try.params8] at hA hval
  obtain ⟨v0, v1, d0, d1, p0, p1, rfl, rfl, rfl, h0, h1⟩ := trodAll_two hA
  obtain ⟨rfl, rfl⟩ := trodVars_none hV
  have hlt := fun x hx => hW'.lt x hx
  obtain ⟨a0, r0, b0⟩ := open_pcs (hval 0 _ v0 rfl rfl) h0 (fun x hx => by simpa using hlt x (by simp [hx]))
  obtain ⟨a1, rfl, w1, x1, z1⟩ := open_pc (hval 1 _ v1 rfl rfl) h1
  refine (walk v0 a0 a1 W r0).mono fun e W' ⟨he, hb⟩ => ⟨_, he, ?_⟩
  exact law_post Try.laidOut (by decide +kernel) rfl Try.underlying4 rfl hW' rfl hb

theorem holds : Rows.SpanOwnsSaid :=
  OpenClaim.holds_of_wide 8 Try.f8 rfl rfl rfl rfl rfl rfl rfl ⟨rfl, rfl, rfl, rfl, rfl⟩ rfl rfl rfl rfl rfl (by kernel_rfl) Try.func8 (by kernel_rfl)
    (of_decide_eq_true (by kernel_rfl)) (by unfold Func.isWrapper; first | (rw [if_pos (by decide +kernel)]; kernel_rfl) | (rw [if_neg (by decide +kernel)]; exact ⟨rfl, rfl⟩))
    (fun os started H enc _ => lifted os started H enc)
end Go.Proofs.Ytoikhgldffgelaa.L06
