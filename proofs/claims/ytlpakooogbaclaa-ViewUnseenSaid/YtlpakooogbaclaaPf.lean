/- Layer 4, the project's: pieces without a span. -/
import Derived.Test.YtlpakooogbaclaaPb
import Derived.Test.YtlpakooogbaclaaBA
import Derived.Test.YtlpakooogbaclaaBapp
import Derived.Lib.SliceRun
namespace Go.Proofs.Ytlpakooogbaclaa
open Go.RowKit
set_option linter.unusedVariables false

set_option maxHeartbeats 400000 in
theorem p_clone (v : Value) (l : List Pc) (w : World) (h : RdPc w w.heap.size v l) (hl : l.length ≤ 100000) :
    Calls Try.prog 59 #[v] w fun e w' => ∃ v', e = .returned v' ∧ OwnPc w' w.heap.size v' l ∧ Below w.heap.size w w' := by
  have H := Lib.hid h
  obtain ⟨A, c, rfl, hlc, hc, h3⟩ := h
  have hq := fun W => Lib.run_eql_slice_nil (P := Try.prog) W 34 48 A l.length c 0 0 Try.underlying34
  cases A with
  | none =>
    have h0 : l.length = 0 := by
      rcases Nat.eq_zero_or_pos l.length with h0 | h0
      · exact h0
      · obtain ⟨b, o, e, _⟩ := h3 h0; cases e
    have h1 := Lib.hid (List.eq_nil_of_length_eq_zero h0)
    clear h3 h0
    go_enter Try.func59, Try.ntmps59
    go_wp2
    go_ret
    refine ⟨_, rfl, ?_, by go_grown⟩
    rw [h1.out]; exact OwnX.nil _ _
  | some p =>
    clear h3
    have H2 := Lib.hid (H.out.on (alloc_below w (.cells #[] 48)))
    have O := Lib.hid (OwnX.new (L := pcL) (e := 48) w #[] [] 0 rfl rfl (by simp))
    go_enter Try.func59, Try.ntmps59
    go_wp2_with (at_builtin; refine wpl_appX_rd rfl (.tmp 5) (.tmp 6) rfl Try.underlying34 pc_info rfl w.heap.size _ _ _ [] l rfl rfl O.out H2.out (by simp) (by simp; omega) (by decide) ?_; intro v1 w1 ho1 hg1 hb1)
    go_ret
    exact ⟨v1, rfl, ho1, (alloc_below w _).trans hb1⟩

set_option maxHeartbeats 4000000 in
theorem p_without (v : Value) (l : List Pc) (s : Sp) (w : World) (h : RdPc w w.heap.size v l) (hl : l.length ≤ 100000) :
    Calls Try.prog 38 #[v, spV s] w fun e w' => ∃ v', e = .returned v' ∧ OwnPc w' w.heap.size v' (withoutF l s) ∧ Below w.heap.size w w' := by
  have H := Lib.hid h
  obtain ⟨A, c, rfl, hlc, hc, -⟩ := h
  obtain ⟨s1, s2⟩ := s
  have M1 := Lib.hid (p_may (s1, s2))
  have ML := Lib.hid (fun q => p_left q (s1, s2))
  have MM := Lib.hid p_may
  have B0 := Lib.hid (Box.new w #[.int .i64 s1, .int .i64 s2] 46 _ rfl)
  have G := Lib.hid (alloc_below w (.cells #[.int .i64 s1, .int .i64 s2] 46))
  have hsp : spV (s1, s2) = .agg #[.int .i64 s1, .int .i64 s2] := rfl
  unfold spV at M1
  rw [hsp]
  rw [hsp] at ML
  clear hsp
  go_enter Try.func38, Try.ntmps38
  go_wp2_with fail
  generalize w.alloc (.cells #[.int .i64 s1, .int .i64 s2] 46) = W0 at *
  refine (M1.out _).mono ?_
  rintro e w1 ⟨rfl, hb1⟩
  have B0 := Lib.hid (B0.out.later hb1)
  have G := Lib.hid (G.out.trans (hb1.mono G.out.size))
  clear hb1
  have hb0 := B0.out.lt
  have HB0 := Lib.hid hb0
  clear hb0
  cases hm : mayB (s1, s2)
  · have HW := Lib.hid (show withoutF l (s1, s2) = l from without_neg hm)
    clear hm
    go_wp2_with fail
    refine (p_clone _ l _ (H.out.on G.out) hl).mono ?_
    rintro e w2 ⟨v2, rfl, ho2, hb2⟩
    have O2 := Lib.hid (show OwnPc w2 w.heap.size v2 (withoutF l (s1, s2)) from by rw [HW.out]; exact ho2.mono G.out.size)
    have G2 := Lib.hid (G.out.trans (hb2.mono G.out.size))
    clear ho2 hb2 HW
    go_wp2_with fail
    go_ret
    exact ⟨_, rfl, O2.out, G2.out⟩
  · have HW := Lib.hid (without_pos (l := l) hm)
    clear hm
    go_wp2_with fail
    go_loopw [5, 17] (fun x i wr => ∃ k : Nat, i = .int .i64 k ∧ k ≤ l.length ∧ OwnPc wr w1.heap.size x ((l.take k).flatMap (cutF (s1, s2))) ∧ Below w1.heap.size w1 wr) (fun _ i _ => l.length - (intOf i).toNat)
    case atStart => exact ⟨0, rfl, by omega, by simpa using OwnX.nil _ _, Below.refl _ _⟩
    case round =>
      obtain ⟨k, rfl, hk, ho, hb⟩ := hrel
      have O := Lib.hid ho
      have GW := Lib.hid hb
      have B0w := Lib.hid (B0.out.later hb)
      clear ho hb
      by_cases hlt : k < l.length
      · obtain ⟨ba, oa, rfl, hba, c0, c1, c2⟩ := RdPc.here (H.out.below (G.out.trans (GW.out.mono G.out.size))) k hlt
        have hba2 : ba < wr.heap.size := by have := GW.out.size; have := G.out.size; omega
        have FS := Lib.hid (flat_snoc l (s1, s2) k hlt)
        have hcl := cut_len (l.take k) (s1, s2)
        have hcl2 : (l.take k).length ≤ k := List.length_take_le _ _
        have HCL := Lib.hid (show ((l.take k).flatMap (cutF (s1, s2))).length ≤ 200000 from by omega)
        clear hcl hcl2
        generalize (l.take k).flatMap (cutF (s1, s2)) = acc at *
        generalize l[k] = p at *
        obtain ⟨⟨p1, p2⟩, p3⟩ := p
        have hcut := Lib.hid (show cutF (s1, s2) ((p1, p2), p3) = ([(leftF (p1, p2) (s1, s2)).1, (leftF (p1, p2) (s1, s2)).2].filter mayB).map (fun m => (m, p3)) from by unfold cutF; rw [left_minus])
        have cs0a : ∀ cs, (wr.alloc (.cells cs 48)).cell? ⟨w.heap.size, 0, none⟩ = some (.int .i64 s1) := fun cs => (B0w.out.alloc (.cells cs 48)).cell 0 _ rfl
        have cs1a : ∀ cs, (wr.alloc (.cells cs 48)).cell? ⟨w.heap.size, 1, none⟩ = some (.int .i64 s2) := fun cs => (B0w.out.alloc (.cells cs 48)).cell 1 _ rfl
        have HL := Lib.hid (ML.out (p1, p2))
        have hsp : spV (p1, p2) = .agg #[.int .i64 p1, .int .i64 p2] := rfl
        have hlf : ∀ r : Sp × Sp, lfV r = .agg #[.int .i64 r.1.1, .int .i64 r.1.2, .int .i64 r.2.1, .int .i64 r.2.2] := fun _ => rfl
        rw [hsp, hlf] at HL
        clear hsp hlf
        generalize leftF (p1, p2) (s1, s2) = r at *
        obtain ⟨⟨x1, y1⟩, ⟨x2, y2⟩⟩ := r
        have BP := Lib.hid (Box.new wr #[.int .i64 p1, .int .i64 p2, .string p3] 48 _ rfl)
        have GP := Lib.hid (alloc_below wr (.cells #[.int .i64 p1, .int .i64 p2, .string p3] 48))
        go_wp2_with fail
        generalize wr.alloc (.cells #[.int .i64 p1, .int .i64 p2, .string p3] 48) = wp at *
        refine (HL.out _).mono ?_
        rintro e w2 ⟨rfl, hb2⟩
        have BP := Lib.hid (BP.out.later hb2)
        have GP := Lib.hid (GP.out.trans (hb2.mono GP.out.size))
        have OB := Lib.hid (show u5.ownBlock ≠ some wr.heap.size from fun e => by have := (O.out.lt _ e).2; omega)
        have O2 := Lib.hid (O.out.on GP.out)
        have G2 := Lib.hid (GW.out.trans (GP.out.mono GW.out.size))
        clear hb2 c0 c1 c2 cs0a cs1a O
        go_wp2_with fail
        go_loopw [5, 25] (fun x j wt => ∃ i : Nat, j = .int .i64 i ∧ i ≤ 2 ∧ OwnPc wt w1.heap.size x (acc ++ (([(x1, y1), (x2, y2)].take i).filter mayB).map (fun m => (m, p3))) ∧ x.ownBlock ≠ some wr.heap.size ∧ Box wt wr.heap.size #[.int .i64 p1, .int .i64 p2, .string p3] 48 ∧ Below w1.heap.size w1 wt) (fun _ j _ => 2 - (intOf j).toNat)
        case atStart => exact ⟨0, rfl, by omega, by simpa using O2.out, OB.out, BP.out, G2.out⟩
        case round =>
          obtain ⟨i, rfl, hi, ho, hob, hbp, hb3⟩ := hrel
          obtain ⟨ws, rfl⟩ : ∃ ws : World, ws = wr := ⟨_, rfl⟩
          have OP := Lib.hid ho
          have OB := Lib.hid hob
          have BP := Lib.hid hbp
          have GS := Lib.hid hb3
          clear ho hob hbp hb3 O2 G2
          rcases (show i = 0 ∨ i = 1 ∨ i = 2 from by omega) with rfl | rfl | rfl
          · have hix := fun W => lf_index0 W x1 y1 x2 y2
            have M := Lib.hid (MM.out (x1, y1))
            have T := Lib.hid (show (([(x1, y1), (x2, y2)].take 1).filter mayB).map (fun m => (m, p3)) = (([(x1, y1), (x2, y2)].take 0).filter mayB).map (fun m => (m, p3)) ++ (if mayB (x1, y1) = true then [((x1, y1), p3)] else []) from by
              simp [List.filter_cons, List.take]; try (split <;> rfl))
            have hol : (acc ++ (([(x1, y1), (x2, y2)].take 0).filter mayB).map (fun m => (m, p3))).length + 1 ≤ 1000000000 := by
              have := HCL.out
              have := List.length_filter_le mayB ([(x1, y1), (x2, y2)].take 0)
              have := List.length_take_le 0 [(x1, y1), (x2, y2)]
              rw [List.length_append, List.length_map]
              omega
            generalize (([(x1, y1), (x2, y2)].take 0).filter mayB).map (fun m => (m, p3)) = part at *
            have hws : wr.heap.size < ws.heap.size := BP.out.lt
            have HWS := Lib.hid hws
            clear hws
            unfold spV at M
            go_wp2_with fail
            refine (M.out _).mono ?_
            rintro e w4 ⟨rfl, hb4⟩
            have e0 := made_cell (by simpa using hb4) 0 _ rfl
            have e1 := made_cell (by simpa using hb4) 1 _ rfl
            have hbx := (alloc_below ws (.cells #[.int .i64 x1, .int .i64 y1] 46)).trans (hb4.mono (by simp))
            have OP := Lib.hid (OP.out.on hbx)
            have GX := Lib.hid (GS.out.trans (hbx.mono GS.out.size))
            have BX := Lib.hid (BP.out.later hbx)
            clear hb4 hbx
            have d2 := BX.out.cell 2 (.string p3) rfl
            cases hm : mayB (x1, y1)
            · have T := Lib.hid (show (([(x1, y1), (x2, y2)].take 1).filter mayB).map (fun m => (m, p3)) = part from by rw [T.out, hm]; simp)
              clear hm
              go_wp2_with fail
              go_roundw
              case rel => exact ⟨1, by go_num, by omega, by rw [T.out]; exact OP.out, OB.out, BX.out, GX.out⟩
              case measure => simp [intOf]
            · have T := Lib.hid (show (([(x1, y1), (x2, y2)].take 1).filter mayB).map (fun m => (m, p3)) = part ++ [((x1, y1), p3)] from by rw [T.out, hm]; simp)
              clear hm
              go_wp2_with (at_builtin; refine wpl_appX rfl (.tmp 30) (.tmp 35) rfl Try.underlying34 pc_info rfl w1.heap.size _ (acc ++ part) [((x1, y1), p3)] _ _ _ rfl rfl rfl rfl OP.out GX.out.size hol (by decide) ?_; intro x6 w6 ho6 hg6 hb6)
              have BX6 := Lib.hid (BX.out.keep hg6.grown (fun e => OB.out e.symm))
              have OB6 := Lib.hid (show x6.ownBlock ≠ some wr.heap.size from fun e => by
                rcases hg6.own with h | ⟨g, h, hg⟩
                · exact OB.out (h ▸ e)
                · rw [h] at e; injection e with e; have := BX.out.lt; omega)
              go_roundw
              case rel => exact ⟨1, by go_num, by omega, by rw [T.out, ← List.append_assoc]; exact ho6, OB6.out, BX6.out, GX.out.trans hb6⟩
              case measure => simp [intOf]
          · have hix := fun W => lf_index1 W x1 y1 x2 y2
            have M := Lib.hid (MM.out (x2, y2))
            have T := Lib.hid (show (([(x1, y1), (x2, y2)].take 2).filter mayB).map (fun m => (m, p3)) = (([(x1, y1), (x2, y2)].take 1).filter mayB).map (fun m => (m, p3)) ++ (if mayB (x2, y2) = true then [((x2, y2), p3)] else []) from by
              simp [List.filter_cons, List.take]; (split <;> split <;> rfl))
            have hol : (acc ++ (([(x1, y1), (x2, y2)].take 1).filter mayB).map (fun m => (m, p3))).length + 1 ≤ 1000000000 := by
              have := HCL.out
              have := List.length_filter_le mayB ([(x1, y1), (x2, y2)].take 1)
              have := List.length_take_le 1 [(x1, y1), (x2, y2)]
              rw [List.length_append, List.length_map]
              omega
            generalize (([(x1, y1), (x2, y2)].take 1).filter mayB).map (fun m => (m, p3)) = part at *
            have hws : wr.heap.size < ws.heap.size := BP.out.lt
            have HWS := Lib.hid hws
            clear hws
            unfold spV at M
            go_wp2_with fail
            refine (M.out _).mono ?_
            rintro e w4 ⟨rfl, hb4⟩
            have e0 := made_cell (by simpa using hb4) 0 _ rfl
            have e1 := made_cell (by simpa using hb4) 1 _ rfl
            have hbx := (alloc_below ws (.cells #[.int .i64 x2, .int .i64 y2] 46)).trans (hb4.mono (by simp))
            have OP := Lib.hid (OP.out.on hbx)
            have GX := Lib.hid (GS.out.trans (hbx.mono GS.out.size))
            have BX := Lib.hid (BP.out.later hbx)
            clear hb4 hbx
            have d2 := BX.out.cell 2 (.string p3) rfl
            cases hm : mayB (x2, y2)
            · have T := Lib.hid (show (([(x1, y1), (x2, y2)].take 2).filter mayB).map (fun m => (m, p3)) = part from by rw [T.out, hm]; simp)
              clear hm
              go_wp2_with fail
              go_roundw
              case rel => exact ⟨2, by go_num, by omega, by rw [T.out]; exact OP.out, OB.out, BX.out, GX.out⟩
              case measure => simp [intOf]
            · have T := Lib.hid (show (([(x1, y1), (x2, y2)].take 2).filter mayB).map (fun m => (m, p3)) = part ++ [((x2, y2), p3)] from by rw [T.out, hm]; simp)
              clear hm
              go_wp2_with (at_builtin; refine wpl_appX rfl (.tmp 30) (.tmp 35) rfl Try.underlying34 pc_info rfl w1.heap.size _ (acc ++ part) [((x2, y2), p3)] _ _ _ rfl rfl rfl rfl OP.out GX.out.size hol (by decide) ?_; intro x6 w6 ho6 hg6 hb6)
              have BX6 := Lib.hid (BX.out.keep hg6.grown (fun e => OB.out e.symm))
              have OB6 := Lib.hid (show x6.ownBlock ≠ some wr.heap.size from fun e => by
                rcases hg6.own with h | ⟨g, h, hg⟩
                · exact OB.out (h ▸ e)
                · rw [h] at e; injection e with e; have := BX.out.lt; omega)
              go_roundw
              case rel => exact ⟨2, by go_num, by omega, by rw [T.out, ← List.append_assoc]; exact ho6, OB6.out, BX6.out, GX.out.trans hb6⟩
              case measure => simp [intOf]
          · have OR := Lib.hid (show OwnPc ws w1.heap.size u5 ((l.take (k + 1)).flatMap (cutF (s1, s2))) from by
              rw [FS.out, hcut.out]; exact OP.out)
            go_wp2_with fail
            go_roundw
            case rel => exact ⟨k + 1, by go_num, by omega, OR.out, GS.out⟩
            case measure => simp [intOf]; omega
      · have hke : l.take k = l := List.take_of_length_le (by omega)
        have O1 := Lib.hid (show OwnPc wr w.heap.size u5 (withoutF l (s1, s2)) from by
          have := O.out; rw [hke] at this; rw [HW.out]; exact this.mono G.out.size)
        have G1 := Lib.hid (G.out.trans (GW.out.mono G.out.size))
        clear hke
        go_wp2_with fail
        go_ret
        exact ⟨_, rfl, O1.out, G1.out⟩
end Go.Proofs.Ytlpakooogbaclaa
