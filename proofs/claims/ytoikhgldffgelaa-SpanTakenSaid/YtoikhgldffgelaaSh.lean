/- Layer 4: pieces with one over them, by the document's answer. -/
import Derived.Test.YtoikhgldffgelaaSg
import Derived.BigQuiet
namespace Go.Proofs.Ytoikhgldffgelaa
open Go.RowKit
set_option linter.unusedVariables false

theorem ins_cons (q : Pc) (r : List Pc) (p : Pc) : insF (q :: r) p = if q.1.1 ≥ p.1.2 then p :: q :: r else q :: insF r p := rfl

set_option maxHeartbeats 4000000 in
theorem ref_over1 (v : Value) (l : List Pc) (p : Pc) (w : World) (h : RdPc w w.heap.size v l) (hl : l.length ≤ 100000) :
    Calls Try.prog 24 #[v, pcV p] w fun e w' => ∃ v', e = .returned v' ∧ RdPc w' w'.heap.size v' (overF l p) ∧ Below w.heap.size w w' ∧ ((v' = v ∧ overF l p = l) ∨ OwnPc w' w.heap.size v' (overF l p)) := by
  have H := Lib.hid h
  obtain ⟨A, c, rfl, hlc, hc, -⟩ := h
  obtain ⟨⟨s1, s2⟩, s3⟩ := p
  have M1 := Lib.hid (ref_may (s1, s2))
  have M2 := Lib.hid (ref_without (.slice A l.length c) l (s1, s2))
  have B0 := Lib.hid (Box.new w #[.int .i64 s1, .int .i64 s2, .string s3] 34 _ rfl)
  have G := Lib.hid (alloc_below w (.cells #[.int .i64 s1, .int .i64 s2, .string s3] 34))
  unfold pcV
  unfold spV at M1 M2
  go_enter Try.func24, Try.ntmps24
  go_wp2_with fail
  generalize w.alloc (.cells #[.int .i64 s1, .int .i64 s2, .string s3] 34) = W0 at *
  refine (M1.out _).mono ?_
  rintro e w1 ⟨rfl, hb1⟩
  have B0 := Lib.hid (B0.out.later hb1)
  have G := Lib.hid (G.out.trans (hb1.mono G.out.size))
  clear hb1
  cases hm : mayB (s1, s2)
  · have HW := Lib.hid (show RdPc w1 w1.heap.size (.slice A l.length c) (overF l ((s1, s2), s3)) from by unfold overF; rw [if_neg (by simp [hm])]; exact H.out.on G.out)
    have HN := Lib.hid (show overF l ((s1, s2), s3) = l from by unfold overF; rw [if_neg (by simp [hm])])
    clear hm
    go_wp2_with fail
    go_ret
    exact ⟨_, rfl, HW.out, G.out, .inl ⟨rfl, HN.out⟩⟩
  · have HW := Lib.hid (show overF l ((s1, s2), s3) = insF (withoutF l (s1, s2)) ((s1, s2), s3) from by unfold overF; rw [if_pos (by simp [hm])])
    clear hm
    have cs0 := B0.out.cell 0 (.int .i64 s1) rfl
    have cs1 := B0.out.cell 1 (.int .i64 s2) rfl
    go_wp2_with fail
    refine (M2.out w1 (H.out.on G.out) hl).mono ?_
    rintro e w2 ⟨vr, rfl, hr, hb2⟩
    have B0 := Lib.hid (B0.out.later hb2)
    have G := Lib.hid (G.out.trans (hb2.mono G.out.size))
    have hrl := without_len l (s1, s2)
    clear hb2 cs0 cs1
    generalize withoutF l (s1, s2) = rest at *
    have R := Lib.hid hr
    obtain ⟨Ar, cr, rfl, -⟩ := hr
    go_wp2_with fail
    go_loopw [7, 8, 9] (fun x d i wr => ∃ (k : Nat) (o : List Pc) (b : Bool), i = .int .i64 k ∧ d = .bool b ∧ k ≤ rest.length ∧ o.length ≤ 2 * k ∧ OwnPc wr w2.heap.size x o ∧ o ++ (if b then rest.drop k else insF (rest.drop k) ((s1, s2), s3)) = insF rest ((s1, s2), s3) ∧ Below w2.heap.size w2 wr) (fun _ _ i _ => rest.length - (intOf i).toNat)
    case atStart => exact ⟨0, [], false, rfl, rfl, by omega, by simp, OwnX.nil _ _, by simp, Below.refl _ _⟩
    case round =>
      obtain ⟨k, o, b, rfl, rfl, hk, hok, ho, heq, hb⟩ := hrel
      have O := Lib.hid ho
      have GW := Lib.hid hb
      have B0w := Lib.hid (B0.out.later hb)
      have hbs := B0w.out.lt
      have cs0 := B0w.out.cell 0 (.int .i64 s1) rfl
      have cs1 := B0w.out.cell 1 (.int .i64 s2) rfl
      have cs2 := B0w.out.cell 2 (.string s3) rfl
      have hb0 : w.heap.size < w2.heap.size := B0.out.lt
      have HB0 := Lib.hid (Nat.le_of_lt hb0)
      clear ho hb
      by_cases hlt : k < rest.length
      · obtain ⟨ba, oa, rfl, hba, c0, c1, c2⟩ := RdPc.here (R.out.below GW.out) k hlt
        have hdk := List.drop_eq_getElem_cons hlt
        rw [hdk] at heq
        generalize rest[k] = q at *
        obtain ⟨⟨q1, q2⟩, q3⟩ := q
        have hol : o.length + 1 ≤ 1000000000 := by omega
        have hol2 : (o ++ [((s1, s2), s3)]).length + 1 ≤ 1000000000 := by simp; omega
        cases b
        · rw [if_neg (by simp), ins_cons] at heq
          by_cases h1 : q1 ≥ s2
          · rw [if_pos h1] at heq
            have EQ := Lib.hid heq
            have hd : decide (q1 ≥ s2) = true := by simpa using h1
            clear heq hdk
            go_wp2_with fail
            go_quiet (fail)
            go_wp2_with (first
              | (at_builtin; refine wpl_appX rfl (.tmp 40) (.tmp 42) rfl Try.underlying32 pc_info rfl w2.heap.size _ o [((s1, s2), s3)] _ _ _ rfl rfl rfl rfl O.out GW.out.size hol (by decide) ?_; intro x1 w1 ho1 hg1 hb1; have c0 := (hb1.cell (p := ⟨ba, oa + k * 3, none⟩) hba).trans c0; have c1 := (hb1.cell (p := ⟨ba, oa + k * 3 + 1, none⟩) hba).trans c1; have c2 := (hb1.cell (p := ⟨ba, oa + k * 3 + 2, none⟩) hba).trans c2)
              | (at_builtin; refine wpl_appX rfl (.tmp 44) (.tmp 49) rfl Try.underlying32 pc_info rfl w2.heap.size _ (o ++ [((s1, s2), s3)]) [((q1, q2), q3)] _ _ _ rfl rfl rfl rfl ho1 (Nat.le_trans GW.out.size hb1.size) hol2 (by decide) ?_; intro x2 w2 ho2 hg2 hb2))
            go_roundw
            case rel => exact ⟨k + 1, o ++ [((s1, s2), s3)] ++ [((q1, q2), q3)], true, by go_num, rfl, by omega, by simp; omega, ho2, by rw [← EQ.out]; simp, ((GW.out.drewN _).trans hb1).trans hb2⟩
            case measure => simp [intOf]; omega
          · rw [if_neg h1] at heq
            have EQ := Lib.hid heq
            have hd : decide (q1 ≥ s2) = false := by simpa using h1
            clear heq hdk
            go_wp2_with fail
            go_quiet (fail)
            go_wp2_with (at_builtin; refine wpl_appX rfl (.tmp 44) (.tmp 49) rfl Try.underlying32 pc_info rfl w2.heap.size _ o [((q1, q2), q3)] _ _ _ rfl rfl rfl rfl O.out GW.out.size hol (by decide) ?_; intro x2 w2 ho2 hg2 hb2)
            go_roundw
            case rel => exact ⟨k + 1, o ++ [((q1, q2), q3)], false, by go_num, by first | rfl | simp, by omega, by simp; omega, ho2, by rw [← EQ.out]; simp, (GW.out.drewN _).trans hb2⟩
            case measure => simp [intOf]; omega
        · rw [if_pos rfl] at heq
          have EQ := Lib.hid heq
          clear heq hdk
          go_wp2_with fail
          go_quiet (fail)
          go_wp2_with (at_builtin; refine wpl_appX rfl (.tmp 44) (.tmp 49) rfl Try.underlying32 pc_info rfl w2.heap.size _ o [((q1, q2), q3)] _ _ _ rfl rfl rfl rfl O.out GW.out.size hol (by decide) ?_; intro x2 w2 ho2 hg2 hb2)
          go_roundw
          case rel => exact ⟨k + 1, o ++ [((q1, q2), q3)], true, by go_num, by first | rfl | simp, by omega, by simp; omega, ho2, by rw [← EQ.out]; simp, (GW.out.drewN _).trans hb2⟩
          case measure => simp [intOf]; omega
      · have hd : rest.drop k = [] := List.drop_eq_nil_iff.2 (by omega)
        rw [hd] at heq
        have hol : o.length + 1 ≤ 1000000000 := by omega
        have EQ := Lib.hid heq
        clear heq hd
        cases b
        · go_wp2_with (at_builtin; refine wpl_appX rfl (.tmp 53) (.tmp 55) rfl Try.underlying32 pc_info rfl w2.heap.size _ o [((s1, s2), s3)] _ _ _ rfl rfl rfl rfl O.out GW.out.size hol (by decide) ?_; intro x2 w2 ho2 hg2 hb2)
          go_ret
          exact ⟨_, rfl, by rw [HW.out, ← EQ.out]; exact ho2.rd, G.out.trans ((GW.out.trans hb2).mono G.out.size), .inr (by rw [HW.out, ← EQ.out]; exact ho2.mono HB0.out)⟩
        · go_wp2_with fail
          go_ret
          exact ⟨_, rfl, by rw [HW.out, ← EQ.out]; simpa using O.out.rd, G.out.trans (GW.out.mono G.out.size), .inr (by rw [HW.out, ← EQ.out]; simpa using O.out.mono HB0.out)⟩
theorem ref_over (v : Value) (l : List Pc) (p : Pc) (w : World) (h : RdPc w w.heap.size v l) (hl : l.length ≤ 100000) :
    Calls Try.prog 24 #[v, pcV p] w fun e w' => ∃ v', e = .returned v' ∧ RdPc w' w'.heap.size v' (overF l p) ∧ Below w.heap.size w w' := by
  refine (ref_over1 v l p w h hl).mono ?_
  rintro e w' ⟨v', h1, h2, h3, -⟩
  exact ⟨v', h1, h2, h3⟩
end Go.Proofs.Ytoikhgldffgelaa
