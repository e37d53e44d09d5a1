/- Layer 6: the document's reader of chapter 2 at any index: a text. -/
import Derived.Test.YtecomnklofceaaaRa
namespace Go.Proofs.Ytecomnklofceaaa
open Go.RowKit
set_option linter.unusedVariables false

theorem stepQ_bd (m : List UInt8) (q : Nat) (e : Int) : (stepQ m q e).1 < 4611686018427387904 := by
  have h := stepN_bd (m.drop q) e
  unfold stepQ
  unfold stepN at h
  split
  · exact (by decide : (0 : Nat) < 4611686018427387904)
  · rename_i h1
    rw [if_neg h1] at h
    split
    · exact (by decide : (0 : Nat) < 4611686018427387904)
    · rename_i h2
      rw [if_neg h2] at h
      exact h
/-- What Text tells at q, where it is then, and its error. -/
def textQ (m : List UInt8) (q : Nat) (e : Int) (most : Int) : List UInt8 × Nat × Int :=
  if (stepQ m q e).2.2 ≠ 0 then ([], (stepQ m q e).2.1, (stepQ m q e).2.2) else if most < (stepQ m q e).1 then ([], (stepQ m q e).2.1, 5) else
    if m.length - (stepQ m q e).2.1 < (stepQ m q e).1 then ([], (stepQ m q e).2.1, 3) else ((m.drop (stepQ m q e).2.1).take (stepQ m q e).1, (stepQ m q e).2.1 + (stepQ m q e).1, 0)

set_option maxRecDepth 100000 in
set_option maxHeartbeats 2000000 in
theorem text_doc (w : World) (g : Nat) (p : Value) (m : List UInt8) (q : Nat) (e most : Int) (h : RdQ w g p m q e) (hl : m.length ≤ 1000000) (hm : -9223372036854775808 ≤ most ∧ most ≤ 9223372036854775807) :
    Calls Try.prog 37 #[p, .int .i64 most] w fun x w' => x = .returned (.string ⟨(textQ m q e most).1.toArray⟩) ∧ RdQ w' g p m (textQ m q e most).2.1 (textQ m q e most).2.2 ∧ w.grownBy w' (some g) := by
  have hbd := stepQ_bd m q e
  have hn := number_doc w g p m q e h hl
  have hst : textQ m q e most = if (stepQ m q e).2.2 ≠ 0 then ([], (stepQ m q e).2.1, (stepQ m q e).2.2) else if most < (stepQ m q e).1 then ([], (stepQ m q e).2.1, 5) else
    if m.length - (stepQ m q e).2.1 < (stepQ m q e).1 then ([], (stepQ m q e).2.1, 3) else ((m.drop (stepQ m q e).2.1).take (stepQ m q e).1, (stepQ m q e).2.1 + (stepQ m q e).1, 0) := rfl
  generalize stepQ m q e = st at *
  obtain ⟨n, q', e'⟩ := st
  simp only at hst hn hbd
  have hbd2 : (n : Int) ≤ 4611686018427387903 := by omega
  obtain ⟨rfl, -⟩ := h
  have HN := Lib.hid hn
  clear hn hbd
  by_cases he : e' = 0
  · subst he
    rw [if_neg (by simp)] at hst
    by_cases hmost : most < n
    · rw [if_pos hmost] at hst
      rw [hst]
      clear hst
      go_enter Try.func37, Try.ntmps37
      go_wp2_with fail
      refine HN.out.mono ?_
      rintro x w1 ⟨rfl, hr1, hb1⟩
      have HR1 := Lib.hid hr1
      obtain ⟨-, h2, h3, h4, h5, h6, -, sl, h7, h8⟩ := hr1
      clear h8
      go_wp2_with (go_at_call 57; refine (fail_doc2 _ g _ m q' 5 HR1.out).mono ?_; rintro x w2 ⟨rfl, hr2, hb2⟩)
      go_ret
      exact ⟨rfl, hr2, hb1.trans hb2⟩
    · rw [if_neg hmost] at hst
      by_cases hshort : m.length - q' < n
      · rw [if_pos hshort] at hst
        rw [hst]
        clear hst
        go_enter Try.func37, Try.ntmps37
        go_wp2_with fail
        refine HN.out.mono ?_
        rintro x w1 ⟨rfl, hr1, hb1⟩
        have HR1 := Lib.hid hr1
        obtain ⟨-, h2, h3, h4, h5, h6, hq, sl, h7, h8⟩ := hr1
        obtain ⟨A, c, rfl, -⟩ := h8
        have hs2 : ((m.length : Int) - (q' : Int) < (n : Int)) := by omega
        go_wp2_with fail
        go_quiet (fail)
        go_wp2_with (go_at_call 57; refine (fail_doc2 _ g _ m q' 3 (HR1.out.on ((Below.refl _ _).drewN _))).mono ?_; rintro x w2 ⟨rfl, hr2, hb2⟩)
        go_ret
        exact ⟨rfl, hr2, (hb1.trans (grown_of_below ((Below.refl _ _).drewN _))).trans hb2⟩
      · rw [if_neg hshort] at hst
        rw [hst]
        clear hst
        go_enter Try.func37, Try.ntmps37
        go_wp2_with fail
        refine HN.out.mono ?_
        rintro x w1 ⟨rfl, hr1, hb1⟩
        have HR1 := Lib.hid hr1
        obtain ⟨-, h2, h3, h4, h5, h6, hq, sl, h7, h8⟩ := hr1
        have hh := h8
        obtain ⟨A, c, rfl, -⟩ := h8
        obtain ⟨A3, c3, hsl3, hrd3⟩ := sl_mid hh q' (q' + n) (q' : Int) ((q' : Int) + (n : Int)) rfl (by omega) (by omega) (by omega)
        rw [show q' + n - q' = n from by omega] at hrd3 hsl3
        have hcv := fun W (hW : RdB W g (.slice A3 n c3) ((m.drop q').take n)) => RdB.str hW
        have hcv1 := fun k => hcv (w1.drewN k) (show RdB (w1.drewN k) g _ _ from hrd3)
        have hcv2 := hcv w1 hrd3
        clear hcv
        have hs2 : ¬ ((m.length : Int) - (q' : Int) < (n : Int)) := by omega
        have HLE := Lib.hid (show q' + n ≤ m.length from by omega)
        have hnn : (n : Int) ≤ 1000000 := by omega
        have hqq : (q' : Int) ≤ 1000000 := by omega
        have hsum : (q' : Int) + (n : Int) ≤ 2000000 := by omega
        have hwr : IntKind.i64.wrap ((q' : Int) + (n : Int)) = (q' : Int) + (n : Int) := by rw [IntKind.wrap_i64]; first | omega | (unfold wrap64; omega)
        clear hbd2
        clear hh hrd3
        go_wp2_with fail
        go_quiet (fail)
        go_wp2_with fail
        go_quiet (fail)
        go_wp2_with fail
        go_ret
        exact ⟨rfl, (HR1.out.on ((Below.refl _ _).drewN _)).set_at _ _ (by go_num) HLE.out, (hb1.trans (grown_of_below ((Below.refl _ _).drewN _))).trans (grown_set _ 1 _)⟩
  · have hne : (e' != 0) = true := by simpa [bne] using he
    rw [if_pos he] at hst
    rw [hst]
    clear hst he
    go_enter Try.func37, Try.ntmps37
    go_wp2_with fail
    refine HN.out.mono ?_
    rintro x w1 ⟨rfl, hr1, hb1⟩
    have HR1 := Lib.hid hr1
    obtain ⟨-, h2, h3, h4, h5, h6, -, sl, h7, h8⟩ := hr1
    clear h8
    go_wp2
    go_ret
    exact ⟨rfl, HR1.out, hb1⟩
end Go.Proofs.Ytecomnklofceaaa
