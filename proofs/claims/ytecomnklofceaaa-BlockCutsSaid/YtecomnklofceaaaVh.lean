/- Layer 2: a text, read. -/
import Derived.Test.YtecomnklofceaaaVg
namespace Go.Proofs.Ytecomnklofceaaa
open Go.RowKit
set_option linter.unusedVariables false

/-- What a text read leaves. -/
def stepT (l : List UInt8) (e : Int) (most : Int) : List UInt8 × List UInt8 × Int :=
  if (stepN l e).2.2 ≠ 0 then ([], (stepN l e).2.1, (stepN l e).2.2) else if most < (stepN l e).1 then ([], [], 5) else
    if (stepN l e).2.1.length < (stepN l e).1 then ([], [], 3) else ((stepN l e).2.1.take (stepN l e).1, (stepN l e).2.1.drop (stepN l e).1, 0)

set_option maxRecDepth 100000 in
set_option maxHeartbeats 1000000 in
theorem text_any (w : World) (base g : Nat) (p : Value) (l : List UInt8) (e most : Int) (h : RdR w base g p l e) (hl : l.length ≤ 1000000000) (hm : -9223372036854775808 ≤ most ∧ most ≤ 9223372036854775807) :
    Calls Try.prog 63 #[p, .int .i64 most] w fun x w' => x = .returned (.string ⟨(stepT l e most).1.toArray⟩) ∧ RdR w' base g p (stepT l e most).2.1 (stepT l e most).2.2 ∧ w.grownBy w' (some g) := by
  have hbd := stepN_bd l e
  have hn := number_any w base g p l e h hl
  have hst : stepT l e most = if (stepN l e).2.2 ≠ 0 then ([], (stepN l e).2.1, (stepN l e).2.2) else if most < (stepN l e).1 then ([], [], 5) else
    if (stepN l e).2.1.length < (stepN l e).1 then ([], [], 3) else ((stepN l e).2.1.take (stepN l e).1, (stepN l e).2.1.drop (stepN l e).1, 0) := rfl
  generalize stepN l e = st at *
  obtain ⟨n, l', e'⟩ := st
  simp only at hst hn hbd
  have hbd2 : (n : Int) ≤ 4611686018427387903 := by omega
  obtain ⟨rfl, -⟩ := h
  have HN := Lib.hid hn
  clear hn hbd
  by_cases he : e' = 0
  · subst he
    rw [if_neg (by simp)] at hst
    by_cases hmost : most < n
    · rw [if_pos hmost] at hst
      rw [hst]
      clear hst
      go_enter Try.func63, Try.ntmps63
      go_wp2_with fail
      refine HN.out.mono ?_
      rintro x w1 ⟨rfl, hr1, hb1⟩
      have HR1 := Lib.hid hr1
      obtain ⟨-, h2, h3, h4, h5, h6, sl, h7, h8, h9⟩ := hr1
      clear h8 h9
      go_wp2_with (go_at_call 62; refine (fail_any _ base g _ l' 0 5 HR1.out).mono ?_; rintro x w2 ⟨rfl, hr2, hb2⟩)
      go_ret
      exact ⟨rfl, hr2, hb1.trans hb2⟩
    · rw [if_neg hmost] at hst
      by_cases hshort : l'.length < n
      · rw [if_pos hshort] at hst
        rw [hst]
        clear hst
        go_enter Try.func63, Try.ntmps63
        go_wp2_with fail
        refine HN.out.mono ?_
        rintro x w1 ⟨rfl, hr1, hb1⟩
        have HR1 := Lib.hid hr1
        obtain ⟨-, h2, h3, h4, h5, h6, sl, h7, h8, h9⟩ := hr1
        obtain ⟨A, c, rfl, -⟩ := h8
        clear h9
        go_wp2_with (go_at_call 62; refine (fail_any _ base g _ l' 0 3 HR1.out).mono ?_; rintro x w2 ⟨rfl, hr2, hb2⟩)
        go_ret
        exact ⟨rfl, hr2, hb1.trans hb2⟩
      · rw [if_neg hshort] at hst
        rw [hst]
        clear hst
        go_enter Try.func63, Try.ntmps63
        go_wp2_with fail
        refine HN.out.mono ?_
        rintro x w1 ⟨rfl, hr1, hb1⟩
        have HR1 := Lib.hid hr1
        obtain ⟨-, h2, h3, h4, h5, h6, sl, h7, h8, h9⟩ := hr1
        have hh := h8
        obtain ⟨A, c, rfl, -⟩ := h8
        obtain ⟨A2, c2, hsl, hrd, hob⟩ := sl_tail_own hh n (n : Int) rfl (by omega)
        obtain ⟨A3, c3, hsl3, hrd3⟩ := sl_head hh n (n : Int) rfl (by omega)
        have hcv := hrd3.str
        have HT := Lib.hid hrd
        have HO := Lib.hid (show ∀ k, (Value.slice A2 (l'.length - n) c2).ownBlock = some k → base ≤ k from fun k hk => h9 k (hob k hk))
        clear hh hrd hrd3 hob h9
        go_wp2
        go_ret
        exact ⟨rfl, HR1.out.set_left _ _ HT.out HO.out, hb1.trans (grown_set _ 0 _)⟩
  · have hne : (e' != 0) = true := by simpa [bne] using he
    rw [if_pos he] at hst
    rw [hst]
    clear hst he
    go_enter Try.func63, Try.ntmps63
    go_wp2_with fail
    refine HN.out.mono ?_
    rintro x w1 ⟨rfl, hr1, hb1⟩
    have HR1 := Lib.hid hr1
    obtain ⟨-, h2, h3, h4, h5, h6, sl, h7, h8, h9⟩ := hr1
    clear h8 h9
    go_wp2
    go_ret
    exact ⟨rfl, HR1.out, hb1⟩
end Go.Proofs.Ytecomnklofceaaa
