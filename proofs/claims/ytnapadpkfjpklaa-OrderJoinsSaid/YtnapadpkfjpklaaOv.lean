/- Layer 1: a tuple's bytes, read. -/
import Derived.Test.YtnapadpkfjpklaaOu
import Derived.Test.YtnapadpkfjpklaaOk
namespace Go.Proofs.Ytnapadpkfjpklaa
open Go.RowKit
set_option linter.unusedVariables false

def lenOf : Value → Nat | .slice _ n _ => n | _ => 0

set_option maxHeartbeats 1600000 in
theorem order_read (v : Value) (l : List UInt8) (w : World) (h : RdB w w.heap.size v l) (hl : l.length ≤ 1000000) :
    Calls Try.prog 13 #[v] w fun e w' => ∃ v', e = .returned (.tuple #[v', .int .i64 (rdAll l).1]) ∧ RdParts w' w'.heap.size v' (rdAll l).2 ∧ Below w.heap.size w w' := by
  have H := Lib.hid h
  obtain ⟨A, c, rfl, hlc, hc, -⟩ := h
  go_enter Try.func13, Try.ntmps13
  go_wp2
  go_loopw [0, 4] (fun y x wr => ∃ (r : List UInt8) (s : List PartD), r.length ≤ l.length ∧ s.length + r.length ≤ l.length ∧ preAll s (rdAll r) = rdAll l ∧ RdB wr w.heap.size y r ∧ OwnP wr w.heap.size x s ∧ Below w.heap.size w wr) (fun y _ _ => lenOf y)
  case atStart => exact ⟨l, [], Nat.le_refl _, by simp, preAll_nil l, H.out, OwnP.nil w _, Below.refl _ _⟩
  case round =>
    obtain ⟨r, s, hrl, hsl, hp, hr, ho, hbw⟩ := hrel
    have hgs := hbw.size
    have HR := Lib.hid hr
    have HO := Lib.hid ho
    have HW := Lib.hid hbw
    obtain ⟨A', c', rfl, hrc, hrc2, -⟩ := hr
    clear ho hbw
    by_cases h0 : 0 < r.length
    · have hne : r ≠ [] := by rintro rfl; simp at h0
      rw [rdAll_step hne] at hp
      have HPP := Lib.hid hp
      have hrest := fun h => rdPart_rest (b := r) h
      have HRest := Lib.hid hrest
      clear hp hrest hne
      go_wp2_with fail
      refine (read_part _ _ r _ HR.out hgs h0 (by omega)).mono ?_
      rintro e w1 ⟨v1, rfl, hr1, hb1⟩
      have hgs1 := hb1.size
      have HB := Lib.hid hb1
      have HR1 := Lib.hid hr1
      clear hb1
      generalize hx : rdPart r = x at *
      obtain ⟨xe, ⟨tp, np, sp⟩, xr⟩ := x
      clear hx
      unfold PartD.v
      obtain ⟨A1, c1, rfl, hrc1, hrc3, -⟩ := hr1
      by_cases he : xe = 0
      · subst he
        obtain ⟨k, hk1, hk2, hk3⟩ := HRest.out rfl
        have hxr : xr.length + k = r.length := by rw [show xr = r.drop k from hk3, List.length_drop]; omega
        clear hk3
        have hpl : (s ++ [(⟨tp, np, sp⟩ : PartD)]).length = s.length + 1 := by simp
        have ho1 : OwnP w1 w.heap.size u4 s := HO.out.kept (row := none) ⟨HB.out.os, HB.out.tape, HB.out.output, HB.out.size, fun i hi _ => HB.out.block i hi⟩ (by cases u4.ownBlock <;> simp)
        have HO1 := Lib.hid ho1
        clear ho1
        go_wp2_with (at_builtin; refine wpl_appg rfl (.tmp 20) (.tmp 22) rfl Try.underlying22 part_info rfl (by omega) u4 _ _ (w1.heap.size + 1) 1 1 [.bool tp, .int .i64 np, .string sp] rfl rfl rfl (blk_new _ _ _ (by simp)) (one_cells ⟨tp, np, _⟩) ((HO1.out.alloc _).alloc _) ?_ ?_ ?_ ?_; rotate_left 3; intro v2 w2 ho2 hg2 hs2)
        · have hb2 : Below w.heap.size w1 w2 := ((Below.refl _ _).alloc (by omega) _).alloc (by simp; omega) _ |>.trans (hg2.below (by simp; omega) (OwnP.base HO1.out))
          have hb3 : Below w.heap.size w w2 := (HW.out.trans (HB.out.mono hgs)).trans hb2
          have HB2 := Lib.hid hb2
          have HB3 := Lib.hid hb3
          have hpp := HPP.out
          simp only [if_true] at hpp
          have HPQ := Lib.hid hpp
          clear hb2 hb3 hpp
          go_roundw
          case rel =>
            refine ⟨xr, s ++ [⟨tp, np, sp⟩], by omega, by omega, HPQ.out, HR1.out.below HB2.out, ?_, HB3.out⟩
            unfold OwnP
            rw [pcells_append, List.length_append]
            exact ho2
          case measure => simp only [lenOf]; omega
        all_goals first | omega | (simp; omega)
      · have he1 : (xe != 0) = true := by simpa using he
        have he2 : (xe == 0) = false := by simpa using he
        have hfin : ∀ ob, Below w.heap.size w (w1.alloc ob) := fun ob => (HW.out.trans (HB.out.mono hgs)).alloc (by omega) ob
        have HFIN := Lib.hid hfin
        clear hfin
        have hpp := HPP.out
        rw [if_neg he] at hpp
        have HPQ := Lib.hid hpp
        clear hpp he
        go_wp2
        go_ret2
        exact ⟨.slice none 0 0, by rw [← HPQ.out]; rfl, by rw [← HPQ.out]; exact rd_none _ _, HFIN.out _⟩
    · have hr0 : r = [] := List.eq_nil_of_length_eq_zero (by omega)
      subst hr0
      rw [rdAll_nil] at hp
      have HPQ := Lib.hid hp
      clear hp
      go_wp2
      go_ret2
      exact ⟨_, by rw [← HPQ.out]; rfl, by rw [← HPQ.out]; exact OwnP.rd HO.out, HW.out⟩
end Go.Proofs.Ytnapadpkfjpklaa
