/- Layer 2: a reader. -/
import Derived.Test.YtecomnklofceaaaVV
import Derived.Test.YtecomnklofceaaaVf
namespace Go.Proofs.Ytecomnklofceaaa
open Go.RowKit
set_option linter.unusedVariables false

/-- p is a reader, in block g, of memory from base on, that is ahead of l, with the error e. -/
structure RdR (w : World) (base g : Nat) (p : Value) (l : List UInt8) (e : Int) : Prop where
  ptr : p = .pointer (some ⟨g, 0, none⟩)
  lt : g < w.heap.size
  from' : base ≤ g
  err : w.cell? ⟨g, 1, none⟩ = some (.int .i64 e)
  frz0 : w.frozen? ⟨g, 0, none⟩ = false
  frz1 : w.frozen? ⟨g, 1, none⟩ = false
  left : ∃ sl, w.cell? ⟨g, 0, none⟩ = some sl ∧ RdB w g sl l ∧ ∀ k, sl.ownBlock = some k → base ≤ k

set_option maxHeartbeats 400000 in
theorem vary_read (v : Value) (l : List UInt8) (w : World) (h : RdB w w.heap.size v l) (hl : l.length ≤ 549755813888) :
    Calls Try.prog 27 #[v] w fun e w' => ∃ p g, e = .returned p ∧ RdR w' w.heap.size g p l 0 ∧ Below w.heap.size w w' := by
  go_enter Try.func27, Try.ntmps27
  go_wp2_with (go_at_call 40; refine (clone_any _ l _ h hl).mono ?_; rintro e w1 ⟨v1, rfl, ho1, hb1⟩; obtain ⟨A1, k1, hv1, -⟩ := own_cap ho1; subst hv1)
  go_ret
  have hn := heap_alloc_new w1 (.cells #[.slice A1 l.length k1, .int .i64 0] 79)
  have hrd := ho1.rd.below (alloc_below w1 (.cells #[.slice A1 l.length k1, .int .i64 0] 79))
  refine ⟨_, w1.heap.size, rfl, ⟨rfl, by simp, hb1.size, ?_, ?_, ?_, _, ?_, hrd, OwnB.base ho1⟩, hb1.trans ((alloc_below w1 _).mono hb1.size)⟩
  · rw [cell_of_row _ _ _ _ _ (0, 0) hn]; rfl
  · simp
  · simp
  · rw [cell_of_row _ _ _ _ _ (0, 0) hn]; rfl

theorem RdR.on {w w' : World} {base g : Nat} {p : Value} {l : List UInt8} {e : Int} (h : RdR w base g p l e) (hb : Below w.heap.size w w') : RdR w' base g p l e := by
  obtain ⟨h1, h2, h3, h4, h5, h6, sl, h7, h8, h9⟩ := h
  exact ⟨h1, Nat.lt_of_lt_of_le h2 hb.size, h3, (hb.cell (p := ⟨g, 1, none⟩) h2).trans h4, (hb.frozen (p := ⟨g, 0, none⟩) h2).trans h5, (hb.frozen (p := ⟨g, 1, none⟩) h2).trans h6, sl, (hb.cell (p := ⟨g, 0, none⟩) h2).trans h7, h8.below (hb.mono (Nat.le_of_lt h2)), h9⟩
theorem below_set {g : Nat} (w : World) (o : Nat) (v : Value) : Below g w (w.setCell ⟨g, o, none⟩ v) := (Below.refl g w).setCell (Nat.le_refl _) v
theorem grown_set {g : Nat} (w : World) (o : Nat) (v : Value) : w.grownBy (w.setCell ⟨g, o, none⟩ v) (some g) :=
  ⟨rfl, rfl, rfl, by simp [World.setCell], fun k _ hk => Below.heap_setCell _ _ _ _ (fun e => hk (by simp [e]))⟩
theorem RdR.set_left {w : World} {base g : Nat} {p : Value} {l : List UInt8} {e : Int} (h : RdR w base g p l e) (sl' : Value) (l' : List UInt8) (hr : RdB w g sl' l') (hb : ∀ k, sl'.ownBlock = some k → base ≤ k) :
    RdR (w.setCell ⟨g, 0, none⟩ sl') base g p l' e := by
  obtain ⟨h1, h2, h3, h4, h5, h6, sl, h7, h8, h9⟩ := h
  exact ⟨h1, by simpa using h2, h3, (World.cell?_setCell_other _ _ _ _ (by simp)).trans h4, by simpa using h5, by simpa using h6, sl', World.cell?_setCell_same _ _ _ h7, hr.below (below_set w 0 sl'), hb⟩
theorem RdR.set_err {w : World} {base g : Nat} {p : Value} {l : List UInt8} {e : Int} (h : RdR w base g p l e) (e' : Int) : RdR (w.setCell ⟨g, 1, none⟩ (.int .i64 e')) base g p l e' := by
  obtain ⟨h1, h2, h3, h4, h5, h6, sl, h7, h8, h9⟩ := h
  exact ⟨h1, by simpa using h2, h3, World.cell?_setCell_same _ _ _ h4, by simpa using h5, by simpa using h6, sl, (World.cell?_setCell_other _ _ _ _ (by simp)).trans h7, h8.below (below_set w 1 _), h9⟩

set_option maxHeartbeats 400000 in
theorem fail_any (w : World) (base g : Nat) (p : Value) (l : List UInt8) (e e' : Int) (h : RdR w base g p l e) :
    Calls Try.prog 62 #[p, .int .i64 e'] w fun x w' => x = .returned (.tuple #[]) ∧ RdR w' base g p [] e' ∧ w.grownBy w' (some g) := by
  have H := Lib.hid h
  have HR := Lib.hid ((h.set_left (.slice none 0 0) [] (RdB.nil _ _) (by simp [Value.ownBlock])).set_err e')
  obtain ⟨rfl, h2, h3, h4, h5, h6, sl, h7, h8, h9⟩ := h
  clear h8 h9
  go_enter Try.func62, Try.ntmps62
  go_wp2
  go_end0
  exact ⟨rfl, HR.out, (grown_set w 0 _).trans (grown_set _ 1 _)⟩

/-- What a number read leaves. -/
def stepN (l : List UInt8) (e : Int) : Nat × List UInt8 × Int := if e ≠ 0 then (0, l, e) else if (rdN l).2.2 ≠ 0 then (0, [], (rdN l).2.2) else ((rdN l).1, l.drop (rdN l).2.1, 0)

set_option maxHeartbeats 400000 in
theorem number_any (w : World) (base g : Nat) (p : Value) (l : List UInt8) (e : Int) (h : RdR w base g p l e) (hl : l.length ≤ 1000000000) :
    Calls Try.prog 46 #[p] w fun x w' => x = .returned (.int .i64 (stepN l e).1) ∧ RdR w' base g p (stepN l e).2.1 (stepN l e).2.2 ∧ w.grownBy w' (some g) := by
  have H := Lib.hid h
  obtain ⟨rfl, h2, h3, h4, h5, h6, sl, h7, h8, h9⟩ := h
  by_cases he : e = 0
  · subst he
    have HS := Lib.hid h8
    have H9 := Lib.hid h9
    have hsz := rdN_size l
    have hfst := rdN_zero l
    have hst : stepN l 0 = if (rdN l).2.2 ≠ 0 then (0, [], (rdN l).2.2) else ((rdN l).1, l.drop (rdN l).2.1, 0) := by unfold stepN; rw [if_neg (by simp)]
    generalize hr : rdN l = r at *
    have HRD := Lib.hid hr
    clear hr h8 h9
    obtain ⟨n, size, e1⟩ := r
    by_cases he1 : e1 = 0
    · subst he1
      have hsz := (hsz rfl).1
      simp only at hsz
      rw [if_neg (by simp)] at hst
      rw [hst]
      clear hst
      obtain ⟨A2, c2, hsl, hrd, hob⟩ := sl_tail_own HS.out size (size : Int) rfl hsz
      have HR := Lib.hid hrd
      have hown : ∀ k, (Value.slice A2 (l.length - size) c2).ownBlock = some k → base ≤ k := fun k hk => H9.out k (hob k hk)
      have HO := Lib.hid hown
      clear hrd hown hfst hob
      go_enter Try.func46, Try.ntmps46
      go_wp2_with (go_at_call 61; refine (read_number _ _ l _ HS.out hl).mono ?_; rw [HRD.out]; rintro e w1 ⟨rfl, rfl⟩)
      go_ret
      exact ⟨rfl, H.out.set_left _ _ HR.out HO.out, grown_set w1 0 _⟩
    · have hn0 : n = 0 := hfst he1
      subst hn0
      rw [if_pos he1] at hst
      rw [hst]
      clear hfst hsz hst
      have hne : (e1 != 0) = true := by simpa [bne] using he1
      have HE1 := Lib.hid he1
      clear he1
      go_enter Try.func46, Try.ntmps46
      go_wp2_with (first
        | (go_at_call 61; refine (read_number _ _ l _ HS.out hl).mono ?_; rw [HRD.out]; rintro e w1 ⟨rfl, rfl⟩)
        | (go_at_call 62; refine (fail_any _ base g _ l 0 e1 H.out).mono ?_; rintro x w2 ⟨rfl, hr2, hb2⟩))
      go_ret
      exact ⟨rfl, hr2, hb2⟩
  · have hne : (e != 0) = true := by simpa [bne] using he
    have H0 : stepN l e = (0, l, e) := by unfold stepN; rw [if_pos he]
    rw [H0]
    clear h8 h9 H0 he
    go_enter Try.func46, Try.ntmps46
    go_wp2
    go_ret
    exact ⟨rfl, H.out, World.grownBy.refl _ _⟩

theorem stepN_bd (l : List UInt8) (e : Int) : (stepN l e).1 < 4611686018427387904 := by
  unfold stepN
  split
  · simp
  · split
    · simp
    · rename_i h
      exact (rdN_size l (by simpa using h)).2

set_option maxHeartbeats 400000 in
theorem err_any (w : World) (base g : Nat) (p : Value) (l : List UInt8) (e : Int) (h : RdR w base g p l e) :
    Calls Try.prog 29 #[p] w fun x w' => x = .returned (.int .i64 e) ∧ w = w' := by
  obtain ⟨rfl, h2, h3, h4, h5, h6, sl, h7, h8, h9⟩ := h
  clear h8 h9
  go_enter Try.func29, Try.ntmps29
  go_wp2
  go_ret
  exact ⟨rfl, rfl⟩
end Go.Proofs.Ytecomnklofceaaa
