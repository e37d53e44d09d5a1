/- Layer 5: arguments that are rectangles, slices of rectangles. -/
import Derived.Test.YtjfneppjdgfecaaEb
import Derived.Deep.Slices
import Derived.Deep.Fields
import Derived.ChangeSame
import Derived.Lib.SmallJoins
namespace Go.Proofs.Ytjfneppjdgfecaa
open Go.RowKit Go.ChangeShapes Go.WideShapes Go.Deep
set_option linter.unusedVariables false

section
variable {H : Type} {enc : TypeId × Value → H} {w : World} {base : Nat} {spare : Nat → Bool} {held : Bool}
theorem cells_span : Try.prog.cellsOf 23 = 2 := by kernel_rfl
theorem cells_re : Try.prog.cellsOf 25 = 4 := by kernel_rfl
theorem cells_i : Try.prog.cellsOf 3 = 1 := by kernel_rfl
def inI (n : Int) : Prop := -9223372036854775808 ≤ n ∧ n ≤ 9223372036854775807
def inR (r : Re) : Prop := inI r.1.1 ∧ inI r.1.2 ∧ inI r.2.1 ∧ inI r.2.2
theorem trod_sp {fuel : Nat} {cs : List Value} {x : DataW H × List MemPlace} (h : DataW.trod enc Try.prog w base spare held fuel 23 cs = some x) : ∃ s : Sp, cs = [.int .i64 s.1, .int .i64 s.2] ∧ inI s.1 ∧ inI s.2 := by
  obtain ⟨y0, y1, n, -, hl, h0, h1⟩ := trod_struct2 Try.underlying23 h
  rw [cells_span] at hl
  match cs, hl with
  | [c0, c1], _ =>
    simp only [cells_i, List.drop_zero, List.take_succ_cons, List.take_zero, List.drop_succ_cons] at h0 h1
    obtain ⟨a, e0, -, w0⟩ := DataW.trod_int Try.underlying3 h0
    obtain ⟨b, e1, -, w1⟩ := DataW.trod_int Try.underlying3 h1
    cases e0
    cases e1
    exact ⟨(a, b), rfl, wf_int w0, wf_int w1⟩
theorem trod_re {fuel : Nat} {cs : List Value} {x : DataW H × List MemPlace} (h : DataW.trod enc Try.prog w base spare held fuel 25 cs = some x) : ∃ r : Re, cs = [.int .i64 r.1.1, .int .i64 r.1.2, .int .i64 r.2.1, .int .i64 r.2.2] ∧ inR r := by
  obtain ⟨y0, y1, n, -, hl, h0, h1⟩ := trod_struct2 Try.underlying25 h
  rw [cells_re] at hl
  match cs, hl with
  | [c0, c1, c2, c3], _ =>
    simp only [cells_span, List.drop_zero, List.take_succ_cons, List.take_zero, List.drop_succ_cons] at h0 h1
    obtain ⟨s, e0, w0, w1⟩ := trod_sp h0
    obtain ⟨t, e1, w2, w3⟩ := trod_sp h1
    cases e0
    cases e1
    exact ⟨(s, t), rfl, w0, w1, w2, w3⟩
end

section
variable {H : Type} {enc : TypeId × Value → H} {W : World} {v : Value} {d : DataW H} {p : List MemPlace} {r : Reach} {b0 : Nat}
theorem open_re (hval : Value.okWide Try.prog W r b0 25 v) (h : DataW.Trod enc Try.prog W 0 (fun _ => true) true 25 v d p) : ∃ x : Re, v = reV x ∧ inR x := by
  obtain ⟨cs, rfl, hsz⟩ := okWide_struct Try.underlying25 hval
  obtain ⟨fuel, hf⟩ := h
  obtain ⟨s, e, h1⟩ := trod_re hf
  refine ⟨s, ?_, h1⟩
  have : cs = #[.int .i64 s.1.1, .int .i64 s.1.2, .int .i64 s.2.1, .int .i64 s.2.2] := by
    apply Array.toList_inj.1
    simpa [Value.cells] using e
  rw [this]; rfl
theorem open_res (hval : Value.okWide Try.prog W r b0 39 v) (h : DataW.Trod enc Try.prog W 0 (fun _ => true) true 39 v d p) (hlt : ∀ x ∈ p, x.block < W.heap.size) :
    ∃ l : List Re, RdRe W W.heap.size v l ∧ ∀ x ∈ l, inR x := by
  obtain ⟨a0, len, cap, rfl⟩ := okWide_slice Try.underlying39 hval
  obtain ⟨fuel, hf⟩ := h
  rcases open_slice Try.underlying39 hf with ⟨hcs, hx⟩ | ⟨a, len', cap', m, n, D, Pl, hcs, _, hl, hm, hmm, hx, hi⟩
  · simp [Value.cells] at hcs
    obtain ⟨rfl, rfl, rfl⟩ := hcs
    exact ⟨[], RdX.nil _ _, by simp⟩
  · simp [Value.cells] at hcs
    obtain ⟨rfl, rfl, rfl⟩ := hcs
    simp only [Prod.mk.injEq] at hx
    obtain ⟨rfl, rfl⟩ := hx
    simp only [if_true] at hmm
    subst hmm
    have hel : ∀ i, i < m → ∃ x : Re, (∀ j u, (reL.enc x)[j]? = some u → W.cell? (a.add (i * 4 + j)) = some u) ∧ inR x := by
      intro i him
      obtain ⟨cs', hc, ht⟩ := hi i him
      rw [cells_re] at hc
      obtain ⟨x, rfl, h1⟩ := trod_re ht
      obtain ⟨_, _, hat⟩ := World.cells?_some hc
      refine ⟨x, fun j u hj => ?_, h1⟩
      have hj4 : j < 4 := by have := (List.getElem?_eq_some_iff.1 hj).1; exact this
      have := hat j hj4
      rw [Go.Deep.add_add] at this
      rw [this]
      exact hj
    let f : Nat → Re := fun i => if h : i < m then (hel i h).choose else r0
    have hfs : ∀ i, i < m → (∀ j u, (reL.enc (f i))[j]? = some u → W.cell? (a.add (i * 4 + j)) = some u) ∧ inR (f i) := by
      intro i h
      have := (hel i h).choose_spec
      simp only [f, dif_pos h]
      exact this
    refine ⟨(List.range len).map f, ⟨some a, m, by simp, by simp; omega, by simpa [maxLen] using hm, fun hp => ?_⟩, fun x hx => ?_⟩
    · have hp : 0 < len := by simpa using hp
      obtain ⟨b, off, spot⟩ := a
      have hspot : spot = none := by simpa [Addr.add] using World.cell?_spot ((hfs 0 (by omega)).1 0 _ rfl)
      subst hspot
      refine ⟨b, off, rfl, hlt (.cell b off) (by
        rw [cells_re]
        exact List.mem_append_left _ (MemPlace.mem_row.2 ⟨0, by omega, by simp⟩)), fun k x hk j u hj => ?_⟩
      rw [List.getElem?_map] at hk
      obtain ⟨i, hki, rfl⟩ := Option.map_eq_some_iff.1 hk
      obtain ⟨hkl, hki⟩ := List.getElem?_eq_some_iff.1 hki
      simp at hkl hki
      subst hki
      have q := (hfs k (by omega)).1 j u hj
      rw [addr_plain, ← Nat.add_assoc] at q
      exact q
    · obtain ⟨i, hi2, rfl⟩ := List.mem_map.1 hx
      exact (hfs i (by have := List.mem_range.1 hi2; omega)).2
end
end Go.Proofs.Ytjfneppjdgfecaa
