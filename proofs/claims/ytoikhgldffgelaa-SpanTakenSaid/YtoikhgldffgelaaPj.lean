/- Layer 4: arguments that are spans, pieces, slices of pieces. -/
import Derived.Test.YtoikhgldffgelaaPa
import Derived.Deep.Slices
import Derived.Deep.Fields
import Derived.ChangeSame
import Derived.Lib.SmallJoins
namespace Go.Proofs.Ytoikhgldffgelaa
open Go.RowKit Go.ChangeShapes Go.WideShapes Go.Deep
set_option linter.unusedVariables false

section
variable {H : Type} {enc : TypeId × Value → H} {w : World} {base : Nat} {spare : Nat → Bool} {held : Bool}
theorem cells_span : Try.prog.cellsOf 23 = 2 := by kernel_rfl
theorem cells_piece : Try.prog.cellsOf 34 = 3 := by kernel_rfl
theorem cells_i : Try.prog.cellsOf 3 = 1 := by kernel_rfl
theorem cells_s : Try.prog.cellsOf 9 = 1 := by kernel_rfl
def inI (n : Int) : Prop := -9223372036854775808 ≤ n ∧ n ≤ 9223372036854775807
theorem trod_sp {fuel : Nat} {cs : List Value} {x : DataW H × List MemPlace} (h : DataW.trod enc Try.prog w base spare held fuel 23 cs = some x) : ∃ s : Sp, cs = [.int .i64 s.1, .int .i64 s.2] ∧ inI s.1 ∧ inI s.2 := by
  obtain ⟨y0, y1, n, -, hl, h0, h1⟩ := trod_struct2 Try.underlying23 h
  rw [cells_span] at hl
  match cs, hl with
  | [c0, c1], _ =>
    simp only [cells_i, List.drop_zero, List.take_succ_cons, List.take_zero, List.drop_succ_cons] at h0 h1
    obtain ⟨a, e0, -, w0⟩ := DataW.trod_int Try.underlying3 h0
    obtain ⟨b, e1, -, w1⟩ := DataW.trod_int Try.underlying3 h1
    cases e0
    cases e1
    exact ⟨(a, b), rfl, wf_int w0, wf_int w1⟩
theorem trod_pc {fuel : Nat} {cs : List Value} {x : DataW H × List MemPlace} (h : DataW.trod enc Try.prog w base spare held fuel 34 cs = some x) : ∃ p : Pc, cs = [.int .i64 p.1.1, .int .i64 p.1.2, .string p.2] ∧ inI p.1.1 ∧ inI p.1.2 ∧ p.2.size ≤ 9223372036854775807 := by
  obtain ⟨y0, y1, n, -, hl, h0, h1⟩ := trod_struct2 Try.underlying34 h
  rw [cells_piece] at hl
  match cs, hl with
  | [c0, c1, c2], _ =>
    simp only [cells_span, cells_s, List.drop_zero, List.take_succ_cons, List.take_zero, List.drop_succ_cons] at h0 h1
    obtain ⟨s, e0, w0, w1⟩ := trod_sp h0
    obtain ⟨b, e1, -, w2⟩ := DataW.trod_string Try.underlying9 h1
    cases e0
    cases e1
    exact ⟨(s, b), rfl, w0, w1, by simp only [maxLen] at w2; omega⟩
end

section
variable {H : Type} {enc : TypeId × Value → H} {W : World} {v : Value} {d : DataW H} {p : List MemPlace} {r : Reach} {b0 : Nat}
theorem open_sp (hval : Value.okWide Try.prog W r b0 23 v) (h : DataW.Trod enc Try.prog W 0 (fun _ => true) true 23 v d p) : ∃ s : Sp, v = spV s ∧ inI s.1 ∧ inI s.2 := by
  obtain ⟨cs, rfl, hsz⟩ := okWide_struct Try.underlying23 hval
  obtain ⟨fuel, hf⟩ := h
  obtain ⟨s, e, h1, h2⟩ := trod_sp hf
  refine ⟨s, ?_, h1, h2⟩
  have : cs = #[.int .i64 s.1, .int .i64 s.2] := by
    apply Array.toList_inj.1
    simpa [Value.cells] using e
  rw [this]; rfl
theorem open_pc (hval : Value.okWide Try.prog W r b0 34 v) (h : DataW.Trod enc Try.prog W 0 (fun _ => true) true 34 v d p) : ∃ x : Pc, v = pcV x ∧ inI x.1.1 ∧ inI x.1.2 ∧ x.2.size ≤ 9223372036854775807 := by
  obtain ⟨cs, rfl, hsz⟩ := okWide_struct Try.underlying34 hval
  obtain ⟨fuel, hf⟩ := h
  obtain ⟨s, e, h1, h2, h3⟩ := trod_pc hf
  refine ⟨s, ?_, h1, h2, h3⟩
  have : cs = #[.int .i64 s.1.1, .int .i64 s.1.2, .string s.2] := by
    apply Array.toList_inj.1
    simpa [Value.cells] using e
  rw [this]; rfl
theorem open_pcs (hval : Value.okWide Try.prog W r b0 32 v) (h : DataW.Trod enc Try.prog W 0 (fun _ => true) true 32 v d p) (hlt : ∀ x ∈ p, x.block < W.heap.size) :
    ∃ l : List Pc, RdPc W W.heap.size v l ∧ ∀ x ∈ l, inI x.1.1 ∧ inI x.1.2 ∧ x.2.size ≤ 9223372036854775807 := by
  obtain ⟨a0, len, cap, rfl⟩ := okWide_slice Try.underlying32 hval
  obtain ⟨fuel, hf⟩ := h
  rcases open_slice Try.underlying32 hf with ⟨hcs, hx⟩ | ⟨a, len', cap', m, n, D, Pl, hcs, _, hl, hm, hmm, hx, hi⟩
  · simp [Value.cells] at hcs
    obtain ⟨rfl, rfl, rfl⟩ := hcs
    exact ⟨[], RdX.nil _ _, by simp⟩
  · simp [Value.cells] at hcs
    obtain ⟨rfl, rfl, rfl⟩ := hcs
    simp only [Prod.mk.injEq] at hx
    obtain ⟨rfl, rfl⟩ := hx
    simp only [if_true] at hmm
    subst hmm
    have hel : ∀ i, i < m → ∃ x : Pc, W.cell? (a.add (i * 3)) = some (.int .i64 x.1.1) ∧ W.cell? (a.add (i * 3 + 1)) = some (.int .i64 x.1.2) ∧ W.cell? (a.add (i * 3 + 2)) = some (.string x.2) ∧ inI x.1.1 ∧ inI x.1.2 ∧ x.2.size ≤ 9223372036854775807 := by
      intro i him
      obtain ⟨cs', hc, ht⟩ := hi i him
      rw [cells_piece] at hc
      obtain ⟨x, rfl, h1, h2, h3⟩ := trod_pc ht
      obtain ⟨_, _, hat⟩ := World.cells?_some hc
      refine ⟨x, ?_, ?_, ?_, h1, h2, h3⟩
      · have := hat 0 (by omega); rw [Go.Deep.add_add] at this; simpa using this
      · have := hat 1 (by omega); rw [Go.Deep.add_add] at this; simpa using this
      · have := hat 2 (by omega); rw [Go.Deep.add_add] at this; simpa using this
    let f : Nat → Pc := fun i => if h : i < m then (hel i h).choose else ((0, 0), ⟨#[]⟩)
    have hfs : ∀ i, i < m → W.cell? (a.add (i * 3)) = some (.int .i64 (f i).1.1) ∧ W.cell? (a.add (i * 3 + 1)) = some (.int .i64 (f i).1.2) ∧ W.cell? (a.add (i * 3 + 2)) = some (.string (f i).2) ∧ inI (f i).1.1 ∧ inI (f i).1.2 ∧ (f i).2.size ≤ 9223372036854775807 := by
      intro i h
      have := (hel i h).choose_spec
      simp only [f, dif_pos h]
      exact this
    refine ⟨(List.range len).map f, ⟨some a, m, by simp, by simp; omega, by simpa [maxLen] using hm, fun hp => ?_⟩, fun x hx => ?_⟩
    · have hp : 0 < len := by simpa using hp
      obtain ⟨b, off, spot⟩ := a
      have hspot : spot = none := by simpa [Addr.add] using World.cell?_spot (hfs 0 (by omega)).1
      subst hspot
      refine ⟨b, off, rfl, hlt (.cell b off) (by
        rw [cells_piece]
        exact List.mem_append_left _ (MemPlace.mem_row.2 ⟨0, by omega, by simp⟩)), fun k x hk j u hj => ?_⟩
      rw [List.getElem?_map] at hk
      obtain ⟨i, hki, rfl⟩ := Option.map_eq_some_iff.1 hk
      obtain ⟨hkl, hki⟩ := List.getElem?_eq_some_iff.1 hki
      simp at hkl hki
      subst hki
      obtain ⟨q0, q1, q2, -⟩ := hfs k (by omega)
      simp only [addr_plain] at q0 q1 q2
      match j, hj with
      | 0, hj => simp [pcL] at hj; subst hj; exact q0
      | 1, hj => simp [pcL] at hj; subst hj; exact q1
      | 2, hj => simp [pcL] at hj; subst hj; exact q2
      | j + 3, hj => simp [pcL] at hj
    · obtain ⟨i, hi2, rfl⟩ := List.mem_map.1 hx
      exact (hfs i (by have := List.mem_range.1 hi2; omega)).2.2.2
end
end Go.Proofs.Ytoikhgldffgelaa
