/- Layer 1: an argument that is a tuple, opened to its parts. -/
import Derived.Test.YtnapadpkfjpklaaOi
import Derived.Test.YtnapadpkfjpklaaBlaw
namespace Go.Proofs.Ytnapadpkfjpklaa
open Go.RowKit Go.ChangeShapes Go.WideShapes Go.ChangeAt Go.Deep
set_option linter.unusedVariables false

theorem Try.own : ownKnob Try.prog.godebug = none := by kernel_rfl
theorem Try.laidOut : laidOutB Try.prog = true := by kernel_rfl
theorem cells_part : Try.prog.cellsOf 43 = 3 := by kernel_rfl
theorem cells_bool : Try.prog.cellsOf 4 = 1 := by kernel_rfl
theorem cells_int : Try.prog.cellsOf 3 = 1 := by kernel_rfl
theorem cells_string : Try.prog.cellsOf 9 = 1 := by kernel_rfl

theorem wf_int {n : Int} (h : (Lit.int .i64 n).wf = true) : -9223372036854775808 ≤ n ∧ n ≤ 9223372036854775807 := by
  simpa [Lit.wf, IntKind.min, IntKind.max, IntKind.signed, IntKind.bits] using h

/-- A part as it came in: its number fits, its text has a length. -/
def PartIn (p : PartD) : Prop := -9223372036854775808 ≤ p.num ∧ p.num ≤ 9223372036854775807 ∧ p.text.size ≤ 9223372036854775807

theorem open_parts {H : Type} {enc : TypeId × Value → H} {W : World} {v : Value} {d : DataW H} {p : List MemPlace} {r : Reach} {b0 : Nat} (hval : Value.okWide Try.prog W r b0 22 v)
    (h : DataW.Trod enc Try.prog W 0 (fun _ => true) true 22 v d p) (hlt : ∀ x ∈ p, x.block < W.heap.size) :
    ∃ ps : List PartD, RdParts W W.heap.size v ps ∧ ∀ q ∈ ps, PartIn q := by
  obtain ⟨a0, len, cap, rfl⟩ := okWide_slice Try.underlying22 hval
  obtain ⟨fuel, hf⟩ := h
  rcases open_slice Try.underlying22 hf with ⟨hcs, hx⟩ | ⟨a, len', cap', m, n, D, Pl, hcs, _, hl, hm, hmm, hx, hi⟩
  · simp [Value.cells] at hcs
    obtain ⟨rfl, rfl, rfl⟩ := hcs
    exact ⟨[], rd_none _ _, by simp⟩
  · simp [Value.cells] at hcs
    obtain ⟨rfl, rfl, rfl⟩ := hcs
    simp only [if_true] at hmm
    subst hmm
    simp only [Prod.mk.injEq] at hx
    obtain ⟨rfl, rfl⟩ := hx
    rw [cells_part] at hi hlt
    have key : ∀ i, i < len → ∃ q : PartD, PartIn q ∧ W.cell? (a.add (i * 3)) = some (.bool q.isText) ∧ W.cell? ((a.add (i * 3)).add 1) = some (.int .i64 q.num) ∧ W.cell? ((a.add (i * 3)).add 2) = some (.string q.text) := by
      intro i hi1
      obtain ⟨cs', hc, ht⟩ := hi i (by omega)
      obtain ⟨_, hlen, hcell⟩ := World.cells?_some hc
      obtain ⟨y0, y1, y2, n', _, _, h0, h1, h2⟩ := trod_struct3 Try.underlying43 ht
      match cs', hlen with
      | [c0, c1, c2], _ =>
        simp only [cells_bool, cells_int, cells_string, List.drop_zero, List.drop_succ_cons, List.take_succ_cons, List.take_zero] at h0 h1 h2
        obtain ⟨b, e0, _⟩ := DataW.trod_bool Try.underlying4 h0
        obtain ⟨k, e1, _, hw⟩ := DataW.trod_int Try.underlying3 h1
        obtain ⟨s, e2, _, hs⟩ := DataW.trod_string Try.underlying9 h2
        cases e0
        cases e1
        cases e2
        have g0 := hcell 0 (by omega)
        have g1 := hcell 1 (by omega)
        have g2 := hcell 2 (by omega)
        rw [show (a.add (i * 3)).add 0 = a.add (i * 3) from rfl] at g0
        exact ⟨⟨b, k, s⟩, ⟨(wf_int hw).1, (wf_int hw).2, by simpa [maxLen] using hs⟩, g0, g1, g2⟩
    haveI : Inhabited PartD := ⟨⟨false, 0, ⟨#[]⟩⟩⟩
    obtain ⟨q, hq⟩ := choose_lt (α := PartD) (n := len) (p := fun i q => PartIn q ∧ W.cell? (a.add (i * 3)) = some (.bool q.isText) ∧ W.cell? ((a.add (i * 3)).add 1) = some (.int .i64 q.num) ∧ W.cell? ((a.add (i * 3)).add 2) = some (.string q.text)) key
    refine ⟨(List.range len).map q, ⟨some a, m, by simp, by simp; omega, by simp only [maxLen] at hm; omega, fun hp => ?_⟩, ?_⟩
    · have hp0 : 0 < len := by simpa using hp
      obtain ⟨b, off, spot⟩ := a
      have hspot : spot = none := by
        have := (hq 0 hp0).2.1
        simp only [Nat.zero_mul] at this
        exact World.cell?_spot (a := ⟨b, off, spot⟩) (by simpa [Addr.add] using this)
      subst hspot
      have hadd : ∀ i, (⟨b, off, none⟩ : Addr).add i = ⟨b, off + i, none⟩ := fun i => by unfold Addr.add; split <;> simp_all
      refine ⟨b, off, rfl, hlt (.cell b off) (by simp only [List.mem_append]; exact .inl (MemPlace.mem_row.2 ⟨0, by omega, by simp⟩)), fun k x hk => ?_⟩
      have hkl : k < len := by have := (List.getElem?_eq_some_iff.1 hk).1; simpa using this
      have hx : x = q k := by simpa [hkl] using hk.symm
      subst hx
      obtain ⟨_, g0, g1, g2⟩ := hq k hkl
      simp only [hadd] at g0 g1 g2
      exact ⟨g0, g1, g2⟩
    · intro x hx
      obtain ⟨i, hi, rfl⟩ := List.mem_map.1 hx
      exact (hq i (by simpa using hi)).1
end Go.Proofs.Ytnapadpkfjpklaa
