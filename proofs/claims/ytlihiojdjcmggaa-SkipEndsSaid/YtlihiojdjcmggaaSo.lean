/- Layer 12: the laws' arguments opened: deeds. -/
import Derived.Test.YtlihiojdjcmggaaSk
import Derived.Deep.Slices
import Derived.Deep.Fields
import Derived.Deep.Strs
import Derived.ChangeSame
import Derived.Lib.SmallJoins
import Derived.ChangeMaps5
namespace Go.Proofs.Ytlihiojdjcmggaa
open Go.RowKit Go.ChangeShapes Go.WideShapes Go.ChangeAt Go.Deep
set_option linter.unusedVariables false
theorem cells_dk : Try.prog.cellsOf 30 = 4 := by kernel_rfl
theorem cells_i1 : Try.prog.cellsOf 3 = 1 := by kernel_rfl
theorem cells_s1 : Try.prog.cellsOf 9 = 1 := by kernel_rfl
section
variable {H : Type} {enc : TypeId × Value → H} {w : World} {base : Nat} {spare : Nat → Bool} {held : Bool}
set_option maxRecDepth 100000 in
theorem trod_dk {fuel : Nat} {cs : List Value} {x : DataW H × List MemPlace} (h : DataW.trod enc Try.prog w base spare held fuel 30 cs = some x) : ∃ b : DeedK, cs = deedKL.enc b ∧ OkDeedK b := by
  obtain ⟨y0, y1, y2, y3, n, -, hl, h0, h1, h2, h3⟩ := Joins.trod_struct4 Try.underlying30 h
  rw [cells_dk] at hl
  match cs, hl with
  | [c0, c1, c2, c3], _ =>
    simp only [cells_i1, cells_s1, List.drop_zero, List.take_succ_cons, List.take_zero, List.drop_succ_cons] at h0 h1 h2 h3
    obtain ⟨a, e0, -, w0⟩ := DataW.trod_int Try.underlying3 h0
    obtain ⟨b, e1, -, w1⟩ := DataW.trod_int Try.underlying3 h1
    obtain ⟨c, e2, -, w2⟩ := DataW.trod_int Try.underlying3 h2
    obtain ⟨d, e3, -, w3⟩ := DataW.trod_string Try.underlying9 h3
    simp only [maxLen] at w3
    cases e0
    cases e1
    cases e2
    cases e3
    exact ⟨⟨a, b, c, d⟩, rfl, ⟨wf_int w0, wf_int w1, wf_int w2, by simpa using w3⟩⟩
end
section
variable {H : Type} {enc : TypeId × Value → H} {W : World} {v : Value} {d : DataW H} {p : List MemPlace} {r : Reach} {b0 : Nat}
set_option maxRecDepth 100000 in
theorem open_dks (hval : Value.okWide Try.prog W r b0 22 v) (h : DataW.Trod enc Try.prog W 0 (fun _ => true) true 22 v d p) (hlt : ∀ x ∈ p, x.block < W.heap.size) :
    ∃ l : List DeedK, RdX deedKL W W.heap.size v l ∧ ∀ x ∈ l, OkDeedK x := by
  obtain ⟨a0, len, cap, rfl⟩ := okWide_slice Try.underlying22 hval
  obtain ⟨fuel, hf⟩ := h
  obtain ⟨a, l, m, e, ys, h1, h2⟩ := trod_rowX (L := deedKL) (Ok := OkDeedK) Try.underlying22 cells_dk (fun _ _ _ h => trod_dk h) hf hlt
  simp [Value.cells] at e
  obtain ⟨rfl, rfl, rfl⟩ := e
  exact ⟨ys, h1, h2⟩
end
end Go.Proofs.Ytlihiojdjcmggaa
