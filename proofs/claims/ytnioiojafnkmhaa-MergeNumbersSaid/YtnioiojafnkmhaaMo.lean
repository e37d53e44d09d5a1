/- Layer 10: the laws' arguments opened: lists of lists of versions, of numbers, of texts. -/
import Derived.Test.YtnioiojafnkmhaaMk
namespace Go.Proofs.Ytnioiojafnkmhaa
open Go.RowKit Go.ChangeShapes Go.WideShapes Go.ChangeAt Go.Deep
set_option linter.unusedVariables false
theorem cells_vs : Try.prog.cellsOf 24 = 1 := by kernel_rfl
theorem cells_is : Try.prog.cellsOf 43 = 1 := by kernel_rfl
theorem cells_ss : Try.prog.cellsOf 45 = 1 := by kernel_rfl
section
variable {H : Type} {enc : TypeId × Value → H} {W : World} {v : Value} {d : DataW H} {p : List MemPlace} {r : Reach} {b0 : Nat}
set_option maxRecDepth 100000 in
theorem open_vvs (hval : Value.okWide Try.prog W r b0 22 v) (h : DataW.Trod enc Try.prog W 0 (fun _ => true) true 22 v d p) (hlt : ∀ x ∈ p, x.block < W.heap.size) :
    ∃ ls : List (List Ver), RdXX verL W W.heap.size v ls ∧ ∀ l ∈ ls, ∀ x ∈ l, OkVer x := by
  obtain ⟨a0, len, cap, rfl⟩ := okWide_slice Try.underlying22 hval
  obtain ⟨fuel, hf⟩ := h
  obtain ⟨a, l, m, e, ls, h1, h2⟩ := trod_rowXX (L := verL) (Ok := OkVer) Try.underlying22 Try.underlying24 cells_vs cells_ver (fun _ _ _ h => trod_ver h) hf hlt
  simp [Value.cells] at e
  obtain ⟨rfl, rfl, rfl⟩ := e
  exact ⟨ls, h1, h2⟩
set_option maxRecDepth 100000 in
theorem open_iis (hval : Value.okWide Try.prog W r b0 41 v) (h : DataW.Trod enc Try.prog W 0 (fun _ => true) true 41 v d p) (hlt : ∀ x ∈ p, x.block < W.heap.size) :
    ∃ ls : List (List Int), RdXX intL W W.heap.size v ls ∧ ∀ l ∈ ls, ∀ x ∈ l, True := by
  obtain ⟨a0, len, cap, rfl⟩ := okWide_slice Try.underlying41 hval
  obtain ⟨fuel, hf⟩ := h
  obtain ⟨a, l, m, e, ls, h1, h2⟩ := trod_rowXX (L := intL) (Ok := fun _ => True) Try.underlying41 Try.underlying43 cells_is cells_iR (fun _ _ _ h => by
    obtain ⟨a, e, -, -⟩ := DataW.trod_int Try.underlying3 h
    exact ⟨a, e, trivial⟩) hf hlt
  simp [Value.cells] at e
  obtain ⟨rfl, rfl, rfl⟩ := e
  exact ⟨ls, h1, h2⟩
set_option maxRecDepth 100000 in
theorem open_sss (hval : Value.okWide Try.prog W r b0 42 v) (h : DataW.Trod enc Try.prog W 0 (fun _ => true) true 42 v d p) (hlt : ∀ x ∈ p, x.block < W.heap.size) :
    ∃ ls : List (List ByteArray), RdXX strL W W.heap.size v ls ∧ ∀ l ∈ ls, ∀ x ∈ l, True := by
  obtain ⟨a0, len, cap, rfl⟩ := okWide_slice Try.underlying42 hval
  obtain ⟨fuel, hf⟩ := h
  obtain ⟨a, l, m, e, ls, h1, h2⟩ := trod_rowXX (L := strL) (Ok := fun _ => True) Try.underlying42 Try.underlying45 cells_ss cells_sR (fun _ _ _ h => by
    obtain ⟨a, e, -, -⟩ := DataW.trod_string Try.underlying9 h
    exact ⟨a, e, trivial⟩) hf hlt
  simp [Value.cells] at e
  obtain ⟨rfl, rfl, rfl⟩ := e
  exact ⟨ls, h1, h2⟩
end
end Go.Proofs.Ytnioiojafnkmhaa
