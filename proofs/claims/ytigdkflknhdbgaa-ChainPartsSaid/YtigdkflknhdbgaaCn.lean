/- Layer 13: what the list tells of an index, as versions. -/
import Derived.Test.YtigdkflknhdbgaaCk
namespace Go.Proofs.Ytigdkflknhdbgaa
open Go.RowKit
set_option linter.unusedVariables false
section
variable {w w' : World} {l : List Skp.It} {Ls : List (List Ver)}
/-- What Get tells is the key's versions. -/
theorem ThV.get (h : ThV w l Ls) (g : GrpV l Ls) (key : ByteArray) : RdVr w w.heap.size (slV (Skp.getI l key)) (Ls.flatten.filter fun v => decide (v.key = key)) := by
  cases hh : Skp.hereI l key
  · rw [g.of_none hh]
    unfold Skp.getI
    rw [hh]
    exact RdX.nil _ _
  · obtain ⟨hi, e⟩ := g.of_here hh
    obtain ⟨hl, -⟩ := Skp.here_lt hh
    rw [e]
    unfold Skp.getI
    rw [if_pos hh, List.getElem?_eq_getElem hl]
    exact (h.own _ _ _ (List.getElem?_eq_getElem hl) (List.getElem?_eq_getElem hi)).rd
/-- A thing that stands in the list, as its key's versions. -/
theorem ThV.at' (h : ThV w l Ls) {i : Nat} (hl : i < l.length) (hi : i < Ls.length) : OwnVr w 0 (slV l[i].v) Ls[i] := h.own i _ _ (List.getElem?_eq_getElem hl) (List.getElem?_eq_getElem hi)
/-- The lowest row has all keys. -/
theorem row_all (h : ∀ x ∈ l, 1 ≤ x.level) : Skp.rowI l 1 = l.map (·.key) := by
  unfold Skp.rowI
  rw [List.filter_eq_self.2 fun x hx => ?_]
  have := h x hx
  simp only [Skp.rowB]
  simp
  omega
/-- The keys and the things, from a key on: the i-th one's. -/
theorem from_at (l : List Skp.It) (key : ByteArray) (i : Nat) : (Skp.kvI (Skp.fromI l key))[i]? = (l[Skp.atI key l + i]?).map fun x => (x.key, x.v) := by
  unfold Skp.kvI Skp.fromI
  rw [List.getElem?_map, List.getElem?_drop]
theorem at_empty (l : List Skp.It) : Skp.atI ⟨#[]⟩ l = 0 := by
  cases l with
  | nil => rfl
  | cons x r =>
    have e : (ByteArray.mk #[]).toList = [] := by rw [ByteArray.toList_eq]
    have : Op.bytesLess x.key.toList (ByteArray.mk #[]).toList = false := by
      rw [e]
      cases x.key.toList <;> rfl
    rw [Skp.atI, if_pos (by unfold Skp.geK; rw [this]; rfl)]
/-- All versions, so far. -/
theorem flat_step {j : Nat} (hj : j < Ls.length) : (Ls.take (j + 1)).flatten = (Ls.take j).flatten ++ Ls[j] := by
  rw [List.take_add_one, List.getElem?_eq_getElem hj, List.flatten_append]
  simp
theorem flat_step_from {a j : Nat} (hj : a + j < Ls.length) : ((Ls.take (a + (j + 1))).drop a).flatten = ((Ls.take (a + j)).drop a).flatten ++ Ls[a + j] := by
  rw [← Nat.add_assoc, List.take_add_one, List.getElem?_eq_getElem hj, List.drop_append_of_le_length (by rw [List.length_take]; omega), List.flatten_append]
  simp
end
end Go.Proofs.Ytigdkflknhdbgaa
