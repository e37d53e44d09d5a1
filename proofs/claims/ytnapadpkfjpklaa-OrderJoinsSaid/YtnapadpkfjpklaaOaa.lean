/- Layer 1: append of whole tuples, and of whatever bytes. -/
import Derived.Test.YtnapadpkfjpklaaOz
import Derived.Test.YtnapadpkfjpklaaOo
import Derived.Test.YtnapadpkfjpklaaBreg
import Derived.Test.YtnapadpkfjpklaaBapp2
namespace Go.Proofs.Ytnapadpkfjpklaa
open Go.RowKit
set_option linter.unusedVariables false

theorem pcells_one (l : List PartD) : ∀ u ∈ pcells l, u.oneCell' = true := by
  intro u hu
  obtain ⟨p, _, h⟩ := List.mem_flatMap.1 hu
  exact one_cells p u h

theorem rd_cells {w : World} {b o : Nat} {l : List PartD} (h : ∀ (k : Nat) (p : PartD), l[k]? = some p → w.cell? ⟨b, o + k * 3, none⟩ = some (.bool p.isText) ∧ w.cell? ⟨b, o + k * 3 + 1, none⟩ = some (.int .i64 p.num) ∧ w.cell? ⟨b, o + k * 3 + 2, none⟩ = some (.string p.text)) :
    ∀ (j : Nat) (u : Value), (pcells l)[j]? = some u → w.cell? ⟨b, o + j, none⟩ = some u := by
  intro j u hu
  have hj : j < (pcells l).length := (List.getElem?_eq_some_iff.1 hu).1
  rw [pcells_length] at hj
  have hk : j / 3 < l.length := by omega
  obtain ⟨e0, e1, e2⟩ := pcells_at l (j / 3) l[j / 3] (List.getElem?_eq_getElem hk)
  obtain ⟨h0, h1, h2⟩ := h (j / 3) l[j / 3] (List.getElem?_eq_getElem hk)
  rcases (by omega : j = j / 3 * 3 ∨ j = j / 3 * 3 + 1 ∨ j = j / 3 * 3 + 2) with e | e | e
  · rw [e] at hu ⊢; rw [hu] at e0; injection e0 with e0; rw [e0]; simpa using h0
  · rw [e] at hu ⊢; rw [hu] at e1; injection e1 with e1; rw [e1, ← Nat.add_assoc]; simpa using h1
  · rw [e] at hu ⊢; rw [hu] at e2; injection e2 with e2; rw [e2, ← Nat.add_assoc]; simpa using h2

/-- append of a tuple to an owned one. -/
theorem wpl_app_parts {W : World} {ops : Array Oper} {rest : List Oper} {o : Oper} {a : Act} {Q : Exit → Act → World → Prop} (hgd : o.guard = none) (s x : Operand)
    (ho : o.op = .call { callee := .builtin .append, args := #[s, x], argTypes := #[22, 22] })
    (base B : Nat) (v u : Value) (l r : List PartD) (hs : a.eval s = v) (hx : a.eval x = u) (hown : OwnP W base v l) (hrd : RdParts W B u r) (hb : base ≤ W.heap.size) (hlen : l.length + r.length ≤ 1000000)
    (h : ∀ v' w', OwnP w' base v' (l ++ r) → Grew W w' v v' → W.heap.size ≤ w'.heap.size → wpList Try.prog ops Q rest (a.put o.dst v') w') :
    wpList Try.prog ops Q (o :: rest) a W := by
  obtain ⟨A, c, rfl, _, _, hc⟩ := hrd
  by_cases hr : 0 < r.length
  · obtain ⟨g, off, rfl, _, hc⟩ := hc hr
    refine wpl_appg_at hgd s x ho Try.underlying22 part_info rfl (by omega) v l.length (pcells l) g off r.length c (pcells r) hs hx (pcells_length r) (rd_cells hc) (pcells_one r) hown (by omega) (by omega) hb ?_
    intro v' w' h1 h2 h3
    exact h v' w' (by unfold OwnP; rw [pcells_append, List.length_append]; exact h1) h2 h3
  · have hr0 : r = [] := List.eq_nil_of_length_eq_zero (by omega)
    subst hr0
    refine wpl_appg_zero hgd s x ho Try.underlying22 part_info rfl (by omega) v l.length (pcells l) A c hs hx hown (by omega) (by omega) hb ?_
    intro v' w' h1 h2 h3
    exact h v' w' (by rw [List.append_nil]; exact h1) h2 h3

/-- append of whatever bytes to an owned row. -/
theorem wpl_app_bytes {W : World} {ops : Array Oper} {rest : List Oper} {o : Oper} {a : Act} {Q : Exit → Act → World → Prop} (hgd : o.guard = none) (s x : Operand)
    (ho : o.op = .call { callee := .builtin .append, args := #[s, x], argTypes := #[24, 24] })
    (base B : Nat) (v u : Value) (l r : List UInt8) (hs : a.eval s = v) (hx : a.eval x = u) (hown : OwnB W base v l) (hrd : RdB W B u r) (hb : base ≤ W.heap.size) (hlen : l.length + r.length ≤ 1099511627776)
    (h : ∀ v' w', OwnB w' base v' (l ++ r) → Grew W w' v v' → W.heap.size ≤ w'.heap.size → wpList Try.prog ops Q rest (a.put o.dst v') w') :
    wpList Try.prog ops Q (o :: rest) a W := by
  by_cases hr : 0 < r.length
  · exact wpl_app_rd hgd s x ho base B v u l r hs hx hown hrd hr hb hlen h
  · have hr0 : r = [] := List.eq_nil_of_length_eq_zero (by omega)
    subst hr0
    obtain ⟨A, c, rfl, _, _, _⟩ := hrd
    refine wpl_appg_zero hgd s x ho Try.underlying24 u8_info rfl (by omega) v l.length (bv l) A c hs hx hown (by omega) (by omega) hb ?_
    intro v' w' h1 h2 h3
    exact h v' w' (by rw [List.append_nil]; exact h1) h2 h3
end Go.Proofs.Ytnapadpkfjpklaa
