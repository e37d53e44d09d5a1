/- Layer 7: what the laws' loops stand on. -/
import Derived.Test.YtbdaflhmloodfaaIc
import Derived.Test.YtbdaflhmloodfaaId
namespace Go.Proofs.Ytbdaflhmloodfaa
open Go.RowKit
set_option linter.unusedVariables false

theorem RdD.down {w : World} {B B' g : Nat} {p : Value} {d : Dk} (h : RdD w B g p d) (hB : B' ≤ B) : RdD w B' g p d := by
  obtain ⟨h1, h2, fv, h3, h4⟩ := h
  exact ⟨h1, by omega, fv, h3, Go.Proofs.ownsRow_base_a h4 hB⟩
theorem OkDeed.on {w w' : World} {B : Nat} {x : Deed} (h : OkDeed w B x) (hb : Below B w w') : OkDeed w' B x := by
  obtain ⟨h1, h2, h3, h4, h5, h6, h7⟩ := h
  exact ⟨h1, h2, h3, h4, h5, h6.below hb, h7⟩
/-- The cells of the k-th deed. -/
theorem deed_cells {w : World} {B : Nat} {v : Value} {l : List Deed} (h : RdX deedL w B v l) (k : Nat) (hk : k < l.length) : ∃ b o c, v = .slice (some ⟨b, o, none⟩) l.length c ∧
    w.cell? ⟨b, o + k * 6, none⟩ = some (.int .i64 l[k].kind) ∧ w.cell? ⟨b, o + k * 6 + 1, none⟩ = some (.int .i64 l[k].n) ∧ w.cell? ⟨b, o + k * 6 + 2, none⟩ = some (.int .i64 l[k].m) ∧
    w.cell? ⟨b, o + k * 6 + 3, none⟩ = some (.string l[k].a) ∧ w.cell? ⟨b, o + k * 6 + 4, none⟩ = some (.string l[k].b) ∧ w.cell? ⟨b, o + k * 6 + 5, none⟩ = some (.slice l[k].ka l[k].keep.length l[k].kc) := by
  obtain ⟨A, c, rfl, h1, h2, h3⟩ := h
  obtain ⟨b, o, rfl, hb, hc⟩ := h3 (by omega)
  have := hc k l[k] (List.getElem?_eq_getElem hk)
  exact ⟨b, o, c, rfl, this 0 _ rfl, this 1 _ rfl, this 2 _ rfl, this 3 _ rfl, this 4 _ rfl, this 5 _ rfl⟩
/-- Both disks, new. -/
theorem both_new {w w1 w2 : World} {S : Nat → Prop} {g : Nat} {p' : Value} {q : Int} (hq : 0 ≤ q ∧ q ≤ 16777216) (hm : RdM w1 S g (.pointer (some ⟨g, 0, none⟩)) ⟨[], q, -1, false⟩) (hb1 : Below w.heap.size w w1) (hd : RdD w2 w1.heap.size w1.heap.size p' ⟨[], q, -1, false⟩) (hb2 : Below w1.heap.size w1 w2) :
    Both w2 w.heap.size S g w1.heap.size (.pointer (some ⟨g, 0, none⟩)) p' ⟨[], q, -1, false⟩ := ⟨hm.on hb2, hd.down hb1.size, ok_new hq⟩
theorem names_new (q : Int) : NamesOk ⟨[], q, -1, false⟩ := fun f hf => by cases hf
end Go.Proofs.Ytbdaflhmloodfaa
