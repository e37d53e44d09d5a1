/- Layer 8: versions of which some are taken, in order: the document's Good and Sorted, as far as the laws ask. -/
import Derived.Test.YtefjdmlmmoeoaaaGreatTa
import Derived.Test.YtefjdmlmmoeoaaaGreatRR
namespace Go.Proofs.YtefjdmlmmoeoaaaGreat
open Go.RowKit
set_option linter.unusedVariables false

/-- The cells of the k-th version, by their names. -/
theorem RdVr.cells1 {w : World} {B b o n c : Nat} {l : List Ver} (h : RdVr w B (.slice (some ⟨b, o, none⟩) n c) l) (k : Nat) (hk : k < l.length) {kk uu : ByteArray} {bb ee ss xx yy : Int} {gg : Bool} (e : l[k] = ⟨kk, bb, ee, ss, (xx, yy), uu, gg⟩) : b < B ∧
    w.cell? ⟨b, o + k * 8, none⟩ = some (.string kk) ∧ w.cell? ⟨b, o + k * 8 + 1, none⟩ = some (.int .i64 bb) ∧ w.cell? ⟨b, o + k * 8 + 2, none⟩ = some (.int .i64 ee) ∧ w.cell? ⟨b, o + k * 8 + 3, none⟩ = some (.int .i64 ss) ∧
    w.cell? ⟨b, o + k * 8 + 4, none⟩ = some (.int .i64 xx) ∧ w.cell? ⟨b, o + k * 8 + 5, none⟩ = some (.int .i64 yy) ∧ w.cell? ⟨b, o + k * 8 + 6, none⟩ = some (.string uu) ∧ w.cell? ⟨b, o + k * 8 + 7, none⟩ = some (.bool gg) := by
  obtain ⟨b', o', e2, hb, c0, c1, c2, c3, c4, c5, c6, c7⟩ := h.here k hk
  injection e2 with e2
  injection e2 with e3 e4
  subst e3 e4
  rw [e] at c0 c1 c2 c3 c4 c5 c6 c7
  exact ⟨hb, c0, c1, c2, c3, c4, c5, c6, c7⟩

end Go.Proofs.YtefjdmlmmoeoaaaGreat
