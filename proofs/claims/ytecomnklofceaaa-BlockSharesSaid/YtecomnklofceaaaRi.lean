/- Layer 6: a version read, by the project. -/
import Derived.Test.YtecomnklofceaaaRg
import Derived.Test.YtecomnklofceaaaRk
namespace Go.Proofs.Ytecomnklofceaaa
open Go.RowKit
set_option linter.unusedVariables false

theorem RdR.below {w w' : World} {base g B : Nat} {p : Value} {l : List UInt8} {e : Int} (h : RdR w base g p l e) (hb : Below B w w') (hB : g < B) : RdR w' base g p l e := by
  obtain ⟨h1, h2, h3, h4, h5, h6, sl, h7, h8, h9⟩ := h
  exact ⟨h1, Nat.lt_of_lt_of_le h2 hb.size, h3, (hb.cell (p := ⟨g, 1, none⟩) hB).trans h4, (hb.frozen (p := ⟨g, 0, none⟩) hB).trans h5, (hb.frozen (p := ⟨g, 1, none⟩) hB).trans h6, sl, (hb.cell (p := ⟨g, 0, none⟩) hB).trans h7, h8.below (hb.mono (Nat.le_of_lt hB)), h9⟩

end Go.Proofs.Ytecomnklofceaaa
