/- Layer 6: all versions of bytes, by the document. -/
import Derived.Test.YtecomnklofceaaaRk
namespace Go.Proofs.Ytecomnklofceaaa
open Go.RowKit
set_option linter.unusedVariables false

/-- The document's reader, just made. -/
theorem RdQ.made (w : World) (A : Option Addr) (c : Nat) (l : List UInt8) (h : RdB w w.heap.size (.slice A l.length c) l) :
    RdQ (w.alloc (.cells #[.slice A l.length c, .int .i64 0, .int .i64 0] 63)) w.heap.size (.pointer (some ⟨w.heap.size, 0, none⟩)) l 0 0 := by
  have hn := heap_alloc_new w (.cells #[.slice A l.length c, .int .i64 0, .int .i64 0] 63)
  refine ⟨rfl, by simp, ?_, ?_, ?_, ?_, Nat.zero_le _, .slice A l.length c, ?_, h.below (alloc_below w _)⟩
  · rw [cell_of_row _ _ _ _ _ (0, 0) hn]; rfl
  · rw [cell_of_row _ _ _ _ _ (0, 0) hn]; rfl
  · simp
  · simp
  · rw [cell_of_row _ _ _ _ _ (0, 0) hn]; rfl

end Go.Proofs.Ytecomnklofceaaa
