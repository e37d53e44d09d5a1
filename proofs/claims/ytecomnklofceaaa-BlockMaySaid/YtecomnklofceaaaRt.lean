/- Layer 6: what the laws call: a version cut, two versions compared. -/
import Derived.Test.YtecomnklofceaaaRe
namespace Go.Proofs.Ytecomnklofceaaa
open Go.RowKit
set_option linter.unusedVariables false

theorem cut_key (v : Ver) : (cutV v).key.size ≤ 110 := by
  unfold cutV
  simp only
  split
  · rw [ByteArray.size_extract]; omega
  · omega
end Go.Proofs.Ytecomnklofceaaa
