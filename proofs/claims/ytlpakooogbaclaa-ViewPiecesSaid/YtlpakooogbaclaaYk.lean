/- Layer 14: the project's view answers as the laws ask. -/
import Derived.Test.YtlpakooogbaclaaYd
import Derived.Test.YtlpakooogbaclaaYe
namespace Go.Proofs.Ytlpakooogbaclaa
open Go.RowKit
theorem vi_k : ViF where
  order w va vp l p ha hp ok := p_order w va vp l p ha hp ok.l20 (Nat.le_trans ok.p5 (by decide))
  last w va vp l p ha hp ok := p_last w va vp l p ha hp ok.l20 (Nat.le_trans ok.p5 (by decide))
  get w va vp l p t ha hp ok _ := p_get w va vp l p t ha hp ok.l20 (Nat.le_trans ok.p5 (by decide))
  state w va vp l p ha hp ok := p_state w va vp l p ha hp ok.l20 (Nat.le_trans ok.p5 (by decide))
end Go.Proofs.Ytlpakooogbaclaa
