/- Layer 2: the document's examples. -/
import Derived.Test.YtmchiebpijnpiaaVd
namespace Go.Proofs.Ytmchiebpijnpiaa
open Go.RowKit
set_option linter.unusedVariables false

/-- Numbers that stand in a literal, put behind bytes. -/
theorem put_lit (v : Value) (l : List UInt8) (ns : List Int) (cs : Array Value) (k : Nat) (w : World) (hcs : cs = (ns.map fun n => Value.int .i64 n).toArray) (hk : k = ns.length) (h : RdB w w.heap.size v l) (hl : l.length ≤ 137438953472)
    (hn : ∀ n ∈ ns, n ≤ 9223372036854775807) (hc : ns.length ≤ 1000000) :
    Calls Try.prog 26 #[v, .slice (some ⟨w.heap.size, 0, none⟩) k k] (w.alloc (.cells cs 3)) fun e w' => ∃ v', e = .returned v' ∧ OwnB w' w.heap.size v' (l ++ encNs ns) ∧ Below w.heap.size w w' := by
  refine (vary_put v _ l ns _ (h.on (alloc_below w _)) (RdV.lit w cs _ ns k _ hcs hk (by simp) (by omega)) hl hn hc).mono ?_
  rintro e w' ⟨v', rfl, ho, hb⟩
  exact ⟨v', rfl, ⟨ho.1, ho.2.imp id fun ⟨g, cap, cur, e, hg, h3⟩ => ⟨g, cap, cur, e, by simp at hg; omega, h3⟩⟩, (alloc_below w _).trans (hb.mono (by simp))⟩

end Go.Proofs.Ytmchiebpijnpiaa
