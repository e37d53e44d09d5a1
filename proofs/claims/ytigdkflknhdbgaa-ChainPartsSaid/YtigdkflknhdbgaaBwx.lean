/- Program-free: append in a round of a range over a function; what a row that grows, and a loop's own block that is turned, leave alone. -/
import Derived.Test.YtigdkflknhdbgaaBA
import Derived.Test.YtigdkflknhdbgaaBtell
import Derived.OwnWalkIn
import Derived.Shelf.RegionOpen
namespace Go.Proofs.Ytigdkflknhdbgaa
open Go.RowKit Go.Shelf
set_option linter.unusedVariables false
attribute [local go_sem] Oper.semAt_some

section
variable {α : Type} {L : Lay α} {e : TypeId} {P : Program} {F : Fence} {n : Nat}
/-- append of elements that stand in a literal, within a fence. -/
theorem wpiX_app {w : World} {ops : Array Oper} {rest : List Oper} {o : Oper} {a : Act} {Q : Exit → Act → World → Prop} {t : TypeId} {z : Value} {bytes : Nat} (hgd : o.guard = none) (s x : Operand)
    (ho : o.op = .call { callee := .builtin .append, args := #[s, x], argTypes := #[t, t] })
    (ht : P.underlying t = some (.slice e)) (hinfo : (P.info? e).map (fun i => (i.zero, i.size, i.bytes)) = some (some z, L.sz, bytes)) (hzs : z.cells.size = L.sz)
    (base : Nat) (v : Value) (l r : List α) (cs : Array Value) (m c : Nat) (hcs : cs = (L.all r).toArray) (hs : a.eval s = v) (hx : a.eval x = .slice (some ⟨w.heap.size, 0, none⟩) m c) (hm : m = r.length)
    (hown : OwnX L e w base v l) (hb : base ≤ w.heap.size) (hlen : l.length + r.length ≤ 1000000000) (hbytes : bytes ≤ 1000)
    (h : ∀ v' w', OwnX L e w' base v' (l ++ r) → Grew (w.alloc (.cells cs e)) w' v v' → wpListIn F n P ops Q rest (a.put o.dst v') w') :
    wpListIn F n P ops Q (o :: rest) a (w.alloc (.cells cs e)) := by
  subst hcs hm
  obtain ⟨v', w', hrun, h2, h3, h4⟩ := appX_run (P := P) (L := L) (e := e) (W := w.alloc (.cells (L.all r).toArray e)) (ty := o.type) (g := w.heap.size) (c := c) ht hinfo hzs (hown.on (alloc_below w _)) (heap_alloc_new w _) rfl (by simp; omega) hlen hbytes
  refine wpListIn_plain hgd fun K hK' => ?_
  unfold Oper.wpIn
  refine ⟨by simp [Oper.about, ho, resolve, Target.leads, Sem.run_pure], ?_⟩
  rw [Oper.semAt_plain F _ _ (by rw [ho]; intro c hc'; cases hc')]
  simp [execOp, ho, resolve, invoke, builtin, hs, hx, hrun, Result.andThen]
  exact hK' _ _ (h v' w' h2 h3)
end

theorem kq_row {α : Type} {L : Lay α} {e : TypeId} {T : TypeId → Bool} {n₀ B : Nat} {X Y : World} {base : Nat} {v : Value} {l : List α} (h : OwnX L e X base v l) (ht : T e = true) (hn : n₀ ≤ base) (hX : n₀ ≤ X.heap.size) (hg : X.grownBy Y v.ownBlock) : Kq T n₀ B X Y := by
  refine Kq.of_grown hg hX fun j hj => ⟨Nat.le_trans hn (h.base j hj), fun o ho => ?_⟩
  rcases h.2 with ⟨rfl, _⟩ | ⟨g, cap, cur, rfl, _, hgb, _⟩
  · cases hj
  · simp only [Value.ownBlock, Option.some.injEq] at hj
    subst hj
    rw [hgb] at ho
    cases ho
    exact ⟨_, _, _, rfl, ht⟩
theorem ownX_put {α : Type} {L : Lay α} {e : TypeId} {X : World} {base : Nat} {v : Value} {l : List α} (h : OwnX L e X base v l) {D : Nat} {d : Option (List Deferred)} (hK : X.heap[D]? = some (.deferred d)) (o : Obj) : OwnX L e (X.putObj D o) base v l := by
  refine OwnX.keep h (grownBy_putObj' X D o) ?_
  rcases h.2 with ⟨rfl, _⟩ | ⟨g, cap, cur, rfl, _, hgb, _⟩
  · exact .inl rfl
  · refine .inr fun e' => ?_
    simp only [Value.ownBlock, Option.some.injEq] at e'
    rw [e', hK] at hgb
    cases hgb

end Go.Proofs.Ytigdkflknhdbgaa
