/- Program-free laws: append of nothing to a row that the call owns. -/
import Derived.Test.YtbdaflhmloodfaaBapp
namespace Go.Proofs.Ytbdaflhmloodfaa
open Go.RowKit
set_option linter.unusedVariables false

section
variable {P : Program} {W : World} {base : Nat} {t ty e : TypeId} {z : Value} {size bytes : Nat}
variable {ops : Array Oper} {rest : List Oper} {o : Oper} {a : Act} {Q : Exit → Act → World → Prop} {K : Act → World → Prop} {E : Prop}

theorem app_run_zero (ht : P.underlying t = some (.slice e)) (hinfo : (P.info? e).map (fun i => (i.zero, i.size, i.bytes)) = some (some z, size, bytes)) (hzs : z.cells.size = size) (hsz : 0 < size)
    (v : Value) (n : Nat) (xs : List Value) (hown : W.ownsRow base e size v n xs) (A : Option Addr) (c : Nat) (h63 : n ≤ 9223372036854775807) (hby : n * bytes ≤ 140737488355328) (hb : base ≤ W.heap.size) :
    ∃ v' w', (Builtin.append_ #[t, t] ty #[v, .slice A 0 c]).run P W = .ok v' w' ∧ w'.ownsRow base e size v' n xs ∧ Grew W w' v v' ∧ W.heap.size ≤ w'.heap.size := by
  obtain ⟨i, hi, hz, hs, hbs⟩ := info_parts hinfo
  cases A with
  | none =>
    refine ⟨v, W, ?_, hown, Grew.refl _ _, Nat.le_refl _⟩
    rcases hown.2 with ⟨rfl, rfl⟩ | ⟨g, cap, cur, rfl, _, _, hnc, _⟩
    · simp [Builtin.append_, run_underlying ht, sizeOf, typeInfo, hi, Builtin.lenOf, Builtin.firstCells]
    · simp [Builtin.append_, run_underlying ht, sizeOf, typeInfo, hi, Builtin.lenOf, Builtin.firstCells, hnc, storeCells]
  | some ad =>
    obtain ⟨v', w', hrun, h2, h3, -, h4⟩ := run_append_own_at (P := P) W base t ty e i z size bytes ht hi hz hs hbs hzs hsz v n xs hown ad 0 c [] (by simp) (by simp) (by simp) (by simp only [maxLen]; omega) (by simpa using hby) hb
    exact ⟨v', w', hrun, by simpa using h2, ⟨h3, h4.imp id fun e => ⟨_, e, Nat.le_refl _⟩⟩, h3.size⟩

theorem wpl_appg_zero (hgd : o.guard = none) (s x : Operand) (ho : o.op = .call { callee := .builtin .append, args := #[s, x], argTypes := #[t, t] })
    (ht : P.underlying t = some (.slice e)) (hinfo : (P.info? e).map (fun i => (i.zero, i.size, i.bytes)) = some (some z, size, bytes)) (hzs : z.cells.size = size) (hsz : 0 < size)
    (v : Value) (n : Nat) (xs : List Value) (A : Option Addr) (c : Nat) (hs : a.eval s = v) (hx : a.eval x = .slice A 0 c) (hown : W.ownsRow base e size v n xs) (h63 : n ≤ 9223372036854775807) (hby : n * bytes ≤ 140737488355328) (hb : base ≤ W.heap.size)
    (h : ∀ v' w', w'.ownsRow base e size v' n xs → Grew W w' v v' → W.heap.size ≤ w'.heap.size → wpList P ops Q rest (a.put o.dst v') w') : wpList P ops Q (o :: rest) a W := by
  obtain ⟨v', w', hrun, h2, h3, h4⟩ := app_run_zero (ty := o.type) ht hinfo hzs hsz v n xs hown A c h63 hby hb
  refine wpList_plain hgd fun K hK => ?_
  unfold Oper.wp execOp
  simp only [ho, resolve, invoke, builtin, Sem.run_bind, Sem.run_pure, Result.andThen_ok, List.map_toArray, List.map_cons, List.map_nil, hs, hx, hrun]
  exact hK _ _ (h v' w' h2 h3 h4)
end
end Go.Proofs.Ytbdaflhmloodfaa
