/- Bytes: append of a text to a row that the call owns; slices of numbers, of texts, of whatever takes one cell, that read as a list. Program-bound by its types' names alone. -/
import Derived.Test.YtefjdmlmmoeoaaaBbyt
import Derived.Lib.AppendStr
namespace Go.Proofs.Ytefjdmlmmoeoaaa
open Go.RowKit Go.ChangeShapes Go.WideShapes Go.ChangeAt Go.Deep
set_option linter.unusedVariables false

/-- append of a text to an owned row. -/
theorem wpl_app_str {w : World} {ops : Array Oper} {rest : List Oper} {o : Oper} {a : Act} {Q : Exit → Act → World → Prop} (hgd : o.guard = none) (s x : Operand)
    (ho : o.op = .call { callee := .builtin .append, args := #[s, x], argTypes := #[24, 9] })
    (base : Nat) (v : Value) (l : List UInt8) (r : ByteArray) (hs : a.eval s = v) (hx : a.eval x = .string r)
    (hown : OwnB w base v l) (hb : base ≤ w.heap.size) (hlen : l.length + r.size ≤ 1099511627776)
    (h : ∀ v' w', OwnB w' base v' (l ++ r.data.toList) → Below base w w' → wpList Try.prog ops Q rest (a.put o.dst v') w') :
    wpList Try.prog ops Q (o :: rest) a w := by
  obtain ⟨i, hi, hz, hsz, hby⟩ := info_parts u8_info
  refine Lib.wpList_append_own_string w hgd s x 24 9 ho base 5 i Try.underlying24 Try.underlying9 hi hz hsz hby v l.length (bv l) hs hown r hx (by simp only [maxLen]; omega) (by omega) hb ?_
  intro v' w' h1 h2 _
  refine h v' w' ?_ ((Below.refl base w).grown h2 hb (OwnB.base hown))
  have hl : r.data.toList.length = r.size := by simp
  unfold OwnB
  rw [bv_append, List.length_append, hl]
  exact h1

theorem wpl_app_bytes_b {W : World} {ops : Array Oper} {rest : List Oper} {o : Oper} {a : Act} {Q : Exit → Act → World → Prop} (hgd : o.guard = none) (s x : Operand)
    (ho : o.op = .call { callee := .builtin .append, args := #[s, x], argTypes := #[24, 24] })
    (base B : Nat) (v u : Value) (l r : List UInt8) (hs : a.eval s = v) (hx : a.eval x = u) (hown : OwnB W base v l) (hrd : RdB W B u r) (hb : base ≤ W.heap.size) (hlen : l.length + r.length ≤ 1099511627776)
    (h : ∀ v' w', OwnB w' base v' (l ++ r) → Below base W w' → wpList Try.prog ops Q rest (a.put o.dst v') w') :
    wpList Try.prog ops Q (o :: rest) a W :=
  wpl_app_bytes hgd s x ho base B v u l r hs hx hown hrd hb hlen fun v' w' h1 h2 _ => h v' w' h1 (h2.below hb (OwnB.base hown))

theorem OwnB.on {w w' : World} {base : Nat} {v : Value} {l : List UInt8} (h : OwnB w base v l) (hb : Below w.heap.size w w') : OwnB w' base v l := by
  refine ⟨h.1, ?_⟩
  rcases h.2 with h2 | ⟨g, cap, cur, e, hg, hc, h3⟩
  · exact .inl h2
  · refine .inr ⟨g, cap, cur, e, hg, ?_, h3⟩
    rw [hb.block g (Array.getElem?_eq_some_iff.1 hc).1]; exact hc
theorem OwnB.keep {w w' : World} {base : Nat} {v : Value} {l : List UInt8} {row : Option Nat} (h : OwnB w base v l) (hg : w.grownBy w' row) (hne : v.ownBlock = none ∨ v.ownBlock ≠ row) : OwnB w' base v l := World.ownsRow.kept h hg hne
/-- The cells of an owned row, and a store into one. -/
theorem OwnB.cellAt {w : World} {base g n c : Nat} {l : List UInt8} (h : OwnB w base (.slice (some ⟨g, 0, none⟩) n c) l) (j : Nat) (hj : j < l.length) : w.cell? ⟨g, j, none⟩ = some (.int .u8 (l[j].toNat : Int)) := by
  have hn : n = l.length := by
    rcases h.2 with ⟨e, _⟩ | ⟨_, _, _, e, _⟩ <;> cases e <;> rfl
  subst hn
  have := World.ownsRow.cellAt h j (by omega)
  rw [this]; simp [bv, hj]
theorem OwnB.frozenAt {w : World} {base g n c : Nat} {l : List UInt8} (h : OwnB w base (.slice (some ⟨g, 0, none⟩) n c) l) (j : Nat) : w.frozen? ⟨g, j, none⟩ = false := by
  have hn : n = l.length := by
    rcases h.2 with ⟨e, _⟩ | ⟨_, _, _, e, _⟩ <;> cases e <;> rfl
  subst hn
  exact World.ownsRow.frozenAt h j
theorem OwnB.stored {w : World} {base g n c : Nat} {l : List UInt8} (h : OwnB w base (.slice (some ⟨g, 0, none⟩) n c) l) (j : Nat) (u : UInt8) (z : Int) (hz : z = (u.toNat : Int)) :
    OwnB (w.setCell ⟨g, j, none⟩ (.int .u8 z)) base (.slice (some ⟨g, 0, none⟩) n c) (l.set j u) ∧ w.grownBy (w.setCell ⟨g, j, none⟩ (.int .u8 z)) (some g) := by
  have hn : n = l.length := by
    rcases h.2 with ⟨e, _⟩ | ⟨_, _, _, e, _⟩ <;> cases e <;> rfl
  subst hn hz
  have := World.ownsRow.stored h j (.int .u8 (u.toNat : Int))
  unfold OwnB
  rw [List.length_set]
  have e : bv (l.set j u) = (bv l).set j (.int .u8 (u.toNat : Int)) := by simp [bv, List.map_set]
  rw [e]
  exact this

/-- The value v is a slice, of elements of one cell each, that reads as l, in a block below B. -/
def RdV {α : Type} (f : α → Value) (w : World) (B : Nat) (v : Value) (l : List α) : Prop :=
  ∃ A c, v = .slice A l.length c ∧ l.length ≤ c ∧ c ≤ 9223372036854775807 ∧ (0 < l.length → ∃ b o, A = some ⟨b, o, none⟩ ∧ b < B ∧
    ∀ (k : Nat) (u : α), l[k]? = some u → w.cell? ⟨b, o + k, none⟩ = some (f u))

section
variable {α : Type} {f : α → Value}
theorem RdV.below {w w' : World} {B : Nat} {v : Value} {l : List α} (h : RdV f w B v l) (hb : Below B w w') : RdV f w' B v l := by
  obtain ⟨A, c, rfl, h1, h2, h3⟩ := h
  refine ⟨A, c, rfl, h1, h2, fun hp => ?_⟩
  obtain ⟨b, o, rfl, hB, hc⟩ := h3 hp
  exact ⟨b, o, rfl, hB, fun k p hk => (hb.cell (p := ⟨b, _, none⟩) hB).trans (hc k p hk)⟩
theorem RdV.more {w : World} {B B' : Nat} {v : Value} {l : List α} (h : RdV f w B v l) (hB : B ≤ B') : RdV f w B' v l := by
  obtain ⟨A, c, rfl, h1, h2, h3⟩ := h
  refine ⟨A, c, rfl, h1, h2, fun hp => ?_⟩
  obtain ⟨b, o, rfl, hb, hc⟩ := h3 hp
  exact ⟨b, o, rfl, by omega, hc⟩
theorem RdV.on {w w' : World} {v : Value} {l : List α} (h : RdV f w w.heap.size v l) (hb : Below w.heap.size w w') : RdV f w' w'.heap.size v l := (h.below hb).more hb.size
theorem RdV.nil (w : World) (B : Nat) : RdV f w B (.slice none 0 0) [] := ⟨none, 0, rfl, by simp, by omega, fun h => absurd h (by simp)⟩
theorem RdV.drew {w : World} {B : Nat} {v : Value} {l : List α} (h : RdV f w B v l) : RdV f w.drew B v l := h
/-- A literal. -/
theorem RdV.lit (w : World) (cs : Array Value) (t : TypeId) (l : List α) (n B : Nat) (h : cs = (l.map f).toArray) (hn : n = l.length) (hB : w.heap.size < B) (hl : l.length ≤ 1099511627776) :
    RdV f (w.alloc (.cells cs t)) B (.slice (some ⟨w.heap.size, 0, none⟩) n n) l := by
  subst h hn
  refine ⟨_, l.length, rfl, Nat.le_refl _, by omega, fun _ => ⟨_, _, rfl, hB, fun k u hk => ?_⟩⟩
  rw [cell_of_row _ _ _ _ _ (0, 0) (heap_alloc_new w _)]
  simp [hk]
end

/-- A slice of numbers; of texts. -/
def RdI : World → Nat → Value → List Int → Prop := RdV (fun n => .int .i64 n)
def RdS : World → Nat → Value → List ByteArray → Prop := RdV (fun s => .string s)

end Go.Proofs.Ytefjdmlmmoeoaaa
