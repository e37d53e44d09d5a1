/- Bytes: append of a text to a row that the call owns; slices of numbers, of texts, of whatever takes one cell, that read as a list. Program-bound by its types' names alone. -/
import Derived.Test.YtlpakooogbaclaaBbyt
import Derived.Lib.AppendStr
namespace Go.Proofs.Ytlpakooogbaclaa
open Go.RowKit Go.ChangeShapes Go.WideShapes Go.ChangeAt Go.Deep
set_option linter.unusedVariables false

/-- append of a text to an owned row. -/
theorem wpl_app_str {w : World} {ops : Array Oper} {rest : List Oper} {o : Oper} {a : Act} {Q : Exit → Act → World → Prop} (hgd : o.guard = none) (s x : Operand)
    (ho : o.op = .call { callee := .builtin .append, args := #[s, x], argTypes := #[127, 9] })
    (base : Nat) (v : Value) (l : List UInt8) (r : ByteArray) (hs : a.eval s = v) (hx : a.eval x = .string r)
    (hown : OwnB w base v l) (hb : base ≤ w.heap.size) (hlen : l.length + r.size ≤ 1099511627776)
    (h : ∀ v' w', OwnB w' base v' (l ++ r.data.toList) → Below base w w' → wpList Try.prog ops Q rest (a.put o.dst v') w') :
    wpList Try.prog ops Q (o :: rest) a w := by
  obtain ⟨i, hi, hz, hsz, hby⟩ := info_parts u8_info
  refine Lib.wpList_append_own_string w hgd s x 127 9 ho base 5 i Try.underlying127 Try.underlying9 hi hz hsz hby v l.length (bv l) hs hown r hx (by simp only [maxLen]; omega) (by omega) hb ?_
  intro v' w' h1 h2 _
  refine h v' w' ?_ ((Below.refl base w).grown h2 hb (OwnB.base hown))
  have hl : r.data.toList.length = r.size := by simp
  unfold OwnB
  rw [bv_append, List.length_append, hl]
  exact h1

theorem wpl_app_bytes_b {W : World} {ops : Array Oper} {rest : List Oper} {o : Oper} {a : Act} {Q : Exit → Act → World → Prop} (hgd : o.guard = none) (s x : Operand)
    (ho : o.op = .call { callee := .builtin .append, args := #[s, x], argTypes := #[127, 127] })
    (base B : Nat) (v u : Value) (l r : List UInt8) (hs : a.eval s = v) (hx : a.eval x = u) (hown : OwnB W base v l) (hrd : RdB W B u r) (hb : base ≤ W.heap.size) (hlen : l.length + r.length ≤ 1099511627776)
    (h : ∀ v' w', OwnB w' base v' (l ++ r) → Below base W w' → wpList Try.prog ops Q rest (a.put o.dst v') w') :
    wpList Try.prog ops Q (o :: rest) a W :=
  wpl_app_bytes hgd s x ho base B v u l r hs hx hown hrd hb hlen fun v' w' h1 h2 _ => h v' w' h1 (h2.below hb (OwnB.base hown))

theorem OwnB.on {w w' : World} {base : Nat} {v : Value} {l : List UInt8} (h : OwnB w base v l) (hb : Below w.heap.size w w') : OwnB w' base v l := by
  refine ⟨h.1, ?_⟩
  rcases h.2 with h2 | ⟨g, cap, cur, e, hg, hc, h3⟩
  · exact .inl h2
  · refine .inr ⟨g, cap, cur, e, hg, ?_, h3⟩
    rw [hb.block g (Array.getElem?_eq_some_iff.1 hc).1]; exact hc

/-- The value v is a slice, of elements of one cell each, that reads as l, in a block below B. -/
def RdV {α : Type} (f : α → Value) (w : World) (B : Nat) (v : Value) (l : List α) : Prop :=
  ∃ A c, v = .slice A l.length c ∧ l.length ≤ c ∧ c ≤ 9223372036854775807 ∧ (0 < l.length → ∃ b o, A = some ⟨b, o, none⟩ ∧ b < B ∧
    ∀ (k : Nat) (u : α), l[k]? = some u → w.cell? ⟨b, o + k, none⟩ = some (f u))

section
variable {α : Type} {f : α → Value}
theorem RdV.below {w w' : World} {B : Nat} {v : Value} {l : List α} (h : RdV f w B v l) (hb : Below B w w') : RdV f w' B v l := by
  obtain ⟨A, c, rfl, h1, h2, h3⟩ := h
  refine ⟨A, c, rfl, h1, h2, fun hp => ?_⟩
  obtain ⟨b, o, rfl, hB, hc⟩ := h3 hp
  exact ⟨b, o, rfl, hB, fun k p hk => (hb.cell (p := ⟨b, _, none⟩) hB).trans (hc k p hk)⟩
theorem RdV.more {w : World} {B B' : Nat} {v : Value} {l : List α} (h : RdV f w B v l) (hB : B ≤ B') : RdV f w B' v l := by
  obtain ⟨A, c, rfl, h1, h2, h3⟩ := h
  refine ⟨A, c, rfl, h1, h2, fun hp => ?_⟩
  obtain ⟨b, o, rfl, hb, hc⟩ := h3 hp
  exact ⟨b, o, rfl, by omega, hc⟩
theorem RdV.on {w w' : World} {v : Value} {l : List α} (h : RdV f w w.heap.size v l) (hb : Below w.heap.size w w') : RdV f w' w'.heap.size v l := (h.below hb).more hb.size
theorem RdV.nil (w : World) (B : Nat) : RdV f w B (.slice none 0 0) [] := ⟨none, 0, rfl, by simp, by omega, fun h => absurd h (by simp)⟩
theorem RdV.drew {w : World} {B : Nat} {v : Value} {l : List α} (h : RdV f w B v l) : RdV f w.drew B v l := h
/-- A literal. -/
theorem RdV.lit (w : World) (cs : Array Value) (t : TypeId) (l : List α) (n B : Nat) (h : cs = (l.map f).toArray) (hn : n = l.length) (hB : w.heap.size < B) (hl : l.length ≤ 1099511627776) :
    RdV f (w.alloc (.cells cs t)) B (.slice (some ⟨w.heap.size, 0, none⟩) n n) l := by
  subst h hn
  refine ⟨_, l.length, rfl, Nat.le_refl _, by omega, fun _ => ⟨_, _, rfl, hB, fun k u hk => ?_⟩⟩
  rw [cell_of_row _ _ _ _ _ (0, 0) (heap_alloc_new w _)]
  simp [hk]
end

/-- A slice of numbers; of texts. -/
def RdI : World → Nat → Value → List Int → Prop := RdV (fun n => .int .i64 n)

end Go.Proofs.Ytlpakooogbaclaa
