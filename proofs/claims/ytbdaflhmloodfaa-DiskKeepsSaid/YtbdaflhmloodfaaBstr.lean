/- Bytes: append of a text to a row that the call owns; slices of numbers, of texts, of whatever takes one cell, that read as a list. Program-bound by its types' names alone. -/
import Derived.Test.YtbdaflhmloodfaaBbyt
import Derived.Lib.AppendStr
namespace Go.Proofs.Ytbdaflhmloodfaa
open Go.RowKit Go.ChangeShapes Go.WideShapes Go.ChangeAt Go.Deep
set_option linter.unusedVariables false

/-- append of a text to an owned row. -/
theorem wpl_app_str {w : World} {ops : Array Oper} {rest : List Oper} {o : Oper} {a : Act} {Q : Exit → Act → World → Prop} (hgd : o.guard = none) (s x : Operand)
    (ho : o.op = .call { callee := .builtin .append, args := #[s, x], argTypes := #[38, 9] })
    (base : Nat) (v : Value) (l : List UInt8) (r : ByteArray) (hs : a.eval s = v) (hx : a.eval x = .string r)
    (hown : OwnB w base v l) (hb : base ≤ w.heap.size) (hlen : l.length + r.size ≤ 1099511627776)
    (h : ∀ v' w', OwnB w' base v' (l ++ r.data.toList) → Below base w w' → wpList Try.prog ops Q rest (a.put o.dst v') w') :
    wpList Try.prog ops Q (o :: rest) a w := by
  obtain ⟨i, hi, hz, hsz, hby⟩ := info_parts u8_info
  refine Lib.wpList_append_own_string w hgd s x 38 9 ho base 5 i Try.underlying38 Try.underlying9 hi hz hsz hby v l.length (bv l) hs hown r hx (by simp only [maxLen]; omega) (by omega) hb ?_
  intro v' w' h1 h2 _
  refine h v' w' ?_ ((Below.refl base w).grown h2 hb (OwnB.base hown))
  have hl : r.data.toList.length = r.size := by simp
  unfold OwnB
  rw [bv_append, List.length_append, hl]
  exact h1

/-- The same as wpl_app, wpl_app_bytes: what they say of memory in one word. -/
theorem wpl_app_b {w : World} {ops : Array Oper} {rest : List Oper} {o : Oper} {a : Act} {Q : Exit → Act → World → Prop} (hgd : o.guard = none) (s x : Operand)
    (ho : o.op = .call { callee := .builtin .append, args := #[s, x], argTypes := #[38, 38] })
    (base : Nat) (v : Value) (l r : List UInt8) (cs : Array Value) (m c : Nat) (hcs : cs = (bv r).toArray) (hs : a.eval s = v) (hx : a.eval x = .slice (some ⟨w.heap.size, 0, none⟩) m c) (hm : m = r.length)
    (hown : OwnB w base v l) (hb : base ≤ w.heap.size) (hlen : l.length + r.length ≤ 1099511627776)
    (h : ∀ v' w', OwnB w' base v' (l ++ r) → Below base w w' → wpList Try.prog ops Q rest (a.put o.dst v') w') :
    wpList Try.prog ops Q (o :: rest) a (w.alloc (.cells cs 5)) :=
  wpl_app hgd s x ho base v l r cs m c hcs hs hx hm hown hb hlen fun v' w' h1 h2 _ => h v' w' h1 (h2.below hb (OwnB.base hown))
theorem wpl_app_bytes_b {W : World} {ops : Array Oper} {rest : List Oper} {o : Oper} {a : Act} {Q : Exit → Act → World → Prop} (hgd : o.guard = none) (s x : Operand)
    (ho : o.op = .call { callee := .builtin .append, args := #[s, x], argTypes := #[38, 38] })
    (base B : Nat) (v u : Value) (l r : List UInt8) (hs : a.eval s = v) (hx : a.eval x = u) (hown : OwnB W base v l) (hrd : RdB W B u r) (hb : base ≤ W.heap.size) (hlen : l.length + r.length ≤ 1099511627776)
    (h : ∀ v' w', OwnB w' base v' (l ++ r) → Below base W w' → wpList Try.prog ops Q rest (a.put o.dst v') w') :
    wpList Try.prog ops Q (o :: rest) a W :=
  wpl_app_bytes hgd s x ho base B v u l r hs hx hown hrd hb hlen fun v' w' h1 h2 _ => h v' w' h1 (h2.below hb (OwnB.base hown))

theorem OwnB.on {w w' : World} {base : Nat} {v : Value} {l : List UInt8} (h : OwnB w base v l) (hb : Below w.heap.size w w') : OwnB w' base v l := by
  refine ⟨h.1, ?_⟩
  rcases h.2 with h2 | ⟨g, cap, cur, e, hg, hc, h3⟩
  · exact .inl h2
  · refine .inr ⟨g, cap, cur, e, hg, ?_, h3⟩
    rw [hb.block g (Array.getElem?_eq_some_iff.1 hc).1]; exact hc
theorem OwnB.keep {w w' : World} {base : Nat} {v : Value} {l : List UInt8} {row : Option Nat} (h : OwnB w base v l) (hg : w.grownBy w' row) (hne : v.ownBlock = none ∨ v.ownBlock ≠ row) : OwnB w' base v l := World.ownsRow.kept h hg hne
/-- The cells of an owned row, and a store into one. -/
theorem OwnB.cellAt {w : World} {base g n c : Nat} {l : List UInt8} (h : OwnB w base (.slice (some ⟨g, 0, none⟩) n c) l) (j : Nat) (hj : j < l.length) : w.cell? ⟨g, j, none⟩ = some (.int .u8 (l[j].toNat : Int)) := by
  have hn : n = l.length := by
    rcases h.2 with ⟨e, _⟩ | ⟨_, _, _, e, _⟩ <;> cases e <;> rfl
  subst hn
  have := World.ownsRow.cellAt h j (by omega)
  rw [this]; simp [bv, hj]
theorem OwnB.frozenAt {w : World} {base g n c : Nat} {l : List UInt8} (h : OwnB w base (.slice (some ⟨g, 0, none⟩) n c) l) (j : Nat) : w.frozen? ⟨g, j, none⟩ = false := by
  have hn : n = l.length := by
    rcases h.2 with ⟨e, _⟩ | ⟨_, _, _, e, _⟩ <;> cases e <;> rfl
  subst hn
  exact World.ownsRow.frozenAt h j
theorem OwnB.stored {w : World} {base g n c : Nat} {l : List UInt8} (h : OwnB w base (.slice (some ⟨g, 0, none⟩) n c) l) (j : Nat) (u : UInt8) (z : Int) (hz : z = (u.toNat : Int)) :
    OwnB (w.setCell ⟨g, j, none⟩ (.int .u8 z)) base (.slice (some ⟨g, 0, none⟩) n c) (l.set j u) ∧ w.grownBy (w.setCell ⟨g, j, none⟩ (.int .u8 z)) (some g) := by
  have hn : n = l.length := by
    rcases h.2 with ⟨e, _⟩ | ⟨_, _, _, e, _⟩ <;> cases e <;> rfl
  subst hn hz
  have := World.ownsRow.stored h j (.int .u8 (u.toNat : Int))
  unfold OwnB
  rw [List.length_set]
  have e : bv (l.set j u) = (bv l).set j (.int .u8 (u.toNat : Int)) := by simp [bv, List.map_set]
  rw [e]
  exact this


/-- The value v is a slice, of elements of one cell each, that reads as l, in a block below B. -/
def RdV {α : Type} (f : α → Value) (w : World) (B : Nat) (v : Value) (l : List α) : Prop :=
  ∃ A c, v = .slice A l.length c ∧ l.length ≤ c ∧ c ≤ 9223372036854775807 ∧ (0 < l.length → ∃ b o, A = some ⟨b, o, none⟩ ∧ b < B ∧
    ∀ (k : Nat) (u : α), l[k]? = some u → w.cell? ⟨b, o + k, none⟩ = some (f u))

section
variable {α : Type} {f : α → Value}
theorem RdV.below {w w' : World} {B : Nat} {v : Value} {l : List α} (h : RdV f w B v l) (hb : Below B w w') : RdV f w' B v l := by
  obtain ⟨A, c, rfl, h1, h2, h3⟩ := h
  refine ⟨A, c, rfl, h1, h2, fun hp => ?_⟩
  obtain ⟨b, o, rfl, hB, hc⟩ := h3 hp
  exact ⟨b, o, rfl, hB, fun k p hk => (hb.cell (p := ⟨b, _, none⟩) hB).trans (hc k p hk)⟩
theorem RdV.more {w : World} {B B' : Nat} {v : Value} {l : List α} (h : RdV f w B v l) (hB : B ≤ B') : RdV f w B' v l := by
  obtain ⟨A, c, rfl, h1, h2, h3⟩ := h
  refine ⟨A, c, rfl, h1, h2, fun hp => ?_⟩
  obtain ⟨b, o, rfl, hb, hc⟩ := h3 hp
  exact ⟨b, o, rfl, by omega, hc⟩
theorem RdV.on {w w' : World} {v : Value} {l : List α} (h : RdV f w w.heap.size v l) (hb : Below w.heap.size w w') : RdV f w' w'.heap.size v l := (h.below hb).more hb.size
theorem RdV.nil (w : World) (B : Nat) : RdV f w B (.slice none 0 0) [] := ⟨none, 0, rfl, by simp, by omega, fun h => absurd h (by simp)⟩
theorem RdV.drew {w : World} {B : Nat} {v : Value} {l : List α} (h : RdV f w B v l) : RdV f w.drew B v l := h
/-- A literal. -/
theorem RdV.lit (w : World) (cs : Array Value) (t : TypeId) (l : List α) (n B : Nat) (h : cs = (l.map f).toArray) (hn : n = l.length) (hB : w.heap.size < B) (hl : l.length ≤ 1099511627776) :
    RdV f (w.alloc (.cells cs t)) B (.slice (some ⟨w.heap.size, 0, none⟩) n n) l := by
  subst h hn
  refine ⟨_, l.length, rfl, Nat.le_refl _, by omega, fun _ => ⟨_, _, rfl, hB, fun k u hk => ?_⟩⟩
  rw [cell_of_row _ _ _ _ _ (0, 0) (heap_alloc_new w _)]
  simp [hk]
end

/-- A slice of numbers; of texts. -/
def RdI : World → Nat → Value → List Int → Prop := RdV (fun n => .int .i64 n)
def RdS : World → Nat → Value → List ByteArray → Prop := RdV (fun s => .string s)

theorem cells_int : Try.prog.cellsOf 3 = 1 := by kernel_rfl

set_option maxRecDepth 100000 in
theorem open_nums {H : Type} {enc : TypeId × Value → H} {W : World} {v : Value} {d : DataW H} {p : List MemPlace} {r : Reach} {b0 : Nat} (hval : Value.okWide Try.prog W r b0 29 v)
    (h : DataW.Trod enc Try.prog W 0 (fun _ => true) true 29 v d p) (hlt : ∀ x ∈ p, x.block < W.heap.size) :
    ∃ l : List Int, RdI W W.heap.size v l ∧ ∀ n ∈ l, -9223372036854775808 ≤ n ∧ n ≤ 9223372036854775807 := by
  obtain ⟨a0, len, cap, rfl⟩ := okWide_slice Try.underlying29 hval
  obtain ⟨fuel, hf⟩ := h
  rcases open_ints Try.underlying29 Try.underlying3 cells_int hf with ⟨hcs, hx⟩ | ⟨a, len', cap', zs, hcs, _, hl, hm, hz, hx, hcell, hwz⟩
  · simp [Value.cells] at hcs
    obtain ⟨rfl, rfl, rfl⟩ := hcs
    exact ⟨[], RdV.nil _ _, by simp⟩
  · simp [Value.cells] at hcs
    obtain ⟨rfl, rfl, rfl⟩ := hcs
    simp only [Prod.mk.injEq] at hx
    obtain ⟨rfl, rfl⟩ := hx
    simp only [if_true] at hz
    refine ⟨zs.take len, ⟨some a, cap, ?_, ?_, by simpa [maxLen] using hm, fun hp => ?_⟩, fun n hn => wf_int (hwz n (List.mem_of_mem_take hn))⟩
    · rw [List.length_take, Nat.min_eq_left (by omega)]
    · rw [List.length_take]; omega
    · rw [List.length_take, Nat.min_eq_left (by omega)] at hp
      obtain ⟨b, off, spot⟩ := a
      have hspot : spot = none := by simpa [Addr.add] using World.cell?_spot (hcell 0 (by omega))
      subst hspot
      refine ⟨b, off, rfl, hlt (.cell b off) (MemPlace.mem_row.2 ⟨0, by omega, by simp⟩), fun k u hu => ?_⟩
      rw [List.getElem?_take] at hu
      split at hu
      · have hkl := (List.getElem?_eq_some_iff.1 hu).1
        have h1 := hcell k hkl
        rw [addr_plain] at h1
        rw [h1, List.getD_eq_getElem?_getD, hu]
        rfl
      · cases hu

/-- 'v[:m]' of a slice of numbers. -/
theorem int_size (w : World) : (Go.sizeOf 3).run Try.prog w = .ok 1 w := by kernel_rfl
theorem sl_head_i {w : World} {B : Nat} {v : Value} {l : List Int} (h : RdI w B v l) (m : Nat) (z : Int) (hz : z = (m : Int)) (hm : m ≤ l.length) :
    ∃ A c, (∀ W, (Instr.slice 29 v none (some (.int .i64 z)) none).run Try.prog W = .ok (.slice A m c) W) ∧ RdI w B (.slice A m c) (l.take m) := by
  subst hz
  obtain ⟨A, c, rfl, h1, h2, h3⟩ := h
  have ht : Try.prog.underlying 29 = some (.slice (Try.prog.elem 29)) := by simp [Program.elem, Try.underlying29]
  have he : Try.prog.elem 29 = 3 := by simp [Program.elem, Try.underlying29]
  have hl : (l.take m).length = m := by rw [List.length_take]; omega
  refine ⟨if c = 0 then A else A.map (·.add 0), c, fun W => ?_, ⟨_, c, by rw [hl], by rw [hl]; omega, by omega, fun hp => ?_⟩⟩
  · rw [run_slice_h W _ _ _ _ ht _ _ (by omega) (by omega), he, int_size]
    simp [Result.andThen, sliced]
  · rw [hl] at hp
    obtain ⟨b, o, rfl, hb, hc⟩ := h3 (by omega)
    refine ⟨b, o, ?_, hb, fun j u hu => ?_⟩
    · rw [if_neg (by omega)]; simp [Addr.add]
    · rw [List.getElem?_take] at hu
      split at hu
      · exact hc j u hu
      · cases hu
end Go.Proofs.Ytbdaflhmloodfaa
