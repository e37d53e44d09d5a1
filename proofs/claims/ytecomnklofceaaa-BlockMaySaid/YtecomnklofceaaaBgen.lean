/- Program-free: slices and rows of whatever elements, each of so many cells: that read as a list; that a call owns; append, stores. -/
import Derived.Test.YtecomnklofceaaaBB
import Derived.Lib.Hide
import Derived.Handy
namespace Go.Proofs.Ytecomnklofceaaa
open Go.RowKit
set_option linter.unusedVariables false

/-- How an element is laid: in sz cells. -/
structure Lay (α : Type) where
  sz : Nat
  enc : α → List Value
  len : ∀ x, (enc x).length = sz
  one : ∀ x, ∀ u ∈ enc x, u.oneCell' = true
  pos : 0 < sz

section
variable {α : Type} (L : Lay α)

/-- All cells of a list. -/
def Lay.all (l : List α) : List Value := l.flatMap L.enc
theorem Lay.all_nil : L.all [] = [] := rfl
theorem Lay.all_cons (x : α) (l : List α) : L.all (x :: l) = L.enc x ++ L.all l := rfl
theorem Lay.all_append (l m : List α) : L.all (l ++ m) = L.all l ++ L.all m := by simp [Lay.all]
theorem Lay.all_length (l : List α) : (L.all l).length = l.length * L.sz := by
  induction l with
  | nil => simp [Lay.all]
  | cons x l ih => rw [L.all_cons, List.length_append, L.len, ih, List.length_cons, Nat.succ_mul, Nat.add_comm]
theorem Lay.all_at (l : List α) (k : Nat) (x : α) (hk : l[k]? = some x) (j : Nat) (hj : j < L.sz) : (L.all l)[k * L.sz + j]? = (L.enc x)[j]? := by
  induction l generalizing k with
  | nil => simp at hk
  | cons y l ih =>
    rw [L.all_cons]
    cases k with
    | zero =>
      simp at hk
      subst hk
      rw [Nat.zero_mul, Nat.zero_add, List.getElem?_append_left (by rw [L.len]; exact hj)]
    | succ k =>
      rw [List.getElem?_append_right (by rw [L.len, Nat.succ_mul]; omega), L.len]
      have : (k + 1) * L.sz + j - L.sz = k * L.sz + j := by rw [Nat.succ_mul]; omega
      rw [this]
      exact ih k (by simpa using hk)
theorem Lay.all_one (l : List α) : ∀ u ∈ L.all l, u.oneCell' = true := by
  intro u hu
  obtain ⟨x, _, hx⟩ := List.mem_flatMap.1 hu
  exact L.one x u hx

/-- v is a slice that reads as l, in a block below B. -/
def RdX (w : World) (B : Nat) (v : Value) (l : List α) : Prop :=
  ∃ A c, v = .slice A l.length c ∧ l.length ≤ c ∧ c ≤ 9223372036854775807 ∧ (0 < l.length → ∃ b o, A = some ⟨b, o, none⟩ ∧ b < B ∧
    ∀ (k : Nat) (x : α), l[k]? = some x → ∀ (j : Nat) (u : Value), (L.enc x)[j]? = some u → w.cell? ⟨b, o + k * L.sz + j, none⟩ = some u)
/-- v is a row, of blocks from base on, that a call owns, that reads as l. -/
def OwnX (e : TypeId) (w : World) (base : Nat) (v : Value) (l : List α) : Prop := w.ownsRow base e L.sz v l.length (L.all l)
end

section
variable {α : Type} {L : Lay α} {e : TypeId}

theorem RdX.below {w w' : World} {B : Nat} {v : Value} {l : List α} (h : RdX L w B v l) (hb : Below B w w') : RdX L w' B v l := by
  obtain ⟨A, c, rfl, h1, h2, h3⟩ := h
  refine ⟨A, c, rfl, h1, h2, fun hp => ?_⟩
  obtain ⟨b, o, rfl, hB, hc⟩ := h3 hp
  exact ⟨b, o, rfl, hB, fun k x hk j u hj => (hb.cell (p := ⟨b, _, none⟩) hB).trans (hc k x hk j u hj)⟩
theorem RdX.back {w w' : World} {B : Nat} {v : Value} {l : List α} (h : RdX L w' B v l) (hb : Below B w w') : RdX L w B v l := by
  obtain ⟨A, c, rfl, h1, h2, h3⟩ := h
  refine ⟨A, c, rfl, h1, h2, fun hp => ?_⟩
  obtain ⟨b, o, rfl, hB, hc⟩ := h3 hp
  exact ⟨b, o, rfl, hB, fun k x hk j u hj => (hb.cell (p := ⟨b, _, none⟩) hB).symm.trans (hc k x hk j u hj)⟩
theorem RdX.more {w : World} {B B' : Nat} {v : Value} {l : List α} (h : RdX L w B v l) (hB : B ≤ B') : RdX L w B' v l := by
  obtain ⟨A, c, rfl, h1, h2, h3⟩ := h
  refine ⟨A, c, rfl, h1, h2, fun hp => ?_⟩
  obtain ⟨b, o, rfl, hb, hc⟩ := h3 hp
  exact ⟨b, o, rfl, by omega, hc⟩
theorem RdX.on {w w' : World} {v : Value} {l : List α} (h : RdX L w w.heap.size v l) (hb : Below w.heap.size w w') : RdX L w' w'.heap.size v l := (h.below hb).more hb.size
theorem RdX.nil (w : World) (B : Nat) : RdX L w B (.slice none 0 0) [] := ⟨none, 0, rfl, by simp, by omega, fun h => absurd h (by simp)⟩
theorem RdX.drewN {w : World} {B : Nat} {v : Value} {l : List α} (h : RdX L w B v l) (n : Nat) : RdX L (w.drewN n) B v l := h
theorem RdX.drew {w : World} {B : Nat} {v : Value} {l : List α} (h : RdX L w B v l) : RdX L w.drew B v l := h
/-- What reads outside a row that has grown reads as it did. -/
theorem RdX.grown {w w' : World} {u : Value} {l : List α} {row : Option Nat} (h : RdX L w w.heap.size u l) (hg : w.grownBy w' row) (hne : 0 < l.length → u.ownBlock = none ∨ u.ownBlock ≠ row) : RdX L w' w'.heap.size u l := by
  obtain ⟨A, c, rfl, h1, h2, h3⟩ := h
  refine ⟨A, c, rfl, h1, h2, fun hp => ?_⟩
  obtain ⟨b, o, rfl, hb, hc⟩ := h3 hp
  have hne' : some b ≠ row := by simpa [Value.ownBlock] using hne hp
  exact ⟨b, o, rfl, Nat.lt_of_lt_of_le hb hg.size, fun k x hk j z hj => (World.cell?_of_block (a := ⟨b, _, none⟩) (hg.block b hb hne')).trans (hc k x hk j z hj)⟩
theorem RdX.old {w : World} {B : Nat} {u : Value} {l : List α} (h : RdX L w B u l) (hp : 0 < l.length) : ∀ k, u.ownBlock = some k → k < B := by
  obtain ⟨A, c, rfl, h1, h2, h3⟩ := h
  obtain ⟨b, o, rfl, hb, hc⟩ := h3 hp
  intro k hk
  simp [Value.ownBlock] at hk
  omega
/-- The cells of the element at k. -/
theorem RdX.at {w : World} {B : Nat} {A : Option Addr} {n c : Nat} {l : List α} (h : RdX L w B (.slice A n c) l) (k : Nat) (hk : k < l.length) :
    ∃ b o, A = some ⟨b, o, none⟩ ∧ b < B ∧ ∀ (j : Nat) (u : Value), (L.enc l[k])[j]? = some u → w.cell? ⟨b, o + k * L.sz + j, none⟩ = some u := by
  obtain ⟨A', c', e, h1, h2, h3⟩ := h
  obtain ⟨b, o, rfl, hb, hc⟩ := h3 (by omega)
  cases e
  exact ⟨b, o, rfl, hb, fun j u hj => hc k _ (List.getElem?_eq_getElem hk) j u hj⟩

theorem OwnX.nil (w : World) (base : Nat) : OwnX L e w base (.slice none 0 0) [] := World.ownsRow_nil w base e L.sz
theorem OwnX.lt {w : World} {base : Nat} {v : Value} {l : List α} (h : OwnX L e w base v l) : ∀ k, v.ownBlock = some k → base ≤ k ∧ k < w.heap.size := World.ownsRow.lt h
theorem OwnX.base {w : World} {base : Nat} {v : Value} {l : List α} (h : OwnX L e w base v l) : ∀ k, v.ownBlock = some k → base ≤ k := fun k hk => (h.lt k hk).1
theorem OwnX.keep {w w' : World} {base : Nat} {v : Value} {l : List α} {row : Option Nat} (h : OwnX L e w base v l) (hg : w.grownBy w' row) (hne : v.ownBlock = none ∨ v.ownBlock ≠ row) : OwnX L e w' base v l := World.ownsRow.kept h hg hne
theorem OwnX.on {w w' : World} {base : Nat} {v : Value} {l : List α} (h : OwnX L e w base v l) (hb : Below w.heap.size w w') : OwnX L e w' base v l :=
  h.keep (row := none) ⟨hb.os, hb.tape, hb.output, hb.size, fun i hi _ => hb.block i hi⟩ (by cases v.ownBlock <;> simp)
theorem OwnX.mono {w : World} {base base' : Nat} {v : Value} {l : List α} (h : OwnX L e w base v l) (hb : base' ≤ base) : OwnX L e w base' v l :=
  ⟨h.1, h.2.imp id fun ⟨g, cap, cur, e, hg, h3⟩ => ⟨g, cap, cur, e, Nat.le_trans hb hg, h3⟩⟩
theorem OwnX.pos {w : World} {base : Nat} {v : Value} {l : List α} (h : OwnX L e w base v l) (hp : 0 < l.length) : ∃ g c, v = .slice (some ⟨g, 0, none⟩) l.length c ∧ base ≤ g ∧ g < w.heap.size := by
  rcases h.2 with ⟨_, h0⟩ | ⟨g, cap, _, rfl, hb, hg, _⟩
  · omega
  · exact ⟨g, cap, rfl, hb, (Array.getElem?_eq_some_iff.1 hg).1⟩
theorem OwnX.cell {w : World} {base g n c : Nat} {l : List α} (h : OwnX L e w base (.slice (some ⟨g, 0, none⟩) n c) l) (k : Nat) (hk : k < l.length) (j : Nat) (u : Value) (hu : (L.enc l[k])[j]? = some u) :
    w.cell? ⟨g, k * L.sz + j, none⟩ = some u := by
  have hn : n = l.length := by
    rcases h.2 with ⟨e, _⟩ | ⟨_, _, _, e, _⟩ <;> cases e <;> rfl
  subst hn
  have hj : j < L.sz := by rw [← L.len l[k]]; exact (List.getElem?_eq_some_iff.1 hu).1
  have hlt : k * L.sz + j < l.length * L.sz := by
    have := Nat.mul_le_mul_right L.sz (show k + 1 ≤ l.length from hk)
    rw [Nat.succ_mul] at this; omega
  rw [World.ownsRow.cellAt h _ hlt, L.all_at l k _ (List.getElem?_eq_getElem hk) j hj, hu]
theorem OwnX.frozen {w : World} {base g n c : Nat} {l : List α} (h : OwnX L e w base (.slice (some ⟨g, 0, none⟩) n c) l) (j : Nat) : w.frozen? ⟨g, j, none⟩ = false := by
  have hn : n = l.length := by
    rcases h.2 with ⟨e, _⟩ | ⟨_, _, _, e, _⟩ <;> cases e <;> rfl
  subst hn
  exact World.ownsRow.frozenAt h j
theorem OwnX.rd {w : World} {base : Nat} {v : Value} {l : List α} (h : OwnX L e w base v l) : RdX L w w.heap.size v l := by
  have h' := h
  rcases h.2 with ⟨rfl, hn⟩ | ⟨g, cap, cur, rfl, hb, hg, hnc, hcm, hcs, htake⟩
  · have : l = [] := List.eq_nil_of_length_eq_zero hn
    subst this; exact RdX.nil _ _
  · refine ⟨_, cap, rfl, hnc, by simpa [maxLen] using hcm, fun hp => ⟨g, 0, rfl, (Array.getElem?_eq_some_iff.1 hg).1, fun k x hk j u hj => ?_⟩⟩
    obtain ⟨hkl, hkx⟩ := List.getElem?_eq_some_iff.1 hk
    rw [Nat.zero_add]
    exact h'.cell k hkl j u (by rw [hkx]; exact hj)
theorem Lay.enc_set (L : Lay α) (l : List α) (k : Nat) (hk : k < l.length) (j : Nat) (hj : j < L.sz) (u : Value) (x : α) (hx : L.enc x = (L.enc l[k]).set j u) : L.all (l.set k x) = (L.all l).set (k * L.sz + j) u := by
  apply List.ext_getElem?
  intro i
  have hp := L.pos
  by_cases hi : i < l.length * L.sz
  · have hq : i / L.sz < l.length := Nat.div_lt_of_lt_mul (by rw [Nat.mul_comm]; exact hi)
    have hr : i % L.sz < L.sz := Nat.mod_lt _ hp
    have hir : i = i / L.sz * L.sz + i % L.sz := by rw [Nat.mul_comm]; exact (Nat.div_add_mod i L.sz).symm
    have h1 : (L.all (l.set k x))[i]? = (L.enc ((l.set k x)[i / L.sz]'(by rw [List.length_set]; exact hq)))[i % L.sz]? := by
      conv => lhs; rw [hir]
      exact L.all_at _ _ _ (List.getElem?_eq_getElem (by rw [List.length_set]; exact hq)) _ hr
    have h2 : (L.all l)[i]? = (L.enc l[i / L.sz])[i % L.sz]? := by
      conv => lhs; rw [hir]
      exact L.all_at _ _ _ (List.getElem?_eq_getElem hq) _ hr
    rw [h1, List.getElem?_set, h2]
    have hlt : k * L.sz + j < (L.all l).length := by
      rw [L.all_length]
      have := Nat.mul_le_mul_right L.sz (show k + 1 ≤ l.length from hk)
      rw [Nat.succ_mul] at this; omega
    by_cases hk2 : i / L.sz = k
    · subst hk2
      rw [List.getElem_set_self, hx, List.getElem?_set]
      by_cases hj2 : j = i % L.sz
      · subst hj2
        rw [if_pos rfl, if_pos hir.symm, if_pos hlt, if_pos (by rw [L.len]; exact hr)]
      · rw [if_neg hj2, if_neg (by omega)]
    · rw [List.getElem_set_ne (fun e => hk2 e.symm), if_neg]
      intro e
      apply hk2
      rw [← e, Nat.mul_comm, Nat.mul_add_div hp, Nat.div_eq_of_lt hj, Nat.add_zero]
  · rw [List.getElem?_eq_none (by rw [L.all_length, List.length_set]; omega), List.getElem?_eq_none (by rw [List.length_set, L.all_length]; omega)]
/-- A store into cell j of the element at k. -/
theorem OwnX.stored {w : World} {base g n c : Nat} {l : List α} (h : OwnX L e w base (.slice (some ⟨g, 0, none⟩) n c) l) (k : Nat) (hk : k < l.length) (j : Nat) (hj : j < L.sz) (u : Value) (x : α) (hx : L.enc x = (L.enc l[k]).set j u) :
    OwnX L e (w.setCell ⟨g, k * L.sz + j, none⟩ u) base (.slice (some ⟨g, 0, none⟩) n c) (l.set k x) ∧ w.grownBy (w.setCell ⟨g, k * L.sz + j, none⟩ u) (some g) := by
  have hn : n = l.length := by
    rcases h.2 with ⟨e, _⟩ | ⟨_, _, _, e, _⟩ <;> cases e <;> rfl
  subst hn
  have := World.ownsRow.stored h (k * L.sz + j) u
  unfold OwnX
  rw [List.length_set, L.enc_set l k hk j hj u x hx]
  exact this

/-- Rows of different elements lie in different blocks. -/
theorem rows_apartX {w : World} {b1 b2 : Nat} {e1 e2 : TypeId} {s1 s2 n1 n2 : Nat} {v1 v2 : Value} {x1 x2 : List Value} (h1 : w.ownsRow b1 e1 s1 v1 n1 x1) (h2 : w.ownsRow b2 e2 s2 v2 n2 x2) (he : e1 ≠ e2) :
    v1.ownBlock = none ∨ v1.ownBlock ≠ v2.ownBlock := by
  rcases h1.2 with ⟨rfl, _⟩ | ⟨g, cap, cur, rfl, _, hg, _⟩
  · exact .inl rfl
  · right
    rcases h2.2 with ⟨rfl, _⟩ | ⟨g', cap', cur', rfl, _, hg', _⟩
    · simp [Value.ownBlock]
    · intro e
      simp only [Value.ownBlock, Option.some.injEq] at e
      subst e
      rw [hg] at hg'
      simp at hg'
      exact he hg'.2
/-- Beside a row of other elements that grows. -/
theorem OwnX.beside {β : Type} {L' : Lay β} {e' : TypeId} {w w' : World} {base b2 : Nat} {v u u' : Value} {l : List α} {m : List β} (h : OwnX L e w base v l) (ho : OwnX L' e' w b2 u m) (he : e ≠ e') (hg : Grew w w' u u') : OwnX L e w' base v l :=
  h.keep hg.grown (rows_apartX h ho he)

/-- A row of so many cells, as it was made. -/
theorem OwnX.new (w : World) (cs : Array Value) (l : List α) (n : Nat) (h : cs = (L.all l).toArray) (hn : n = l.length) (hl : l.length ≤ 1099511627776) :
    OwnX L e (w.alloc (.cells cs e)) w.heap.size (.slice (some ⟨w.heap.size, 0, none⟩) n n) l := by
  subst h hn
  exact ⟨L.all_length l, .inr ⟨w.heap.size, l.length, _, rfl, Nat.le_refl _, heap_alloc_new w _, Nat.le_refl _, by simp only [maxLen]; omega, by rw [List.size_toArray, L.all_length], by rw [List.toList_toArray, List.take_of_length_le (by rw [L.all_length]; omega)]⟩⟩

variable {P : Program}
/-- What append of elements that stand in a block gives. -/
theorem appX_run {W : World} {t ty : TypeId} {z : Value} {bytes g c m : Nat} (ht : P.underlying t = some (.slice e)) (hinfo : (P.info? e).map (fun i => (i.zero, i.size, i.bytes)) = some (some z, L.sz, bytes)) (hzs : z.cells.size = L.sz)
    {base : Nat} {v : Value} {l r : List α} (hown : OwnX L e W base v l) (hblk : W.heap[g]? = some (.cells (L.all r).toArray e (0, 0))) (hm : m = r.length) (hb : base ≤ W.heap.size) (hlen : l.length + r.length ≤ 1000000000) (hbytes : bytes ≤ 1000) :
    ∃ v' w', (Builtin.append_ #[t, t] ty #[v, .slice (some ⟨g, 0, none⟩) m c]).run P W = .ok v' w' ∧ OwnX L e w' base v' (l ++ r) ∧ Grew W w' v v' ∧ Below base W w' := by
  subst hm
  have hby : (l.length + r.length) * bytes ≤ 140737488355328 := Nat.le_trans (Nat.mul_le_mul hlen hbytes) (by omega)
  obtain ⟨v', w', hrun, h2, h3, h4⟩ := app_run (P := P) (W := W) (ty := ty) ht hinfo hzs L.pos v l.length (L.all l) hown g r.length c (L.all r) (L.all_length r) hblk (L.all_one r) (by omega) hby hb
  exact ⟨v', w', hrun, by unfold OwnX; rw [List.length_append, L.all_append]; exact h2, h3, h3.below hb (OwnX.base hown)⟩
/-- append of elements that stand in a literal. -/
theorem wpl_appX {w : World} {ops : Array Oper} {rest : List Oper} {o : Oper} {a : Act} {Q : Exit → Act → World → Prop} {t : TypeId} {z : Value} {bytes : Nat} (hgd : o.guard = none) (s x : Operand)
    (ho : o.op = .call { callee := .builtin .append, args := #[s, x], argTypes := #[t, t] })
    (ht : P.underlying t = some (.slice e)) (hinfo : (P.info? e).map (fun i => (i.zero, i.size, i.bytes)) = some (some z, L.sz, bytes)) (hzs : z.cells.size = L.sz)
    (base : Nat) (v : Value) (l r : List α) (cs : Array Value) (m c : Nat) (hcs : cs = (L.all r).toArray) (hs : a.eval s = v) (hx : a.eval x = .slice (some ⟨w.heap.size, 0, none⟩) m c) (hm : m = r.length)
    (hown : OwnX L e w base v l) (hb : base ≤ w.heap.size) (hlen : l.length + r.length ≤ 1000000000) (hbytes : bytes ≤ 1000)
    (h : ∀ v' w', OwnX L e w' base v' (l ++ r) → Grew w w' v v' → Below base w w' → wpList P ops Q rest (a.put o.dst v') w') :
    wpList P ops Q (o :: rest) a (w.alloc (.cells cs e)) := by
  subst hcs hm
  have hby : (l.length + r.length) * bytes ≤ 140737488355328 := Nat.le_trans (Nat.mul_le_mul hlen hbytes) (by omega)
  refine wpl_appg (W := w.alloc (.cells (L.all r).toArray e)) hgd s x ho ht hinfo hzs L.pos v l.length (L.all l) w.heap.size r.length c (L.all r) hs hx (L.all_length r) (heap_alloc_new w _) (L.all_one r) (World.ownsRow.alloc hown _) (by omega) hby (by simp; omega) ?_
  intro v' w' hr' hg hsz
  have hgrow : Grew w w' v v' := ⟨⟨hg.grown.os, hg.grown.tape, hg.grown.output, by simp at hsz; omega, fun k hk hn => (hg.grown.block k (by simp; omega) hn).trans (Below.heap_alloc w _ k hk)⟩, hg.own.imp id fun ⟨g, e, hg2⟩ => ⟨g, e, by simp at hg2; omega⟩⟩
  exact h v' w' (by unfold OwnX; rw [List.length_append, L.all_append]; exact hr') hgrow (hgrow.below hb (OwnX.base hown))
end
end Go.Proofs.Ytecomnklofceaaa
