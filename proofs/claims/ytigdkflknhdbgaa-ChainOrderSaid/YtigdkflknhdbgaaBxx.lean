/- Program-free: slices of slices, of elements of any layout: that read as a list of lists; rows of new rows; a law's argument that is a slice, or a slice of slices, opened. -/
import Derived.Test.YtigdkflknhdbgaaBA
import Derived.Deep.Matrix
import Derived.Deep.Slices
namespace Go.Proofs.Ytigdkflknhdbgaa
open Go.RowKit Go.ChangeShapes Go.WideShapes Go.ChangeAt Go.Deep
set_option linter.unusedVariables false

section
variable {α : Type} (L : Lay α)
/-- v is a slice of slices that reads as ls, in blocks below B. -/
def RdXX (w : World) (B : Nat) (v : Value) (ls : List (List α)) : Prop :=
  ∃ vs : List Value, vs.length = ls.length ∧ (∃ A c, v = .slice A ls.length c ∧ ls.length ≤ c ∧ c ≤ 9223372036854775807 ∧ (0 < ls.length → ∃ b o, A = some ⟨b, o, none⟩ ∧ b < B ∧ ∀ (k : Nat) (u : Value), vs[k]? = some u → w.cell? ⟨b, o + k, none⟩ = some u)) ∧
    ∀ (i : Nat) (u : Value) (l : List α), vs[i]? = some u → ls[i]? = some l → RdX L w B u l
/-- v is a row of slices, that the call owns, in blocks from base on; its slices are rows that the call owns; none of them lies in the row. -/
def OwnXX (e1 e : TypeId) (w : World) (base : Nat) (v : Value) (ls : List (List α)) : Prop :=
  ∃ vs, w.ownsRow base e1 1 v ls.length vs ∧ vs.length = ls.length ∧ ∀ (i : Nat) (u : Value) (l : List α), vs[i]? = some u → ls[i]? = some l → OwnX L e w base u l ∧ ∀ k, u.ownBlock = some k → some k ≠ v.ownBlock
end

section
variable {α : Type} {L : Lay α} {e1 e : TypeId}
theorem RdXX.below {w w' : World} {B : Nat} {v : Value} {ls : List (List α)} (h : RdXX L w B v ls) (hb : Below B w w') : RdXX L w' B v ls := by
  obtain ⟨vs, hl, ⟨A, c, rfl, h1, h2, h3⟩, h4⟩ := h
  refine ⟨vs, hl, ⟨A, c, rfl, h1, h2, fun hp => ?_⟩, fun i u l hu hi => (h4 i u l hu hi).below hb⟩
  obtain ⟨b, o, rfl, hB, hc⟩ := h3 hp
  exact ⟨b, o, rfl, hB, fun k u hu => (hb.cell (p := ⟨b, _, none⟩) hB).trans (hc k u hu)⟩
theorem RdXX.more {w : World} {B B' : Nat} {v : Value} {ls : List (List α)} (h : RdXX L w B v ls) (hB : B ≤ B') : RdXX L w B' v ls := by
  obtain ⟨vs, hl, ⟨A, c, rfl, h1, h2, h3⟩, h4⟩ := h
  refine ⟨vs, hl, ⟨A, c, rfl, h1, h2, fun hp => ?_⟩, fun i u l hu hi => (h4 i u l hu hi).more hB⟩
  obtain ⟨b, o, rfl, hb, hc⟩ := h3 hp
  exact ⟨b, o, rfl, by omega, hc⟩
theorem RdXX.on {w w' : World} {v : Value} {ls : List (List α)} (h : RdXX L w w.heap.size v ls) (hb : Below w.heap.size w w') : RdXX L w' w'.heap.size v ls := (h.below hb).more hb.size
theorem RdXX.nil (w : World) (B : Nat) : RdXX L w B (.slice none 0 0) [] := ⟨[], rfl, ⟨none, 0, rfl, by simp, by omega, fun h => absurd h (by simp)⟩, by simp⟩
theorem RdXX.form {w : World} {B : Nat} {v : Value} {ls : List (List α)} (h : RdXX L w B v ls) : ∃ A c, v = .slice A ls.length c ∧ ls.length ≤ c ∧ c ≤ 9223372036854775807 := let ⟨_, _, ⟨A, c, e, h1, h2, _⟩, _⟩ := h; ⟨A, c, e, h1, h2⟩
/-- The slice at i. -/
theorem RdXX.at {w : World} {B n c : Nat} {A : Option Addr} {ls : List (List α)} (h : RdXX L w B (.slice A n c) ls) (i : Nat) (hi : i < ls.length) :
    ∃ b o a m, A = some ⟨b, o, none⟩ ∧ b < B ∧ w.cell? ⟨b, o + i, none⟩ = some (.slice a ls[i].length m) ∧ RdX L w B (.slice a ls[i].length m) ls[i] := by
  obtain ⟨vs, hl, ⟨A', c', e, h1, h2, h3⟩, h4⟩ := h
  obtain ⟨b, o, rfl, hb, hc⟩ := h3 (by omega)
  cases e
  have hvi : vs[i]? = some vs[i] := List.getElem?_eq_getElem (by omega)
  have hr := h4 i _ _ hvi (List.getElem?_eq_getElem hi)
  have hr' := hr
  obtain ⟨a, m, e, -⟩ := hr'
  exact ⟨b, o, a, m, rfl, hb, (hc i _ hvi).trans (by rw [e]), by rw [← e]; exact hr⟩
theorem RdXX.all {w : World} {B : Nat} {v : Value} {ls : List (List α)} (h : RdXX L w B v ls) : ∀ l ∈ ls, ∃ u, RdX L w B u l := fun l hl => by
  obtain ⟨i, hi, rfl⟩ := List.getElem_of_mem hl
  obtain ⟨A, c, rfl, -⟩ := h.form
  obtain ⟨_, _, a, m, _, _, _, h2⟩ := h.at i hi
  exact ⟨_, h2⟩

theorem OwnXX.nil (w : World) (base : Nat) : OwnXX L e1 e w base (.slice none 0 0) [] := ⟨[], World.ownsRow_nil w base _ 1, rfl, by simp⟩
theorem OwnXX.lt {w : World} {base : Nat} {v : Value} {ls : List (List α)} (h : OwnXX L e1 e w base v ls) : ∀ k, v.ownBlock = some k → base ≤ k ∧ k < w.heap.size := fun k hk => let ⟨_, h1, _⟩ := h; h1.lt k hk
theorem OwnXX.base {w : World} {base : Nat} {v : Value} {ls : List (List α)} (h : OwnXX L e1 e w base v ls) : ∀ k, v.ownBlock = some k → base ≤ k := fun k hk => (h.lt k hk).1
theorem OwnXX.mono {w : World} {base base' : Nat} {v : Value} {ls : List (List α)} (h : OwnXX L e1 e w base v ls) (hb : base' ≤ base) : OwnXX L e1 e w base' v ls := by
  obtain ⟨vs, h1, h2, h3⟩ := h
  exact ⟨vs, ⟨h1.1, h1.2.imp id fun ⟨g, cap, cur, q, hg, h5⟩ => ⟨g, cap, cur, q, Nat.le_trans hb hg, h5⟩⟩, h2, fun i u l hu hl => ⟨(h3 i u l hu hl).1.mono hb, (h3 i u l hu hl).2⟩⟩
/-- What is turned is neither the row nor one of its slices. -/
theorem OwnXX.keep {w w' : World} {base : Nat} {v : Value} {ls : List (List α)} {row : Option Nat} (h : OwnXX L e1 e w base v ls) (hg : w.grownBy w' row)
    (hne : ∀ j, row = some j → ∀ cs t f, w.heap[j]? = some (.cells cs t f) → t ≠ e1 ∧ t ≠ e) : OwnXX L e1 e w' base v ls := by
  obtain ⟨vs, h1, h2, h3⟩ := h
  have key : ∀ {q : TypeId} {sz : Nat} {u : Value} {k : Nat} {xs : List Value}, (q = e1 ∨ q = e) → w.ownsRow base q sz u k xs → u.ownBlock = none ∨ u.ownBlock ≠ row := by
    intro q sz u k xs he hr
    rcases hr.2 with ⟨rfl, _⟩ | ⟨g, cap, cur, rfl, _, hgb, _⟩
    · exact .inl rfl
    · refine .inr fun e' => ?_
      have := hne g (by simpa [Value.ownBlock] using e'.symm) _ _ _ hgb
      rcases he with rfl | rfl
      · exact this.1 rfl
      · exact this.2 rfl
  exact ⟨vs, h1.kept hg (key (.inl rfl) h1), h2, fun i u l hu hl => ⟨(h3 i u l hu hl).1.keep hg (key (.inr rfl) (h3 i u l hu hl).1), (h3 i u l hu hl).2⟩⟩
theorem OwnXX.on {w w' : World} {base : Nat} {v : Value} {ls : List (List α)} (h : OwnXX L e1 e w base v ls) (hb : Below w.heap.size w w') : OwnXX L e1 e w' base v ls :=
  h.keep (row := none) ⟨hb.os, hb.tape, hb.output, hb.size, fun i hi _ => hb.block i hi⟩ (fun j e => by cases e)
theorem OwnXX.rd {w : World} {base : Nat} {v : Value} {ls : List (List α)} (h : OwnXX L e1 e w base v ls) : RdXX L w w.heap.size v ls := by
  obtain ⟨vs, h1, h2, h3⟩ := h
  refine ⟨vs, h2, ?_, fun i u l hu hl => (h3 i u l hu hl).1.rd⟩
  rcases h1.2 with ⟨rfl, hn⟩ | ⟨g, cap, cur, rfl, hb, hg, hnc, hcm, hcs, htake⟩
  · exact ⟨none, 0, by rw [hn], by omega, by omega, fun hp => by omega⟩
  · refine ⟨_, cap, rfl, by omega, by simpa [maxLen] using hcm, fun hp => ⟨g, 0, rfl, (Array.getElem?_eq_some_iff.1 hg).1, fun k u hu => ?_⟩⟩
    rw [cell_of_row _ _ _ _ _ (0, 0) hg]
    have hkl : k < vs.length := (List.getElem?_eq_some_iff.1 hu).1
    rw [← htake, List.getElem?_take, if_pos (by omega)] at hu
    simpa using hu
/-- What is newer than such a row does not lie in it. -/
theorem own_apart {w1 w2 : World} {b1 b2 : Nat} {u v : Value} {l : List α} {ls : List (List α)} (ho : OwnX L e w1 b1 u l) (hv : OwnXX L e1 e w2 b2 v ls) (h : w2.heap.size ≤ b1) : ∀ k, u.ownBlock = some k → some k ≠ v.ownBlock := fun k hk e => by
  have h1 := ho.base k hk
  have h2 := (hv.lt k e.symm).2
  omega
/-- append of one new slice, that stands in a literal. -/
theorem appXX_run {P : Program} {W : World} {base g c : Nat} {t2 ty : TypeId} {v u : Value} {ls : List (List α)} {l : List α} (ht : P.underlying t2 = some (.slice e1)) (hinfo : (P.info? e1).map (fun i => (i.zero, i.size, i.bytes)) = some (some (.slice none 0 0), 1, 24))
    (hown : OwnXX L e1 e W base v ls) (hu : OwnX L e W base u l) (hne : ∀ k, u.ownBlock = some k → some k ≠ v.ownBlock)
    (hblk : W.heap[g]? = some (.cells #[u] e1 (0, 0))) (hb : base ≤ W.heap.size) (hlen : ls.length ≤ 1000000000) :
    ∃ v' w', (Builtin.append_ #[t2, t2] ty #[v, .slice (some ⟨g, 0, none⟩) 1 c]).run P W = .ok v' w' ∧ OwnXX L e1 e w' base v' (ls ++ [l]) ∧ Grew W w' v v' ∧ W.heap.size ≤ w'.heap.size := by
  obtain ⟨vs, hr, hl, hv⟩ := hown
  have h1 : u.oneCell' = true := by
    rcases hu.2 with ⟨rfl, _⟩ | ⟨g', cap, cur, rfl, _⟩ <;> rfl
  obtain ⟨v', w', hrun, h2, h3, h4⟩ := app_run (P := P) (W := W) (ty := ty) ht hinfo rfl (by omega) v ls.length vs hr g 1 c [u] rfl (by simpa using hblk) (by simpa using h1) (by omega) (by omega) hb
  refine ⟨v', w', hrun, ⟨vs ++ [u], by simpa using h2, by simp [hl], fun i x m hx hm => ?_⟩, h3, h4⟩
  have key : ∀ (x : Value) (m : List α), OwnX L e W base x m → (∀ k, x.ownBlock = some k → some k ≠ v.ownBlock) → OwnX L e w' base x m ∧ ∀ k, x.ownBlock = some k → some k ≠ v'.ownBlock := by
    intro x m hx hn
    refine ⟨hx.keep h3.grown ?_, fun k hk => ?_⟩
    · cases hob : x.ownBlock with
      | none => exact .inl rfl
      | some k => exact .inr (hn k hob)
    · rcases h3.own with e | ⟨g2, e, hg2⟩
      · rw [e]; exact hn k hk
      · rw [e]; intro e2; injection e2 with e2; have := (World.ownsRow.lt hx k hk).2; omega
  rcases Nat.lt_or_ge i vs.length with hi | hi
  · rw [List.getElem?_append_left hi] at hx
    rw [List.getElem?_append_left (by omega)] at hm
    exact key x m (hv i x m hx hm).1 (hv i x m hx hm).2
  · rw [List.getElem?_append_right hi] at hx
    rw [List.getElem?_append_right (by omega), ← hl] at hm
    rcases Nat.eq_zero_or_pos (i - vs.length) with h0 | h0
    · rw [h0] at hx hm; simp at hx hm; subst hx hm; exact key u l hu hne
    · rw [List.getElem?_eq_none (by simp; omega)] at hx; cases hx
/-- As a step of a walk: the literal was just made. -/
theorem wplXX_app {P : Program} {w : World} {ops : Array Oper} {rest : List Oper} {o : Oper} {a : Act} {Q : Exit → Act → World → Prop} {t2 : TypeId} (hgd : o.guard = none) (s x : Operand)
    (ho : o.op = .call { callee := .builtin .append, args := #[s, x], argTypes := #[t2, t2] }) (ht : P.underlying t2 = some (.slice e1)) (hinfo : (P.info? e1).map (fun i => (i.zero, i.size, i.bytes)) = some (some (.slice none 0 0), 1, 24))
    (base : Nat) (v u : Value) (ls : List (List α)) (l : List α) (cs : Array Value) (m c : Nat) (hcs : cs = #[u]) (hs : a.eval s = v) (hx : a.eval x = .slice (some ⟨w.heap.size, 0, none⟩) m c) (hm : m = 1)
    (hown : OwnXX L e1 e w base v ls) (hu : OwnX L e w base u l) (hne : ∀ k, u.ownBlock = some k → some k ≠ v.ownBlock) (hb : base ≤ w.heap.size) (hlen : ls.length ≤ 1000000000)
    (h : ∀ v' w', OwnXX L e1 e w' base v' (ls ++ [l]) → Grew w w' v v' → Below base w w' → wpList P ops Q rest (a.put o.dst v') w') :
    wpList P ops Q (o :: rest) a (w.alloc (.cells cs e1)) := by
  subst hcs hm
  obtain ⟨v', w', hrun, h2, h3, h4⟩ := appXX_run (P := P) (ty := o.type) (W := w.alloc (.cells #[u] e1)) (g := w.heap.size) (c := c) ht hinfo (hown.on (alloc_below w _)) (hu.on (alloc_below w _)) hne (heap_alloc_new w _) (by simp; omega) hlen
  refine wpList_plain hgd fun K hK => ?_
  unfold Oper.wp execOp
  simp only [ho, resolve, invoke, builtin, Sem.run_bind, Sem.run_pure, Result.andThen_ok, List.map_toArray, List.map_cons, List.map_nil, hs, hx, hrun]
  have hgrow : Grew w w' v v' := ⟨⟨h3.grown.os, h3.grown.tape, h3.grown.output, by simp at h4; omega, fun k hk hn => (h3.grown.block k (by simp; omega) hn).trans (Below.heap_alloc w _ k hk)⟩, h3.own.imp id fun ⟨g, e, hg2⟩ => ⟨g, e, by simp at hg2; omega⟩⟩
  exact hK _ _ (h v' w' h2 hgrow (hgrow.below hb (OwnXX.base hown)))
end

/-! ### A law's arguments -/
section
variable {H : Type} {enc : TypeId × Value → H} {P : Program} {W : World} {α : Type} {L : Lay α} {Ok : α → Prop}
/-- A slice of elements of a layout, opened. -/
theorem trod_rowX {t q : TypeId} {fuel : Nat} {cs : List Value} {x : DataW H × List MemPlace} (ht : P.underlying t = some (.slice q)) (hc : P.cellsOf q = L.sz)
    (hel : ∀ (fuel : Nat) (cs : List Value) (x : DataW H × List MemPlace), DataW.trod enc P W 0 (fun _ => true) true fuel q cs = some x → ∃ y : α, cs = L.enc y ∧ Ok y)
    (h : DataW.trod enc P W 0 (fun _ => true) true fuel t cs = some x) (hlt : ∀ y ∈ x.2, y.block < W.heap.size) : ∃ a l m, cs = [.slice a l m] ∧ ∃ ys : List α, RdX L W W.heap.size (.slice a l m) ys ∧ ∀ y ∈ ys, Ok y := by
  have hpos := L.pos
  rcases open_slice ht h with ⟨rfl, -⟩ | ⟨a, len, cap, m, n, D, Pl, rfl, _, hl, hm, hmm, rfl, hi⟩
  · exact ⟨none, 0, 0, rfl, [], RdX.nil _ _, by simp⟩
  · simp only [if_true] at hmm
    subst hmm
    refine ⟨_, _, _, rfl, ?_⟩
    have hx : ∀ i, i < m → ∃ y : α, (∀ (j : Nat) (u : Value), (L.enc y)[j]? = some u → W.cell? (a.add (i * L.sz + j)) = some u) ∧ Ok y := by
      intro i him
      obtain ⟨cs', hcc, hty⟩ := hi i him
      rw [hc] at hcc
      obtain ⟨y, rfl, h1⟩ := hel _ _ _ hty
      obtain ⟨_, _, hat⟩ := World.cells?_some hcc
      refine ⟨y, fun j u hj => ?_, h1⟩
      have hjl : j < L.sz := by rw [← L.len y]; exact (List.getElem?_eq_some_iff.1 hj).1
      have h3 := hat j hjl
      rw [Go.Deep.add_add] at h3
      rw [h3, hj]
    have hys : ∃ ys : List α, ys.length = len ∧ ∀ (i : Nat) (y : α), ys[i]? = some y → (∀ (j : Nat) (u : Value), (L.enc y)[j]? = some u → W.cell? (a.add (i * L.sz + j)) = some u) ∧ Ok y := by
      have key : ∀ k, k ≤ len → ∃ ys : List α, ys.length = k ∧ ∀ (i : Nat) (y : α), ys[i]? = some y → (∀ (j : Nat) (u : Value), (L.enc y)[j]? = some u → W.cell? (a.add (i * L.sz + j)) = some u) ∧ Ok y := by
        intro k
        induction k with
        | zero => intro _; exact ⟨[], rfl, by simp⟩
        | succ k ih =>
          intro hk
          obtain ⟨ys, h1, h2⟩ := ih (by omega)
          obtain ⟨y, h3⟩ := hx k (by omega)
          refine ⟨ys ++ [y], by simp [h1], fun i z hz => ?_⟩
          rw [List.getElem?_append] at hz
          split at hz
          · exact h2 i z hz
          · have : i = k := by
              have := (List.getElem?_eq_some_iff.1 hz).1
              simp at this; omega
            subst this
            rw [h1, Nat.sub_self] at hz
            simp at hz
            subst hz
            exact h3
      exact key len (Nat.le_refl _)
    obtain ⟨ys, rfl, hat⟩ := hys
    refine ⟨ys, ⟨some a, m, rfl, hl, by simpa [maxLen] using hm, fun hp => ?_⟩, fun y hy => ?_⟩
    · obtain ⟨b, off, spot⟩ := a
      have hspot : spot = none := by
        have h0 := (hat 0 _ (List.getElem?_eq_getElem hp)).1 0 _ (List.getElem?_eq_getElem (by rw [L.len]; exact hpos))
        simpa [Addr.add] using World.cell?_spot h0
      subst hspot
      refine ⟨b, off, rfl, hlt (.cell b off) (List.mem_append_left _ (MemPlace.mem_row.2 ⟨0, ?_, by simp⟩)), fun k y hk j u hj => ?_⟩
      · rw [hc]; exact Nat.mul_pos (by omega) hpos
      · have q0 := (hat k y hk).1 j u hj
        simp only [addr_plain] at q0
        rw [Nat.add_assoc]
        exact q0
    · obtain ⟨i, hi2, rfl⟩ := List.getElem_of_mem hy
      exact (hat i _ (List.getElem?_eq_getElem hi2)).2
/-- A slice of slices, opened. -/
theorem trod_rowXX {t t1 q : TypeId} {fuel : Nat} {cs : List Value} {x : DataW H × List MemPlace} (ht : P.underlying t = some (.slice t1)) (ht1 : P.underlying t1 = some (.slice q)) (hc1 : P.cellsOf t1 = 1) (hc : P.cellsOf q = L.sz)
    (hel : ∀ (fuel : Nat) (cs : List Value) (x : DataW H × List MemPlace), DataW.trod enc P W 0 (fun _ => true) true fuel q cs = some x → ∃ y : α, cs = L.enc y ∧ Ok y)
    (h : DataW.trod enc P W 0 (fun _ => true) true fuel t cs = some x) (hlt : ∀ y ∈ x.2, y.block < W.heap.size) : ∃ a l m, cs = [.slice a l m] ∧ ∃ ls : List (List α), RdXX L W W.heap.size (.slice a l m) ls ∧ ∀ l ∈ ls, ∀ y ∈ l, Ok y := by
  rcases open_slice ht h with ⟨rfl, -⟩ | ⟨a, len, cap, m, n, D, Pl, rfl, _, hl, hm, hmm, rfl, hi⟩
  · exact ⟨none, 0, 0, rfl, [], RdXX.nil _ _, by simp⟩
  · simp only [if_true] at hmm
    subst hmm
    refine ⟨_, _, _, rfl, ?_⟩
    have hx : ∀ i, i < m → ∃ u l, W.cell? (a.add i) = some u ∧ RdX L W W.heap.size u l ∧ ∀ y ∈ l, Ok y := by
      intro i him
      obtain ⟨cs', hcc, hty⟩ := hi i him
      obtain ⟨a', l', m', rfl, ys, hr, hok⟩ := trod_rowX ht1 hc hel hty (fun y hy => hlt y (List.mem_append_right _ (List.mem_flatMap.2 ⟨i, by simpa using him, hy⟩)))
      rw [hc1] at hcc
      obtain ⟨_, _, hat⟩ := World.cells?_some hcc
      have h3 := hat 0 (by omega)
      rw [Go.Deep.add_add] at h3
      exact ⟨_, ys, by simpa using h3, hr, hok⟩
    have hys : ∃ (vs : List Value) (ls : List (List α)), vs.length = len ∧ ls.length = len ∧ ∀ (i : Nat) (u : Value) (l : List α), vs[i]? = some u → ls[i]? = some l → W.cell? (a.add i) = some u ∧ RdX L W W.heap.size u l ∧ ∀ y ∈ l, Ok y := by
      have key : ∀ k, k ≤ len → ∃ (vs : List Value) (ls : List (List α)), vs.length = k ∧ ls.length = k ∧ ∀ (i : Nat) (u : Value) (l : List α), vs[i]? = some u → ls[i]? = some l → W.cell? (a.add i) = some u ∧ RdX L W W.heap.size u l ∧ ∀ y ∈ l, Ok y := by
        intro k
        induction k with
        | zero => intro _; exact ⟨[], [], rfl, rfl, by simp⟩
        | succ k ih =>
          intro hk
          obtain ⟨vs, ls, h1, h1', h2⟩ := ih (by omega)
          obtain ⟨u, l, h3⟩ := hx k (by omega)
          refine ⟨vs ++ [u], ls ++ [l], by simp [h1], by simp [h1'], fun i z y hz hy => ?_⟩
          rw [List.getElem?_append] at hz hy
          rw [h1] at hz
          rw [h1'] at hy
          split at hz
          · rename_i hik
            rw [if_pos hik] at hy
            exact h2 i z y hz hy
          · rename_i hik
            rw [if_neg hik] at hy
            have : i = k := by
              have := (List.getElem?_eq_some_iff.1 hz).1
              simp at this; omega
            subst this
            rw [Nat.sub_self] at hz hy
            simp at hz hy
            subst hz hy
            exact h3
      exact key len (Nat.le_refl _)
    obtain ⟨vs, ls, hvl, rfl, hat⟩ := hys
    refine ⟨ls, ⟨vs, hvl, ⟨some a, m, rfl, hl, by simpa [maxLen] using hm, fun hp => ?_⟩, fun i u l hu hl => (hat i u l hu hl).2.1⟩, fun l hl' => ?_⟩
    · obtain ⟨b, off, spot⟩ := a
      have hspot : spot = none := by
        have h0 := (hat 0 _ _ (List.getElem?_eq_getElem (by omega)) (List.getElem?_eq_getElem hp)).1
        simpa [Addr.add] using World.cell?_spot h0
      subst hspot
      refine ⟨b, off, rfl, hlt (.cell b off) (List.mem_append_left _ (MemPlace.mem_row.2 ⟨0, by rw [hc1]; omega, by simp⟩)), fun k u hu => ?_⟩
      have hkl : k < ls.length := by have := (List.getElem?_eq_some_iff.1 hu).1; omega
      have q0 := (hat k u _ hu (List.getElem?_eq_getElem hkl)).1
      rw [addr_plain] at q0
      exact q0
    · obtain ⟨i, hi2, rfl⟩ := List.getElem_of_mem hl'
      exact (hat i _ _ (List.getElem?_eq_getElem (by omega)) (List.getElem?_eq_getElem hi2)).2.2
end

/-- Numbers and texts as elements. -/
def intL : Lay Int := ⟨1, fun n => [.int .i64 n], fun _ => rfl, fun n u hu => by simp at hu; subst hu; rfl, by omega⟩
def strL : Lay ByteArray := ⟨1, fun s => [.string s], fun _ => rfl, fun n u hu => by simp at hu; subst hu; rfl, by omega⟩
end Go.Proofs.Ytigdkflknhdbgaa
