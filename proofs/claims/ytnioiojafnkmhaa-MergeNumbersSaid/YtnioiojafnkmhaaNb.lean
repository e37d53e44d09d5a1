/- Layer 10, program-free: the state of lists that are being merged: a record of an order and a row of pointers to rests. -/
import Derived.Test.YtnioiojafnkmhaaMg
import Derived.Test.YtnioiojafnkmhaaBtu
import Derived.Test.YtnioiojafnkmhaaBxx
namespace Go.Proofs.Ytnioiojafnkmhaa
open Go.RowKit
set_option linter.unusedVariables false

/-- An assertion that holds. -/
theorem run_assert {P : Program} {t e : TypeId} (ht : P.underlying t = some (.pointer e)) (v : Value) (xt : TypeId) (w : World) : (Instr.typeAssert (.iface t v) xt t false).run P w = .ok v w := by
  simp [Instr.typeAssert, Sem.run_bind, run_underlying ht, Sem.run_pure, Result.andThen]
/-- Pointers as elements. -/
def ptrL : Lay Nat := ⟨1, fun n => [.pointer (some ⟨n, 0, none⟩)], fun _ => rfl, fun n u hu => by simp at hu; subst hu; rfl, by omega⟩

/-- v reads as l, in a block of Kp, if there is anything to read. -/
def RdP {α : Type} (L : Lay α) (Kp : Nat → Prop) (B : Nat) (w : World) (v : Value) (l : List α) : Prop := RdX L w B v l ∧ (0 < l.length → ∀ k, v.ownBlock = some k → Kp k)
section
variable {α : Type} {L : Lay α} {Kp : Nat → Prop} {B : Nat}
theorem RdP.turn {X Y : World} {v : Value} {l : List α} (h : RdP L Kp B X v l) (hk : ∀ k, Kp k → k < B → Y.heap[k]? = X.heap[k]?) : RdP L Kp B Y v l := by
  refine ⟨?_, h.2⟩
  obtain ⟨A, c, rfl, h1, h2, h3⟩ := h.1
  refine ⟨A, c, rfl, h1, h2, fun hp => ?_⟩
  obtain ⟨b, o, rfl, hb, hc⟩ := h3 hp
  exact ⟨b, o, rfl, hb, fun k x hx j u hu => (World.cell?_of_block (a := ⟨b, _, none⟩) (hk b (h.2 hp b rfl) hb)).trans (hc k x hx j u hu)⟩
theorem RdP.below {X Y : World} {v : Value} {l : List α} (h : RdP L Kp B X v l) (hb : Below B X Y) : RdP L Kp B Y v l := h.turn fun k _ hk => hb.block k hk
theorem RdP.tail {P : Program} {w : World} {v : Value} {x : α} {l : List α} (h : RdP L Kp B w v (x :: l)) {t e : TypeId} (ht0 : P.underlying t = some (.slice e)) (hsz : ∀ w, (Go.sizeOf e).run P w = .ok L.sz w) :
    ∃ A c, (∀ W, (Instr.slice t v (some (.int .i64 1)) none none).run P W = .ok (.slice A l.length c) W) ∧ RdP L Kp B w (.slice A l.length c) l := by
  obtain ⟨⟨A, c, rfl, h1, h2, h3⟩, h4⟩ := h
  have ht : P.underlying t = some (.slice (P.elem t)) := by simp [Program.elem, ht0]
  have he : P.elem t = e := by simp [Program.elem, ht0]
  have hlc : l.length + 1 ≤ c := h1
  obtain ⟨b, o, rfl, hb, hc⟩ := h3 (Nat.succ_pos _)
  refine ⟨if c = 1 then some ⟨b, o, none⟩ else some ⟨b, o + L.sz, none⟩, c - 1, fun W => ?_, ⟨_, c - 1, rfl, by omega, by omega, fun hp => ?_⟩, fun hp k hk => ?_⟩
  · rw [show (Value.int .i64 1) = .int .i64 ((1 : Nat) : Int) from rfl, run_slice_l W _ _ _ _ ht _ _ (by omega) (by simp only [List.length_cons]; omega), he, hsz]
    simp [Result.andThen, sliced, addr_plain]
  · refine ⟨b, o + L.sz, ?_, hb, fun i x hx j u hu => ?_⟩
    · rw [if_neg (by omega)]
    · have := hc (i + 1) x (by simpa using hx) j u hu
      rw [Nat.succ_mul] at this
      rw [show o + L.sz + i * L.sz + j = o + (i * L.sz + L.sz) + j from by omega]
      exact this
  · refine h4 (by simp) k ?_
    rw [if_neg (by omega)] at hk
    exact hk

/-- A rest, as it lies. -/
def RestAt (L : Lay α) (tr : TypeId) (Kp : Nat → Prop) (B : Nat) (W : World) (n place : Nat) (l : List α) : Prop := ∃ s, Box W n #[s, .int .i64 place] tr ∧ RdP L Kp B W s l
/-- The record at M, and the rests of the pool, as they lie. -/
structure St (L : Lay α) (tm tp tr : TypeId) (ord : Value) (Kp : Nat → Prop) (B M : Nat) (pool : List (Rst α)) (W : World) (xs : List (Rst α)) : Prop where
  box : ∃ v, Box W M #[ord, v] tm ∧ OwnX ptrL tp W (M + 1) v (xs.map Rst.at_)
  low : B ≤ M
  rests : ∀ r ∈ pool, B ≤ r.at_ ∧ RestAt L tr Kp B W r.at_ r.place (r.head :: r.tail)
  sub : ∀ r ∈ xs, r ∈ pool
variable {tm tp tr : TypeId} {ord : Value} {M : Nat} {pool : List (Rst α)} {W : World} {xs : List (Rst α)}
/-- Worlds in which all these blocks are as they were. -/
theorem St.turn {Y : World} (h : St L tm tp tr ord Kp B M pool W xs) (hc : ∀ (k : Nat) (cs : Array Value) (t : TypeId) (f : Nat × Nat), W.heap[k]? = some (.cells cs t f) → t = tm ∨ t = tp ∨ t = tr → Y.heap[k]? = some (.cells cs t f)) (hk : ∀ k, Kp k → k < B → Y.heap[k]? = W.heap[k]?) : St L tm tp tr ord Kp B M pool Y xs := by
  refine ⟨?_, h.low, fun r hr => ?_, h.sub⟩
  · obtain ⟨v, h1, h2⟩ := h.box
    refine ⟨v, hc M _ _ _ h1 (.inl rfl), h2.1, ?_⟩
    rcases h2.2 with h3 | ⟨g, cap, cur, e1, hg, hb, h4⟩
    · exact .inl h3
    · exact .inr ⟨g, cap, cur, e1, hg, hc g _ _ _ hb (.inr (.inl rfl)), h4⟩
  · obtain ⟨h1, s, h2, h3⟩ := h.rests r hr
    exact ⟨h1, s, hc _ _ _ _ h2 (.inr (.inr rfl)), h3.turn hk⟩
theorem St.on {Y : World} (h : St L tm tp tr ord Kp B M pool W xs) (hb : Below W.heap.size W Y) (hB : B ≤ W.heap.size) : St L tm tp tr ord Kp B M pool Y xs :=
  h.turn (fun k cs t f hk _ => (hb.block k (Array.getElem?_eq_some_iff.1 hk).1).trans hk) (fun k _ hk => hb.block k (by omega))
theorem St.size (h : St L tm tp tr ord Kp B M pool W xs) : M < W.heap.size := let ⟨_, h1, _⟩ := h.box; h1.lt
theorem St.later {Y : World} (h : St L tm tp tr ord Kp B M pool W xs) (hb : Below W.heap.size W Y) : St L tm tp tr ord Kp B M pool Y xs := h.on hb (by have := h.size; have := h.low; omega)
theorem St.kept {Y : World} {T : TypeId → Bool} {n₀ B' : Nat} (h : St L tm tp tr ord Kp B M pool W xs) (hk : Kr T Kp n₀ B' W Y) (h1 : T tm = false) (h2 : T tp = false) (h3 : T tr = false) : St L tm tp tr ord Kp B M pool Y xs :=
  h.turn (fun k cs t f hh ht => hk.cells k cs t f hh (by rcases ht with rfl | rfl | rfl <;> assumption)) (fun k hp hB => hk.kept k hp (by have := h.size; have := h.low; omega))
/-- Where a rest lies. -/
theorem St.rest (h : St L tm tp tr ord Kp B M pool W xs) {r : Rst α} (hr : r ∈ xs) : ∃ s, Box W r.at_ #[s, .int .i64 r.place] tr ∧ RdP L Kp B W s (r.head :: r.tail) := (h.rests r (h.sub r hr)).2
/-- The row, where there is any. -/
theorem St.row (h : St L tm tp tr ord Kp B M pool W xs) (hp : 0 < xs.length) : ∃ g c, Box W M #[ord, .slice (some ⟨g, 0, none⟩) xs.length c] tm ∧ OwnX ptrL tp W (M + 1) (.slice (some ⟨g, 0, none⟩) xs.length c) (xs.map Rst.at_) ∧
    ∀ (i : Nat) (hi : i < xs.length), W.cell? ⟨g, i, none⟩ = some (.pointer (some ⟨xs[i].at_, 0, none⟩)) := by
  obtain ⟨v, h1, h2⟩ := h.box
  obtain ⟨g, c, rfl, hg, _⟩ := h2.pos (by rw [List.length_map]; exact hp)
  rw [List.length_map] at h1 h2
  refine ⟨g, c, h1, h2, fun i hi => ?_⟩
  have := h2.cell i (by rw [List.length_map]; exact hi) 0 _ rfl
  simpa [show ptrL.sz = 1 from rfl] using this
theorem RdP.pos {w : World} {v : Value} {x : α} {l : List α} (h : RdP L Kp B w v (x :: l)) : ∃ b o c, v = .slice (some ⟨b, o, none⟩) (l.length + 1) c ∧ b < B ∧ Kp b ∧ ∀ (j : Nat) (u : Value), (L.enc x)[j]? = some u → w.cell? ⟨b, o + j, none⟩ = some u := by
  obtain ⟨⟨A, c, rfl, h1, h2, h3⟩, h4⟩ := h
  obtain ⟨b, o, rfl, hb, hc⟩ := h3 (Nat.succ_pos _)
  refine ⟨b, o, c, rfl, hb, h4 (Nat.succ_pos _) b rfl, fun j u hu => ?_⟩
  have := hc 0 x rfl j u hu
  simpa using this
/-- Two things of a list change places. -/
theorem map_swap {β : Type} (f : α → β) (xs : List α) (i j : Nat) : (swapL xs i j).map f = swapL (xs.map f) i j := by
  unfold swapL
  rw [List.getElem?_map, List.getElem?_map]
  cases xs[i]? <;> cases xs[j]? <;> simp
end
section
variable {α : Type} {L : Lay α} {Kp : Nat → Prop} {B : Nat}
variable {tm tp tr : TypeId} {ord : Value} {M : Nat} {pool : List (Rst α)} {W : World} {xs : List (Rst α)}
theorem ownX_at {β : Type} {L : Lay β} {e : TypeId} {w : World} {base : Nat} {v : Value} {l : List β} (h : OwnX L e w base v l) : ∀ k, v.ownBlock = some k → ∃ cur, w.heap[k]? = some (.cells cur e (0, 0)) := by
  intro k hk
  rcases h.2 with ⟨rfl, _⟩ | ⟨g, cap, cur, rfl, _, hg, _⟩
  · cases hk
  · simp only [Value.ownBlock, Option.some.injEq] at hk
    subst hk
    exact ⟨cur, hg⟩
/-- The record and its row are turned, and nothing else that is old. -/
theorem St.moved {Y : World} (h : St L tm tp tr ord Kp B M pool W xs) (hm : tr ≠ tm) (hp : tr ≠ tp) {v : Value} {l : List Nat} (hb : Box W M #[ord, v] tm) (ho : OwnX ptrL tp W (M + 1) v l) {xs' : List (Rst α)}
    (hv : ∃ v', Box Y M #[ord, v'] tm ∧ OwnX ptrL tp Y (M + 1) v' (xs'.map Rst.at_)) (hblk : ∀ k, k < W.heap.size → k ≠ M → v.ownBlock ≠ some k → Y.heap[k]? = W.heap[k]?) (hsub : ∀ r ∈ xs', r ∈ pool) : St L tm tp tr ord Kp B M pool Y xs' := by
  refine ⟨hv, h.low, fun r hr => ?_, hsub⟩
  obtain ⟨h1, s, h2, h3⟩ := h.rests r hr
  have hML := hb.lt
  have hlow := h.low
  refine ⟨h1, s, (hblk _ h2.lt (fun e => ?_) (fun e => ?_)).trans h2, h3.turn fun k _ hk => hblk k (by omega) (by omega) fun e => ?_⟩
  · rw [e] at h2
    have h4 : some (Obj.cells #[ord, v] tm (0, 0)) = some (.cells #[s, .int .i64 r.place] tr (0, 0)) := hb.symm.trans h2
    injection h4 with h4
    injection h4 with _ h4
    exact hm h4.symm
  · obtain ⟨cur, hc⟩ := ownX_at ho _ e
    rw [show W.heap[r.at_]? = _ from h2] at hc
    injection hc with hc
    injection hc with _ hc
    exact hp hc
  · have := ho.base k e
    omega
theorem OwnX.head {β : Type} {L : Lay β} {e : TypeId} {w : World} {base g n c : Nat} {l : List β} (h : OwnX L e w base (.slice (some ⟨g, 0, none⟩) n c) l) (m : Nat) (hm : m ≤ l.length) : OwnX L e w base (.slice (some ⟨g, 0, none⟩) m c) (l.take m) := by
  have hlt : (l.take m).length = m := by rw [List.length_take]; omega
  refine ⟨L.all_length _, ?_⟩
  rcases h.2 with ⟨e0, _⟩ | ⟨g', cap, cur, e0, hb, hg, hnc, hcm, hcs, htake⟩
  · cases e0
  · injection e0 with e1 e2 e3
    injection e1 with e1
    injection e1 with e1
    subst e1 e2 e3
    refine .inr ⟨g, c, cur, by rw [hlt], hb, hg, by omega, hcm, hcs, ?_⟩
    rw [hlt]
    have h1 : l.take m ++ l.drop m = l := List.take_append_drop m l
    rw [← h1, L.all_append] at htake
    have h2 := congrArg (List.take (m * L.sz)) htake
    rw [List.take_take, List.take_left' (by rw [L.all_length, hlt])] at h2
    rw [← h2]
    congr 1
    have : m * L.sz ≤ (l.take m ++ l.drop m).length * L.sz := Nat.mul_le_mul_right _ (by rw [h1]; exact hm)
    rw [Nat.min_eq_left this]
theorem run_head {P : Program} {t e : TypeId} (ht0 : P.underlying t = some (.slice e)) {sz : Nat} (hsz : ∀ w, (Go.sizeOf e).run P w = .ok sz w) (g n c m : Nat) (hm : m ≤ n) (hn : n ≤ c) (W : World) :
    (Instr.slice t (.slice (some ⟨g, 0, none⟩) n c) none (some (.int .i64 m)) none).run P W = .ok (.slice (some ⟨g, 0, none⟩) m c) W := by
  have ht : P.underlying t = some (.slice (P.elem t)) := by simp [Program.elem, ht0]
  have he : P.elem t = e := by simp [Program.elem, ht0]
  rw [run_slice_h W _ _ _ _ ht _ _ (by omega) (by omega), he, hsz]
  simp [Result.andThen, sliced, Addr.add]
theorem OwnX.swap_cell {e : TypeId} {base g n c : Nat} (ho : OwnX ptrL e W base (.slice (some ⟨g, 0, none⟩) n c) (xs.map Rst.at_)) (i j : Nat) (hi : i < xs.length) (hj : j < xs.length) :
    (∃ q, (W.setCell ⟨g, i, none⟩ (.pointer (some ⟨xs[j].at_, 0, none⟩))).cell? ⟨g, j, none⟩ = some (.pointer (some ⟨q, 0, none⟩))) ∧ (W.setCell ⟨g, i, none⟩ (.pointer (some ⟨xs[j].at_, 0, none⟩))).frozen? ⟨g, j, none⟩ = false := by
  have h1 := (ho.stored i (by rw [List.length_map]; exact hi) 0 (by decide) (.pointer (some ⟨xs[j].at_, 0, none⟩)) xs[j].at_ rfl).1
  simp only [show ptrL.sz = 1 from rfl, Nat.mul_one, Nat.add_zero] at h1
  have h2 := h1.cell j (by rw [List.length_set, List.length_map]; exact hj) 0 _ rfl
  simp only [show ptrL.sz = 1 from rfl, Nat.mul_one, Nat.add_zero] at h2
  exact ⟨⟨_, h2⟩, h1.frozen j⟩
/-- Two change places in the row. -/
theorem St.swapped (h : St L tm tp tr ord Kp B M pool W xs) (hm : tr ≠ tm) (hp : tr ≠ tp) {g c : Nat} (hb : Box W M #[ord, .slice (some ⟨g, 0, none⟩) xs.length c] tm) (ho : OwnX ptrL tp W (M + 1) (.slice (some ⟨g, 0, none⟩) xs.length c) (xs.map Rst.at_)) (i j : Nat) (hi : i < xs.length) (hj : j < xs.length) :
    St L tm tp tr ord Kp B M pool ((W.setCell ⟨g, i, none⟩ (.pointer (some ⟨xs[j].at_, 0, none⟩))).setCell ⟨g, j, none⟩ (.pointer (some ⟨xs[i].at_, 0, none⟩))) (swapL xs i j) ∧
    W.grownBy ((W.setCell ⟨g, i, none⟩ (.pointer (some ⟨xs[j].at_, 0, none⟩))).setCell ⟨g, j, none⟩ (.pointer (some ⟨xs[i].at_, 0, none⟩))) (some g) := by
  have hgM : M + 1 ≤ g := ho.base g rfl
  have hblk : ∀ k, k ≠ g → ((W.setCell ⟨g, i, none⟩ (.pointer (some ⟨xs[j].at_, 0, none⟩))).setCell ⟨g, j, none⟩ (.pointer (some ⟨xs[i].at_, 0, none⟩))).heap[k]? = W.heap[k]? := fun k hk =>
    (Below.heap_setCell _ ⟨g, j, none⟩ _ k hk).trans (Below.heap_setCell W ⟨g, i, none⟩ _ k hk)
  refine ⟨h.moved hm hp hb ho ⟨_, (hblk M (by omega)).trans hb, ?_⟩ (fun k _ _ hk => hblk k fun e => hk (by rw [e]; rfl)) (fun r hr => h.sub r (swap_perm.mem_iff.1 hr)), ⟨rfl, rfl, rfl, by simp [World.setCell], fun k _ hne => hblk k fun e => hne (by rw [e])⟩⟩
  have h1 := (ho.stored i (by rw [List.length_map]; exact hi) 0 (by decide) (.pointer (some ⟨xs[j].at_, 0, none⟩)) xs[j].at_ rfl).1
  have h2 := (h1.stored j (by rw [List.length_set, List.length_map]; exact hj) 0 (by decide) (.pointer (some ⟨xs[i].at_, 0, none⟩)) xs[i].at_ rfl).1
  simp only [show ptrL.sz = 1 from rfl, Nat.mul_one, Nat.add_zero] at h2
  rw [map_swap, swap_eq (by rw [List.length_map]; exact hi) (by rw [List.length_map]; exact hj), List.getElem_map, List.getElem_map]
  exact h2
/-- One more behind the row: W1 the world with the literal, w' that behind append. -/
theorem St.pushed (h : St L tm tp tr ord Kp B M pool W xs) (hm : tr ≠ tm) (hp : tr ≠ tp) (ht : tm ≠ tp) {v v' : Value} {W1 w' : World} (hb : Box W M #[ord, v] tm) (ho : OwnX ptrL tp W (M + 1) v (xs.map Rst.at_)) (h1 : Below W.heap.size W W1)
    {a : Rst α} (ha : a ∈ pool) (ho' : OwnX ptrL tp w' (M + 1) v' (xs.map Rst.at_ ++ [a.at_])) (hg : Grew W1 w' v v') :
    Box w' M #[ord, v] tm ∧ St L tm tp tr ord Kp B M pool (w'.setCell ⟨M, 1, none⟩ v') (xs ++ [a]) := by
  have hM : some M ≠ v.ownBlock := fun e => by have := ho.base M e.symm; omega
  have hb1 := (hb.later h1).keep hg.grown hM
  refine ⟨hb1, h.moved hm hp hb ho ⟨v', hb1.set 1 v', ?_⟩ (fun k hk hkM hne => ?_) (fun r hr => ?_)⟩
  · have : OwnX ptrL tp (w'.setCell ⟨M, 1, none⟩ v') (M + 1) v' (xs.map Rst.at_ ++ [a.at_]) := by
      refine OwnX.apart ho' (fun i hi _ => Below.heap_setCell w' _ _ i hi) (fun e => ?_)
      have := ho'.base M e
      omega
    rw [List.map_append]
    exact this
  · exact (Below.heap_setCell w' _ _ k hkM).trans ((hg.grown.block k (Nat.lt_of_lt_of_le hk h1.size) fun e => hne e.symm).trans (h1.block k hk))
  · rcases List.mem_append.1 hr with hr | hr
    · exact h.sub r hr
    · simp at hr; subst hr; exact ha
/-- The last one of the row is taken off. -/
theorem St.popped {a : Rst α} (h : St L tm tp tr ord Kp B M pool W (xs ++ [a])) (hm : tr ≠ tm) (hp : tr ≠ tp) {g n c : Nat} (hb : Box W M #[ord, .slice (some ⟨g, 0, none⟩) n c] tm) (ho : OwnX ptrL tp W (M + 1) (.slice (some ⟨g, 0, none⟩) n c) ((xs ++ [a]).map Rst.at_)) :
    St L tm tp tr ord Kp B M pool (W.setCell ⟨M, 1, none⟩ (.slice (some ⟨g, 0, none⟩) xs.length c)) xs := by
  have hgM : M + 1 ≤ g := ho.base g rfl
  refine h.moved hm hp hb ho ⟨_, hb.set 1 _, ?_⟩ (fun k _ hk _ => Below.heap_setCell W _ _ k hk) (fun r hr => h.sub r (List.mem_append_left _ hr))
  have h1 := ho.head xs.length (by simp)
  rw [List.map_append, List.take_left' (by rw [List.length_map])] at h1
  refine OwnX.apart h1 (fun i hi _ => Below.heap_setCell W _ _ i hi) (fun e => ?_)
  have : g = M := by simpa [Value.ownBlock] using e
  omega
end
end Go.Proofs.Ytnioiojafnkmhaa
