/- Program-free: a range over a function whose iterator turns cells of its own between two of its rounds: what a round may turn, and what an iterator may, is told by the cells' types, and by blocks that neither touches. -/
import Derived.Test.YtigdkflknhdbgaaBtell
import Derived.Test.YtigdkflknhdbgaaBwx
namespace Go.Proofs.Ytigdkflknhdbgaa
open Go.RowKit
set_option linter.unusedVariables false

/-- I abides the turn of a block from B on, that is no cells or cells of a type that T does not take in. -/
def OwnT {β : Type} (T : TypeId → Bool) (B : Nat) (I : β → World → Prop) : Prop :=
  ∀ s W W' row, I s W → W.grownBy W' row → (∀ r, row = some r → B ≤ r ∧ ∃ o : Obj, W.heap[r]? = some o ∧ ∀ cs t f, o = .cells cs t f → T t = false) → I s W'
theorem OwnT.putObj {β : Type} {T : TypeId → Bool} {B : Nat} {I : β → World → Prop} (h : OwnT T B I) {s : β} {W : World} {l : Nat} {o : Obj} (o' : Obj) (hs : I s W) (hB : B ≤ l) (hl : W.heap[l]? = some o) (ho : o.isCells = false) : I s (W.putObj l o') :=
  h s W _ (some l) hs (grownBy_putObj' W l o') (fun r e => by cases e; exact ⟨hB, o, hl, fun cs t f e => by subst e; cases ho⟩)
theorem OwnT.alloc {β : Type} {T : TypeId → Bool} {B : Nat} {I : β → World → Prop} (h : OwnT T B I) {s : β} {W : World} (o : Obj) (hs : I s W) : I s (W.alloc o) :=
  h s W _ none hs (World.grownBy_alloc W o none) (fun r e => by cases e)
theorem OwnT.on {β : Type} {T : TypeId → Bool} {B : Nat} {I : β → World → Prop} (h : OwnT T B I) {s : β} {W W' : World} (hs : I s W) (hb : Below W.heap.size W W') : I s W' :=
  h s W _ none hs ⟨hb.os, hb.tape, hb.output, hb.size, fun i hi _ => hb.block i hi⟩ (fun r e => by cases e)
theorem OwnT.set {β : Type} {T : TypeId → Bool} {B : Nat} {I : β → World → Prop} (h : OwnT T B I) {s : β} {W : World} (hs : I s W) {n : Nat} {cs : Array Value} {t : TypeId} (hb : Box W n cs t) (hB : B ≤ n) (ht : T t = false) (j : Nat) (u : Value) : I s (W.setCell ⟨n, j, none⟩ u) :=
  h s W _ (some n) hs ⟨rfl, rfl, rfl, by simp [World.setCell], fun i hi hne => Below.heap_setCell W ⟨n, j, none⟩ u i (fun e => hne (by rw [e]))⟩ (fun r e => by cases e; exact ⟨hB, _, hb, fun cs' t' f e => by cases e; exact ht⟩)
theorem OwnT.row {α β : Type} {L : Lay α} {e : TypeId} {T : TypeId → Bool} {B : Nat} {I : β → World → Prop} (h : OwnT T B I) {s : β} {X Y : World} (hs : I s X) {base : Nat} {v : Value} {l : List α} (ho : OwnX L e X base v l) (ht : T e = false) (hB : B ≤ base) (hg : X.grownBy Y v.ownBlock) : I s Y := by
  refine h s X Y _ hs hg fun j hj => ⟨Nat.le_trans hB (ho.base j hj), ?_⟩
  rcases ho.2 with ⟨rfl, _⟩ | ⟨g, cap, cur, rfl, _, hgb, _⟩
  · cases hj
  · simp only [Value.ownBlock, Option.some.injEq] at hj
    subst hj
    exact ⟨_, hgb, fun cs t f e => by cases e; exact ht⟩

/-- From W to W' nothing below B has turned, and no cells of a type that T takes in; what is new may be anything. -/
structure Tw (T : TypeId → Bool) (B : Nat) (W W' : World) : Prop where
  os : W'.os = W.os
  tape : W'.tape = W.tape
  output : W'.output = W.output
  size : W.heap.size ≤ W'.heap.size
  low : ∀ k, k < W.heap.size → k < B → W'.heap[k]? = W.heap[k]?
  cells : ∀ (k : Nat) (cs : Array Value) (t : TypeId) (f : Nat × Nat), W.heap[k]? = some (.cells cs t f) → T t = true → W'.heap[k]? = some (.cells cs t f)
section
variable {T : TypeId → Bool} {B : Nat}
theorem Tw.refl (T : TypeId → Bool) (B : Nat) (W : World) : Tw T B W W := ⟨rfl, rfl, rfl, Nat.le_refl _, fun _ _ _ => rfl, fun _ _ _ _ h _ => h⟩
theorem Tw.trans {X Y Z : World} (h : Tw T B X Y) (k : Tw T B Y Z) : Tw T B X Z :=
  ⟨k.os.trans h.os, k.tape.trans h.tape, k.output.trans h.output, Nat.le_trans h.size k.size, fun i hi hb => (k.low i (Nat.lt_of_lt_of_le hi h.size) hb).trans (h.low i hi hb), fun i cs t f hi ht => k.cells i cs t f (h.cells i cs t f hi ht) ht⟩
theorem Tw.mono {B' : Nat} {X Y : World} (h : Tw T B X Y) (hB : B' ≤ B) : Tw T B' X Y := ⟨h.os, h.tape, h.output, h.size, fun i hi hb => h.low i hi (Nat.lt_of_lt_of_le hb hB), h.cells⟩
theorem Tw.of_below {X Y : World} (h : Below X.heap.size X Y) : Tw T B X Y := ⟨h.os, h.tape, h.output, h.size, fun i hi _ => h.block i hi, fun i cs t f hi _ => (h.block i (Array.getElem?_eq_some_iff.1 hi).1).trans hi⟩
theorem Tw.below {n : Nat} {X Y : World} (h : Tw T B X Y) (hn : n ≤ B) (hX : n ≤ X.heap.size) : Below n X Y := (Below.refl n X).trans ⟨h.os, h.tape, h.output, h.size, fun i hi => h.low i (by omega) (by omega)⟩
/-- A further block is turned: new, or not of those types. -/
theorem Tw.grown {X Y Z : World} {row : Option Nat} (h : Tw T B X Y) (hg : Y.grownBy Z row) (hr : ∀ r, row = some r → X.heap.size ≤ r ∨ (B ≤ r ∧ ∃ o : Obj, Y.heap[r]? = some o ∧ ∀ cs t f, o = .cells cs t f → T t = false)) : Tw T B X Z := by
  refine ⟨hg.os.trans h.os, hg.tape.trans h.tape, hg.output.trans h.output, Nat.le_trans h.size hg.size, fun i hi hb => (hg.block i (Nat.lt_of_lt_of_le hi h.size) fun e => ?_).trans (h.low i hi hb), fun i cs t f hi ht => (hg.block i ?_ fun e => ?_).trans (h.cells i cs t f hi ht)⟩
  · rcases hr i e.symm with h1 | ⟨h1, _⟩ <;> omega
  · exact Nat.lt_of_lt_of_le (Array.getElem?_eq_some_iff.1 hi).1 h.size
  · rcases hr i e.symm with h1 | ⟨_, o, ho, h2⟩
    · have := (Array.getElem?_eq_some_iff.1 hi).1
      omega
    · rw [h.cells i cs t f hi ht] at ho
      cases ho
      rw [h2 cs t f rfl] at ht
      cases ht
theorem ownT_tw {β : Type} (X : World) : OwnT T B (fun (_ : β) W => Tw T B X W) := fun _ _ _ _ h hg hr => h.grown hg fun r e => .inr (hr r e)
theorem OwnT.and {β : Type} {I K : β → World → Prop} (h : OwnT T B I) (k : OwnT T B K) : OwnT T B (fun s W => I s W ∧ K s W) := fun s X Y row hs hg hr => ⟨h s X Y row hs.1 hg hr, k s X Y row hs.2 hg hr⟩
theorem OwnT.box {β : Type} {t : TypeId} (ht : T t = true) (n : Nat) (cs : Array Value) : OwnT T B (fun (_ : β) W => Box W n cs t) := fun s X Y row hs hg hr => hs.keep hg fun e => by
  obtain ⟨_, o, ho, h2⟩ := hr n e.symm
  rw [show X.heap[n]? = _ from hs] at ho
  cases ho
  rw [h2 _ _ _ rfl] at ht
  cases ht
theorem Tw.own {X Y : World} (h : Tw T B X Y) {α : Type} {L : Lay α} {e : TypeId} {base : Nat} {v : Value} {l : List α} (ho : OwnX L e X base v l) (ht : T e = true) : OwnX L e Y base v l := by
  refine ⟨ho.1, ?_⟩
  rcases ho.2 with h2 | ⟨g, cap, cur, e1, hg, hc, h3⟩
  · exact .inl h2
  · exact .inr ⟨g, cap, cur, e1, hg, h.cells g _ _ _ hc ht, h3⟩
end
/-- I abides what an iterator turns: nothing below B, no cells of the types T. -/
def OwnW {β : Type} (T : TypeId → Bool) (B : Nat) (I : β → World → Prop) : Prop := ∀ s W W', I s W → Tw T B W W' → I s W'
theorem OwnW.putObj {β : Type} {T : TypeId → Bool} {B : Nat} {I : β → World → Prop} (h : OwnW T B I) {s : β} {W : World} {l : Nat} {o : Obj} (o' : Obj) (hs : I s W) (hB : B ≤ l) (hl : W.heap[l]? = some o) (ho : o.isCells = false) : I s (W.putObj l o') :=
  h s W _ hs ((Tw.refl T B W).grown (grownBy_putObj' W l o') fun r e => by cases e; exact .inr ⟨hB, o, hl, fun cs t f e => by subst e; cases ho⟩)
theorem OwnW.alloc {β : Type} {T : TypeId → Bool} {B : Nat} {I : β → World → Prop} (h : OwnW T B I) {s : β} {W : World} (o : Obj) (hs : I s W) : I s (W.alloc o) :=
  h s W _ hs (Tw.of_below (alloc_below W o))

/-- What a round leaves alone: what lies below n₀, and the blocks Kp; all cells of types that T does not take in; what is no cells, from B on. -/
structure Kr (T : TypeId → Bool) (Kp : Nat → Prop) (n₀ B : Nat) (W W' : World) : Prop where
  below : Below n₀ W W'
  cells : ∀ (k : Nat) (cs : Array Value) (t : TypeId) (f : Nat × Nat), W.heap[k]? = some (.cells cs t f) → T t = false → W'.heap[k]? = some (.cells cs t f)
  kept : ∀ (k : Nat), Kp k → k < W.heap.size → W'.heap[k]? = W.heap[k]?
  others : ∀ (k : Nat) (o : Obj), B ≤ k → W.heap[k]? = some o → o.isCells = false → W'.heap[k]? = some o
section
variable {T : TypeId → Bool} {Kp : Nat → Prop} {n₀ B : Nat}
theorem Kr.size {W W' : World} (h : Kr T Kp n₀ B W W') : W.heap.size ≤ W'.heap.size := h.below.size
theorem Kr.refl (T : TypeId → Bool) (Kp : Nat → Prop) (n₀ B : Nat) (W : World) : Kr T Kp n₀ B W W := ⟨Below.refl _ _, fun _ _ _ _ h _ => h, fun _ _ _ => rfl, fun _ _ _ h _ => h⟩
theorem Kr.trans {X Y Z : World} (h : Kr T Kp n₀ B X Y) (k : Kr T Kp n₀ B Y Z) : Kr T Kp n₀ B X Z :=
  ⟨h.below.trans k.below, fun i cs t f hi ht => k.cells i cs t f (h.cells i cs t f hi ht) ht, fun i hi hs => (k.kept i hi (Nat.lt_of_lt_of_le hs h.size)).trans (h.kept i hi hs), fun i o hB hi ho => k.others i o hB (h.others i o hB hi ho) ho⟩
theorem Kr.mono {B' : Nat} {X Y : World} (h : Kr T Kp n₀ B X Y) (hB : B ≤ B') : Kr T Kp n₀ B' X Y := ⟨h.below, h.cells, h.kept, fun i o hb => h.others i o (Nat.le_trans hB hb)⟩
/-- What lays new blocks alone. -/
theorem Kr.of_below {X Y : World} (h : Below X.heap.size X Y) (hn : n₀ ≤ X.heap.size) : Kr T Kp n₀ B X Y :=
  ⟨h.mono hn, fun i cs t f hi _ => (h.block i (Array.getElem?_eq_some_iff.1 hi).1).trans hi, fun i _ hs => h.block i hs, fun i o _ hi _ => (h.block i (Array.getElem?_eq_some_iff.1 hi).1).trans hi⟩
theorem Kr.alloc {X Y : World} (h : Kr T Kp n₀ B X Y) (hn : n₀ ≤ X.heap.size) (o : Obj) : Kr T Kp n₀ B X (Y.alloc o) :=
  h.trans (Kr.of_below ((Below.refl _ Y).alloc (Nat.le_refl _) o) (Nat.le_trans hn h.size))
theorem Kr.drewN {X Y : World} (h : Kr T Kp n₀ B X Y) (q : Nat) : Kr T Kp n₀ B X (Y.drewN q) := ⟨h.below.drewN q, h.cells, h.kept, h.others⟩
theorem Kr.drew {X Y : World} (h : Kr T Kp n₀ B X Y) : Kr T Kp n₀ B X Y.drew := ⟨h.below.drewN 1, h.cells, h.kept, h.others⟩
/-- One block of cells is turned, of a type that T takes in. -/
theorem Kr.of_grown {X Y : World} {row : Option Nat} (hg : X.grownBy Y row) (hn : n₀ ≤ X.heap.size) (hr : ∀ j, row = some j → n₀ ≤ j ∧ ¬ Kp j ∧ ∀ (o : Obj), X.heap[j]? = some o → ∃ cs t f, o = .cells cs t f ∧ T t = true) : Kr T Kp n₀ B X Y := by
  have key : ∀ (k : Nat) (o : Obj), X.heap[k]? = some o → (∀ cs t f, o = .cells cs t f → T t = false) → Y.heap[k]? = some o := fun k o hk ho => by
    refine (hg.block k (Array.getElem?_eq_some_iff.1 hk).1 fun e => ?_).trans hk
    obtain ⟨cs, t, f, rfl, ht⟩ := (hr k e.symm).2.2 o hk
    rw [ho cs t f rfl] at ht
    cases ht
  refine ⟨(Below.refl n₀ X).grown hg hn (fun j e => (hr j e).1), fun i cs t f hi ht => key i _ hi (fun cs' t' f' e => by cases e; exact ht), fun i hi hs => hg.block i hs fun e => (hr i e.symm).2.1 hi, fun i o _ hi ho => key i o hi (fun cs t f e => by rw [e] at ho; cases ho)⟩
/-- One block that is no cells is turned, below B. -/
theorem Kr.putObj {X : World} {l : Nat} {o : Obj} (o' : Obj) (hl : X.heap[l]? = some o) (ho : o.isCells = false) (hn : n₀ ≤ l) (hK : ¬ Kp l) (hB : l < B) : Kr T Kp n₀ B X (X.putObj l o') := by
  have hlt := (Array.getElem?_eq_some_iff.1 hl).1
  refine ⟨(Below.refl n₀ X).grown (grownBy_putObj' X l o') (by omega) (fun k e => by cases e; exact hn), fun i cs t f hi ht => ?_, fun i hi hs => World.putObj_heap_other fun e => hK (by subst e; exact hi), fun i p hb hi hp => (World.putObj_heap_other (by omega)).trans hi⟩
  refine (World.putObj_heap_other fun e => ?_).trans hi
  subst e
  rw [hl] at hi
  cases hi
  cases ho
theorem Kr.box {X Y : World} (h : Kr T Kp n₀ B X Y) {n : Nat} {cs : Array Value} {t : TypeId} (hb : Box X n cs t) (ht : T t = false) : Box Y n cs t := h.cells n cs t _ hb ht
theorem Kr.own {X Y : World} (h : Kr T Kp n₀ B X Y) {α : Type} {L : Lay α} {e : TypeId} {base : Nat} {v : Value} {l : List α} (ho : OwnX L e X base v l) (ht : T e = false) : OwnX L e Y base v l := by
  refine ⟨ho.1, ?_⟩
  rcases ho.2 with h2 | ⟨g, cap, cur, e1, hg, hc, h3⟩
  · exact .inl h2
  · exact .inr ⟨g, cap, cur, e1, hg, h.cells g _ _ _ hc ht, h3⟩
theorem kr_row {α : Type} {L : Lay α} {e : TypeId} {X Y : World} {base : Nat} {v : Value} {l : List α} (h : OwnX L e X base v l) (ht : T e = true) (hn : n₀ ≤ base) (hK : ∀ k, Kp k → k < base) (hX : n₀ ≤ X.heap.size) (hg : X.grownBy Y v.ownBlock) : Kr T Kp n₀ B X Y := by
  refine Kr.of_grown hg hX fun j hj => ⟨Nat.le_trans hn (h.base j hj), fun hk => ?_, fun o ho => ?_⟩
  · have h1 := h.base j hj
    have h2 := hK j hk
    omega
  rcases h.2 with ⟨rfl, _⟩ | ⟨g, cap, cur, rfl, _, hgb, _⟩
  · cases hj
  · simp only [Value.ownBlock, Option.some.injEq] at hj
    subst hj
    rw [hgb] at ho
    cases ho
    exact ⟨_, _, _, rfl, ht⟩
end

/-- An iterator: whatever loop l of whatever caller, whose rounds turn what Kr lets. Z: may a round say 'no more'? -/
def Tells10 {α : Type} (P : Program) (Z : Prop) (T : TypeId → Bool) (Kp : Nat → Prop) (n₀ : Nat) (g : Nat) (lb : Array Value) (encs : α → Array Value) (S Sp : List α → Prop) (N : Nat) (w : World) : Prop :=
  ∀ (l : Nat) (J Jx : List α → World → Prop) (W : World), Below w.heap.size w W → OwnW T W.heap.size J → OwnW T W.heap.size Jx →
    (∀ (pre : List α) (x : α) (W1 : World), J pre W1 → Sp (pre ++ [x]) → pre.length < N → W.heap.size ≤ W1.heap.size → YieldAt Fence.wide 0 P l (encs x) W1 fun e W' =>
      ((e = .returned (.bool true) ∧ J (pre ++ [x]) W') ∨ (Z ∧ e = .returned (.bool false) ∧ Jx (pre ++ [x]) W')) ∧ Kr T Kp n₀ W.heap.size W1 W') →
    J [] W →
    Calls P g (#[.func (.yield l) #[] #[]] ++ lb) W fun e W' => (∃ v, e = .returned v) ∧ ((∃ xs, S xs ∧ J xs W') ∨ (∃ pre, Sp pre ∧ Jx pre W'))

/-- How a round's body may be left. -/
def tellPost2 {α : Type} (Z : Prop) (T : TypeId → Bool) (Kp : Nat → Prop) (n₀ B : Nat) (I : List α → World → Prop) (Ix : Code → List α → World → Prop) (xs : List α) (W : World) : Exit → Act → World → Prop
  | .normal, _, W' => Kr T Kp n₀ B W W' ∧ I xs W'
  | .ret, _, W' => Z ∧ Kr T Kp n₀ B W W' ∧ Ix .ret xs W'
  | .exit id, _, W' => Z ∧ Kr T Kp n₀ B W W' ∧ Ix (.exit id) xs W'
  | .goto t, _, W' => Z ∧ Kr T Kp n₀ B W W' ∧ Ix (.goto t) xs W'
  | .panic _, _, _ => False
  | .outgrown, _, _ => False

theorem Book.kept2 {T : TypeId → Bool} {Kp : Nat → Prop} {n₀ n : Nat} {r : Loop} {W W' : World} (h : Book n r W) (hk : Kr T Kp n₀ n W W') : Book n r W' := ⟨hk.others _ _ (by omega) h.1 rfl, hk.others _ _ (Nat.le_refl _) h.2 rfl⟩

section
variable {α : Type} {P : Program} {Z : Prop} {T : TypeId → Bool} {Kp : Nat → Prop} {n₀ N n : Nat} {S Sp : List α → Prop} {encs : α → Array Value} {w0 : World}

/-- The rounds of a loop, as its iterator meets them. -/
theorem tell_round2 {ps : Array Tmp} {assign body : Code} {a : Act} {w : World} {fn : FuncId} {r : Loop} (hr1 : r.state = .ready) (hr2 : ps = r.params) (hr3 : r.tmps = a.tmps) (hr4 : assign = r.assign) (hr5 : body = r.body) (hrp : r.pending = none) (hps : ∀ x, (encs x).size = ps.size) (hn : n₀ ≤ w.heap.size) (hKp : ∀ k, Kp k → k < w.heap.size)
    {I : List α → World → Prop} {Ix : Code → List α → World → Prop} (hI : OwnW T w.heap.size I) (hIx : ∀ c, OwnW T w.heap.size (Ix c)) {Ax : α → Act → World → Prop} (hAx : ∀ x a', OwnW T w.heap.size (fun (_ : Unit) W => Ax x a' W))
    (hassign : ∀ (l : Nat) (pre : List α) (x : α) (W : World) (K : Act → World → Prop), w.heap.size < W.heap.size → I pre W → (∀ a' W', Kr T Kp n₀ w.heap.size W W' → I pre W' → Ax x a' W' → K a' W') →
      assign.wpIn (Fence.wide.inRound l) 0 P (Exit.then K (fun _ _ _ => False)) { tmps := (ps.zip (encs x)).foldl (fun t (p, v) => t.setIfInBounds p v) a.tmps, defers := [] } W)
    (hbody : ∀ (l : Nat) (pre : List α) (x : α) (a' : Act) (W : World), w.heap.size < W.heap.size → I pre W → Sp (pre ++ [x]) → Ax x a' W → pre.length < N → body.wpIn (Fence.wide.inRound l) 0 P (tellPost2 Z T Kp n₀ w.heap.size I Ix (pre ++ [x]) W) a' W)
    {pre : List α} {x : α} {W : World} (hi : I pre W) (hsp : Sp (pre ++ [x])) (hb : Book w.heap.size r W) (hlen : pre.length < N) :
    YieldAt Fence.wide 0 P (w.heap.size + 1) (encs x) W fun e W' =>
      ((e = .returned (.bool true) ∧ I (pre ++ [x]) W' ∧ Book w.heap.size r W') ∨ (Z ∧ e = .returned (.bool false) ∧ ∃ c, Ix c (pre ++ [x]) W' ∧ Book w.heap.size { r with state := .done, pending := some c } W')) ∧ Kr T Kp n₀ (w.heap.size + 2) W W' := by
  subst hr2 hr4 hr5
  have hy := run_yield (P := P) (args := encs x) hb.1 (hps x)
  rw [hr3] at hy
  refine ⟨r.fn, _, _, _, hy, roundIn_of_wpIn trivial ?_⟩
  refine hassign _ pre x W _ (by have := hb.lt; omega) hi fun a' Wa ka ia xa => ?_
  have ba := hb.kept2 ka
  refine ⟨_, run_beginRound ba.1 hr1, ?_⟩
  have la := ba.lt
  have kb : Kr T Kp n₀ (w.heap.size + 2) Wa (Wa.putObj (w.heap.size + 1) (.loop { r with state := .busy })) := Kr.putObj _ ba.1 rfl (by omega) (fun h => by have := hKp _ h; omega) (by omega)
  refine wpIn_mono (hbody _ pre x a' _ (by rw [World.putObj_size]; omega) (hI.putObj _ ia (by omega) ba.1 rfl) hsp ((hAx x a').putObj (s := ()) _ xa (by omega) ba.1 rfl) hlen) ?_
  have fin : ∀ (jump : Option Code) (W3 : World), Kr T Kp n₀ w.heap.size (Wa.putObj (w.heap.size + 1) (.loop { r with state := .busy })) W3 →
      (Instr.endRound (w.heap.size + 1) jump).run P W3 = .ok (.bool jump.isNone) (W3.putObj (w.heap.size + 1) (.loop { r with state := if jump.isNone then .ready else .done, pending := jump })) ∧
      Book w.heap.size { r with state := if jump.isNone then .ready else .done, pending := jump } (W3.putObj (w.heap.size + 1) (.loop { r with state := if jump.isNone then .ready else .done, pending := jump })) ∧
      Kr T Kp n₀ (w.heap.size + 2) W (W3.putObj (w.heap.size + 1) (.loop { r with state := if jump.isNone then .ready else .done, pending := jump })) ∧ W3.heap[w.heap.size + 1]? = some (.loop { r with state := .busy }) := fun jump W3 k3 => by
    have b3 := (ba.put { r with state := .busy }).kept2 k3
    have e := run_endRound (P := P) jump b3.1
    exact ⟨e, b3.put _, (((ka.mono (by omega)).trans kb).trans (k3.mono (by omega))).trans (Kr.putObj _ b3.1 rfl (by omega) (fun h => by have := hKp _ h; omega) (by omega)), b3.1⟩
  have same : { r with state := if (none : Option Code).isNone then LoopState.ready else LoopState.done, pending := none } = r := by
    cases r; simp only at hr1 hrp; subst hr1 hrp; rfl
  rintro e a3 W3 hp
  cases e with
  | normal =>
    obtain ⟨k3, i3⟩ := hp
    obtain ⟨h1, h2, h3, h4⟩ := fin none W3 k3
    rw [same] at h1 h2 h3
    exact ⟨_, _, h1, .inl ⟨rfl, hI.putObj _ i3 (by omega) h4 rfl, h2⟩, h3⟩
  | ret =>
    obtain ⟨hz, k3, i3⟩ := hp
    obtain ⟨h1, h2, h3, h4⟩ := fin (some .ret) W3 k3
    exact ⟨_, _, h1, .inr ⟨hz, rfl, .ret, (hIx _).putObj _ i3 (by omega) h4 rfl, h2⟩, h3⟩
  | exit id =>
    obtain ⟨hz, k3, i3⟩ := hp
    obtain ⟨h1, h2, h3, h4⟩ := fin (some (.exit id)) W3 k3
    exact ⟨_, _, h1, .inr ⟨hz, rfl, .exit id, (hIx _).putObj _ i3 (by omega) h4 rfl, h2⟩, h3⟩
  | goto t =>
    obtain ⟨hz, k3, i3⟩ := hp
    obtain ⟨h1, h2, h3, h4⟩ := fin (some (.goto t)) W3 k3
    exact ⟨_, _, h1, .inr ⟨hz, rfl, .goto t, (hIx _).putObj _ i3 (by omega) h4 rfl, h2⟩, h3⟩
  | panic ch => exact hp.elim
  | outgrown => exact hp.elim

/-- The loop over such an iterator, outside of another one's rounds. -/
theorem wpIn_rangeTell2 {g : Operand} {ps : Array Tmp} {assign body : Code} {Q : Exit → Act → World → Prop} {a : Act} {w : World} {gf : Nat} {lb : Array Value}
    (hg : a.eval g = .func (.func gf) #[] lb) (eg : ∀ args w, (callFunc gf args).run P w = .ok (.enter gf args) w) (hseq : Tells10 P Z T Kp n₀ gf lb encs S Sp N w0) (hn : n₀ ≤ w.heap.size) (hKp : ∀ k, Kp k → k < w.heap.size) (hb0 : Below w0.heap.size w0 w) (hps : ∀ x, (encs x).size = ps.size)
    (I : List α → World → Prop) (Ix : Code → List α → World → Prop) (hI : OwnW T w.heap.size I) (hIx : ∀ c, OwnW T w.heap.size (Ix c)) (h0 : I [] w) (Ax : α → Act → World → Prop) (hAx : ∀ x a', OwnW T w.heap.size (fun (_ : Unit) W => Ax x a' W))
    (hassign : ∀ (l : Nat) (pre : List α) (x : α) (W : World) (K : Act → World → Prop), w.heap.size < W.heap.size → I pre W → (∀ a' W', Kr T Kp n₀ w.heap.size W W' → I pre W' → Ax x a' W' → K a' W') →
      assign.wpIn (Fence.wide.inRound l) 0 P (Exit.then K (fun _ _ _ => False)) { tmps := (ps.zip (encs x)).foldl (fun t (p, v) => t.setIfInBounds p v) a.tmps, defers := [] } W)
    (hbody : ∀ (l : Nat) (pre : List α) (x : α) (a' : Act) (W : World), w.heap.size < W.heap.size → I pre W → Sp (pre ++ [x]) → Ax x a' W → pre.length < N → body.wpIn (Fence.wide.inRound l) 0 P (tellPost2 Z T Kp n₀ w.heap.size I Ix (pre ++ [x]) W) a' W)
    (hdone : ∀ (D : Nat) (xs : List α) (W : World), w.heap.size ≤ D → S xs → I xs W → W.heap[D]? = some (.deferred (some [])) → Q .normal { a with defers := { target := .collected D, args := #[] } :: a.defers } W)
    (hstop : ∀ (D : Nat) (c : Code) (pre : List α) (W : World), w.heap.size ≤ D → Sp pre → Ix c pre W → W.heap[D]? = some (.deferred (some [])) → c.wpIn Fence.wide n P Q { a with defers := { target := .collected D, args := #[] } :: a.defers } W) :
    (Code.rangeFunc g ps assign body).wpIn Fence.wide n P Q a w := by
  refine wpIn_rangeFunc fun fn hfn => ?_
  obtain ⟨r, hr⟩ : ∃ r : Loop, r = { state := .ready, pending := none, fn, tmps := a.tmps, params := ps, assign, body, defers := w.heap.size } := ⟨_, rfl⟩
  obtain ⟨W1, hW1⟩ : ∃ W1, (w.alloc (.deferred (some []))).alloc (.loop r) = W1 := ⟨_, rfl⟩
  have hs1 : W1.heap.size = w.heap.size + 2 := by rw [← hW1]; simp
  have bk : Book w.heap.size r W1 := by
    rw [← hW1]
    refine ⟨?_, (Below.heap_alloc _ _ _ (by simp)).trans (World.alloc_heap_new w _)⟩
    have := World.alloc_heap_new (w.alloc (.deferred (some []))) (.loop r)
    rwa [World.size_alloc] at this
  have i1 : I [] W1 := by rw [← hW1]; exact hI.alloc _ (hI.alloc _ h0)
  have b1 : Below w0.heap.size w0 W1 := by
    rw [← hW1]; exact hb0.trans ((((Below.refl _ w).alloc (Nat.le_refl _) _).alloc (by simp) _).mono hb0.size)
  refine ⟨w.heap.size + 1, [{ target := .collected w.heap.size, args := #[] }], W1, { target := .fn (.func gf) lb, args := #[.func (.yield (w.heap.size + 1)) #[] #[]] }, W1, gf,
    #[.func (.yield (w.heap.size + 1)) #[] #[]] ++ lb, W1, ?_, ?_, fun _ _ => trivial, ?_, (fun h => by cases h), callsIn_wide.2 ?_⟩
  · rw [← hW1, hr]; exact run_enterLoop_outer _ _ _ _ _
  · simp only [resolve, hg]
    simp [go_sem]
  · simp [invoke, go_sem, eg]
  have own : ∀ (r' : Loop) (K : List α → World → Prop), OwnW T w.heap.size K → OwnW T W1.heap.size (fun pre W => K pre W ∧ Book w.heap.size r' W) := fun r' K hK s X Y hs htw =>
    ⟨hK s X Y hs.1 (htw.mono (by omega)), (htw.low _ (by have := hs.2.lt; omega) (by omega)).trans hs.2.1, (htw.low _ (by have := hs.2.lt; omega) (by omega)).trans hs.2.2⟩
  refine Calls.mono (hseq (w.heap.size + 1) (fun pre W => I pre W ∧ Book w.heap.size r W) (fun pre W => ∃ c, Ix c pre W ∧ Book w.heap.size { r with state := .done, pending := some c } W) W1 b1 (own r I hI)
    (fun s X Y hs htw => by obtain ⟨c, hc⟩ := hs; exact ⟨c, own _ (Ix c) (hIx c) s X Y hc htw⟩) ?_ ⟨i1, bk⟩) ?_
  · rintro pre x W ⟨hi, hb⟩ hsp hlen _
    rw [hs1]
    have := tell_round2 (P := P) (T := T) (Kp := Kp) (n₀ := n₀) (N := N) (encs := encs) (ps := ps) (assign := assign) (body := body) (a := a) (w := w) (fn := fn) (r := r) (by rw [hr]) (by rw [hr]) (by rw [hr]) (by rw [hr]) (by rw [hr]) (by rw [hr]) hps hn hKp hI hIx hAx hassign hbody hi hsp hb hlen (x := x)
    obtain ⟨f1, f2, f3, f4, f5, f6⟩ := this
    exact ⟨f1, f2, f3, f4, f5, RoundIn.mono f6 fun e w' h => h⟩
  · rintro e W2 ⟨⟨v, rfl⟩, (⟨xs, hS, hi, hb⟩ | ⟨pre, hSp, c, hi, hb⟩)⟩
    · have he := run_endLoop (P := P) hb.1 (by rw [hr]; simp)
      rw [show r.pending = none from by rw [hr]] at he
      exact ⟨none, _, he, hdone _ xs _ (Nat.le_refl _) hS (hI.putObj _ hi (by omega) hb.1 rfl) ((World.putObj_heap_other (by omega)).trans hb.2)⟩
    · have he := run_endLoop (P := P) hb.1 (by simp)
      exact ⟨some c, _, he, hstop _ c pre _ (Nat.le_refl _) hSp ((hIx c).putObj _ hi (by omega) hb.1 rfl) ((World.putObj_heap_other (by omega)).trans hb.2)⟩
end
end Go.Proofs.Ytigdkflknhdbgaa
