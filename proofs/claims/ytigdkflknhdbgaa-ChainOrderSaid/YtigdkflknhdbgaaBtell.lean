/- Program-free: a range over a function whose iterator may itself range over functions, between two of its rounds: what a round may turn is told by the cells' types. -/
import Derived.Test.YtigdkflknhdbgaaBA
import Derived.Test.YtigdkflknhdbgaaBE
import Derived.RangeFuncNested
import Derived.RangeFuncCalls
import Derived.RangeFuncBox
import Derived.Below
import Derived.Deep.Draws
import Derived.Deep.QuietTactic
namespace Go.Proofs.Ytigdkflknhdbgaa
open Go.RowKit
set_option linter.unusedVariables false

/-- What a round leaves alone: what lies below n₀; all cells of types that T does not take in; what is no cells, from B on. -/
structure Kq (T : TypeId → Bool) (n₀ B : Nat) (W W' : World) : Prop where
  below : Below n₀ W W'
  cells : ∀ (k : Nat) (cs : Array Value) (t : TypeId) (f : Nat × Nat), W.heap[k]? = some (.cells cs t f) → T t = false → W'.heap[k]? = some (.cells cs t f)
  others : ∀ (k : Nat) (o : Obj), B ≤ k → W.heap[k]? = some o → o.isCells = false → W'.heap[k]? = some o
section
variable {T : TypeId → Bool} {n₀ B : Nat}
theorem Kq.size {W W' : World} (h : Kq T n₀ B W W') : W.heap.size ≤ W'.heap.size := h.below.size
theorem Kq.refl (T : TypeId → Bool) (n₀ B : Nat) (W : World) : Kq T n₀ B W W := ⟨Below.refl _ _, fun _ _ _ _ h _ => h, fun _ _ _ h _ => h⟩
theorem Kq.trans {X Y Z : World} (h : Kq T n₀ B X Y) (k : Kq T n₀ B Y Z) : Kq T n₀ B X Z :=
  ⟨h.below.trans k.below, fun i cs t f hi ht => k.cells i cs t f (h.cells i cs t f hi ht) ht, fun i o hB hi ho => k.others i o hB (h.others i o hB hi ho) ho⟩
theorem Kq.mono {B' : Nat} {X Y : World} (h : Kq T n₀ B X Y) (hB : B ≤ B') : Kq T n₀ B' X Y := ⟨h.below, h.cells, fun i o hb => h.others i o (Nat.le_trans hB hb)⟩
/-- What lays new blocks alone. -/
theorem Kq.of_below {X Y : World} (h : Below X.heap.size X Y) (hn : n₀ ≤ X.heap.size) : Kq T n₀ B X Y :=
  ⟨h.mono hn, fun i cs t f hi _ => (h.block i (Array.getElem?_eq_some_iff.1 hi).1).trans hi, fun i o _ hi _ => (h.block i (Array.getElem?_eq_some_iff.1 hi).1).trans hi⟩
theorem Kq.alloc {X Y : World} (h : Kq T n₀ B X Y) (hn : n₀ ≤ X.heap.size) (o : Obj) : Kq T n₀ B X (Y.alloc o) :=
  h.trans (Kq.of_below ((Below.refl _ Y).alloc (Nat.le_refl _) o) (Nat.le_trans hn h.size))
theorem Kq.drewN {X Y : World} (h : Kq T n₀ B X Y) (q : Nat) : Kq T n₀ B X (Y.drewN q) := ⟨h.below.drewN q, h.cells, h.others⟩
theorem Kq.drew {X Y : World} (h : Kq T n₀ B X Y) : Kq T n₀ B X Y.drew := ⟨h.below.drewN 1, h.cells, h.others⟩
/-- One block of cells is turned, of a type that T takes in. -/
theorem Kq.of_grown {X Y : World} {row : Option Nat} (hg : X.grownBy Y row) (hn : n₀ ≤ X.heap.size) (hr : ∀ j, row = some j → n₀ ≤ j ∧ ∀ (o : Obj), X.heap[j]? = some o → ∃ cs t f, o = .cells cs t f ∧ T t = true) : Kq T n₀ B X Y := by
  have key : ∀ (k : Nat) (o : Obj), X.heap[k]? = some o → (∀ cs t f, o = .cells cs t f → T t = false) → Y.heap[k]? = some o := fun k o hk ho => by
    refine (hg.block k (Array.getElem?_eq_some_iff.1 hk).1 fun e => ?_).trans hk
    obtain ⟨cs, t, f, rfl, ht⟩ := (hr k e.symm).2 o hk
    rw [ho cs t f rfl] at ht
    cases ht
  refine ⟨(Below.refl n₀ X).grown hg hn (fun j e => (hr j e).1), fun i cs t f hi ht => key i _ hi (fun cs' t' f' e => by cases e; exact ht), fun i o _ hi ho => key i o hi (fun cs t f e => by rw [e] at ho; cases ho)⟩
/-- One block that is no cells is turned, below B. -/
theorem Kq.putObj {X : World} {l : Nat} {o : Obj} (o' : Obj) (hl : X.heap[l]? = some o) (ho : o.isCells = false) (hn : n₀ ≤ l) (hB : l < B) : Kq T n₀ B X (X.putObj l o') := by
  have hlt := (Array.getElem?_eq_some_iff.1 hl).1
  refine ⟨(Below.refl n₀ X).grown (grownBy_putObj' X l o') (by omega) (fun k e => by cases e; exact hn), fun i cs t f hi ht => ?_, fun i p hb hi hp => (World.putObj_heap_other (by omega)).trans hi⟩
  refine (World.putObj_heap_other fun e => ?_).trans hi
  subst e
  rw [hl] at hi
  cases hi
  cases ho
theorem Kq.box {X Y : World} (h : Kq T n₀ B X Y) {b : Nat} {t : TypeId} {v : Value} (hb : Boxed X b t v) (ht : T t = false) : Boxed Y b t v := h.cells b _ t _ hb ht
end

theorem round_any {m : Nat} (m' l' : Nat) {P : Program} {l : Nat} {f : FuncId} {tmps : Array Value} {assign body : Code} {w : World} {R : Ending → World → Prop} (h : RoundIn Fence.wide m P l f tmps assign body w R) : RoundIn (Fence.wide.inRound l') m' P l f tmps assign body w R :=
  ⟨h.1, fun c cs _ => h.2 c cs (room_wide _)⟩
theorem round_wide {m : Nat} (m' : Nat) {P : Program} {l : Nat} {f : FuncId} {tmps : Array Value} {assign body : Code} {w : World} {R : Ending → World → Prop} (h : RoundIn Fence.wide m P l f tmps assign body w R) : RoundIn Fence.wide m' P l f tmps assign body w R :=
  ⟨h.1, fun c cs _ => h.2 c cs (room_wide _)⟩
/-- A call of yield in a region whose order is open, when nothing else can come up. -/
theorem regj_round {F : Fence} {n : Nat} {P : Program} {ops : Array Oper} {Q : Exit → Act → World → Prop} (E : Easy F n P) {B : List Nat} {I I' : World → Prop} (hII : ∀ W, I' W → I W) {w : World} (i d : Nat) {fuel : Nat} {listed : Array Bool} {T : Array Value} {ds : List Deferred} (hd : noDefer ops = true) (hr : Region.ready .any ops listed = [i])
    (l : Nat) (f : FuncId) (tmps : Array Value) (assign body : Code) (hstep : ∀ o, ops[i]? = some o → o.dst = some d ∧ Region.wanted o (yielded ops T) = true ∧ (execOp (Act.mk T ds).eval o).run P w = .ok (.round l f tmps assign body) w)
    (h : RoundIn F (n - 1) P l f tmps assign body w fun e w' => ∃ v T', e = .returned v ∧ (B.contains i = true ∨ I' w') ∧ T.setIfInBounds d v = T' ∧ anyJ F n P ops Q B I' fuel (listed.setIfInBounds i true) ⟨T', ds⟩ w') :
    anyJ F n P ops Q B I (fuel + 1) listed ⟨T, ds⟩ w := by
  refine ⟨(fun h0 => by rw [hr] at h0; cases h0), fun j hj => ?_⟩
  have hmem : i ∈ Region.ready .any ops listed := by rw [hr]; simp
  rw [hr] at hj
  simp only [List.mem_singleton] at hj
  subst hj
  obtain ⟨_, o, ho, _⟩ := mem_ready.1 hmem
  obtain ⟨h1, h2, h3⟩ := hstep o ho
  unfold wpOpIn
  simp only [ho, h2, if_true]
  unfold Oper.wpIn
  refine ⟨fun f _ => E.fn f, ?_⟩
  rw [noDefer_spec hd ho, h3, Oper.uponIn_round]
  refine ⟨fun hx => (by rw [E.depth] at hx; cases hx), RoundIn.mono h fun e w' he => ?_⟩
  obtain ⟨v, T', rfl, hl, rfl, hk⟩ := he
  simp only [h1]
  exact ⟨hl.imp id (hII _), anyJ_mono hII _ _ _ _ hk⟩

/-- An operation that its guard passes over. -/
theorem regj_skip {F : Fence} {n : Nat} {P : Program} {ops : Array Oper} {Q : Exit → Act → World → Prop} (E : Easy F n P) {B : List Nat} {I : World → Prop} {w : World} (i d : Nat) {fuel : Nat} {listed : Array Bool} {T T' : Array Value} {ds : List Deferred} (hI : I w) (hd : noDefer ops = true) (hB : waits ops B i = true)
    (hs : Region.noSelect ops = true) (hf : Region.free .any ops listed i = true) (hr : (Region.ready .any ops listed).contains i = true)
    (hQ : ∀ c a w, Q (.panic c) (a.put (some d) undef) w → Q (.panic c) a w)
    (hstep : ∀ o, ops[i]? = some o → o.dst = some d ∧ Region.wanted o (yielded ops T) = false)
    (hT : T.setIfInBounds d undef = T') (h : anyJ F n P ops Q B I fuel (listed.setIfInBounds i true) ⟨T', ds⟩ w) : anyJ F n P ops Q B I (fuel + 1) listed ⟨T, ds⟩ w := by
  have hi : ∃ o, ops[i]? = some o := by
    simp only [List.contains_iff_mem] at hr
    obtain ⟨_, o, ho, _⟩ := mem_ready.1 hr
    exact ⟨o, ho⟩
  obtain ⟨o, ho⟩ := hi
  obtain ⟨h1, h2⟩ := hstep o ho
  subst hT
  exact anyJ_first E hd ho (Region.noSelect_spec hs) hB (by rw [h1]; exact hQ) fuel listed _ w hI (Region.free_spec ho hf) (by simpa using hr) (.inr ⟨h2, rfl⟩) (by rw [h1]; exact h)

/-- A region that can't but end normally. -/
theorem region_normal {F : Fence} {n : Nat} {P : Program} {id : Nat} {ops : Array Oper} {m : Bool} {K : Act → World → Prop} {Q' : Exit → Act → World → Prop} {a : Act} {w : World} (h : (Code.region id ops m).wpIn F n P (fun e a w => e = .normal ∧ K a w) a w) : (Code.region id ops m).wpIn F n P (Exit.then K Q') a w :=
  wpIn_mono h (fun e a w he => by obtain ⟨rfl, hk⟩ := he; exact hk)

/-- An iterator: whatever loop l of whatever caller, whose rounds turn what Kq lets. Z: may a round say 'no more'? -/
def Tells9 {α : Type} (P : Program) (Z : Prop) (T : TypeId → Bool) (n₀ : Nat) (g : Nat) (lb : Array Value) (encs : α → Array Value) (S Sp : List α → Prop) (N : Nat) (w : World) : Prop :=
  ∀ (l : Nat) (J Jx : List α → World → Prop) (W : World), Below w.heap.size w W → OwnFrom W.heap.size J → OwnFrom W.heap.size Jx →
    (∀ (pre : List α) (x : α) (W1 : World), J pre W1 → pre.length < N → W.heap.size ≤ W1.heap.size → YieldAt Fence.wide 0 P l (encs x) W1 fun e W' =>
      ((e = .returned (.bool true) ∧ J (pre ++ [x]) W') ∨ (Z ∧ e = .returned (.bool false) ∧ Jx (pre ++ [x]) W')) ∧ Kq T n₀ W.heap.size W1 W') →
    J [] W →
    Calls P g (#[.func (.yield l) #[] #[]] ++ lb) W fun e W' => (∃ v, e = .returned v) ∧ ((∃ xs, S xs ∧ J xs W') ∨ (∃ pre, Sp pre ∧ Jx pre W'))

/-- How a round's body may be left. -/
def tellPost {α : Type} (Z : Prop) (T : TypeId → Bool) (n₀ B : Nat) (I : List α → World → Prop) (Ix : Code → List α → World → Prop) (xs : List α) (W : World) : Exit → Act → World → Prop
  | .normal, _, W' => Kq T n₀ B W W' ∧ I xs W'
  | .ret, _, W' => Z ∧ Kq T n₀ B W W' ∧ Ix .ret xs W'
  | .exit id, _, W' => Z ∧ Kq T n₀ B W W' ∧ Ix (.exit id) xs W'
  | .goto t, _, W' => Z ∧ Kq T n₀ B W W' ∧ Ix (.goto t) xs W'
  | .panic _, _, _ => False
  | .outgrown, _, _ => False

/-- The loop's own two blocks: its record, and that of its rounds' deferred calls. -/
def Book (n : Nat) (r : Loop) (W : World) : Prop := W.heap[n + 1]? = some (.loop r) ∧ W.heap[n]? = some (.deferred (some []))
theorem Book.lt {n : Nat} {r : Loop} {W : World} (h : Book n r W) : n + 1 < W.heap.size := (Array.getElem?_eq_some_iff.1 h.1).1
theorem Book.own {n : Nat} {r : Loop} {W W' : World} {row : Option Nat} (h : Book n r W) (hg : W.grownBy W' row) (hr : ∀ j, row = some j → n + 2 ≤ j) : Book n r W' := by
  have hl := h.lt
  exact ⟨(hg.block _ hl (fun e => by have := hr _ e.symm; omega)).trans h.1, (hg.block _ (by omega) (fun e => by have := hr _ e.symm; omega)).trans h.2⟩
theorem Book.kept {T : TypeId → Bool} {n₀ n : Nat} {r : Loop} {W W' : World} (h : Book n r W) (hk : Kq T n₀ n W W') : Book n r W' := ⟨hk.others _ _ (by omega) h.1 rfl, hk.others _ _ (Nat.le_refl _) h.2 rfl⟩
theorem Book.put {n : Nat} {r : Loop} {W : World} (r' : Loop) (h : Book n r W) : Book n r' (W.putObj (n + 1) (.loop r')) := ⟨World.putObj_heap_same h.lt, (World.putObj_heap_other (by omega)).trans h.2⟩

section
variable {α : Type} {P : Program} {Z : Prop} {T : TypeId → Bool} {n₀ N n : Nat} {S Sp : List α → Prop} {encs : α → Array Value} {w0 : World}

/-- The rounds of a loop, as its iterator meets them. -/
theorem tell_round {ps : Array Tmp} {assign body : Code} {a : Act} {w : World} {fn : FuncId} {r : Loop} (hr1 : r.state = .ready) (hr2 : ps = r.params) (hr3 : r.tmps = a.tmps) (hr4 : assign = r.assign) (hr5 : body = r.body) (hrp : r.pending = none) (hps : ∀ x, (encs x).size = ps.size) (hn : n₀ ≤ w.heap.size)
    {I : List α → World → Prop} {Ix : Code → List α → World → Prop} (hI : OwnFrom w.heap.size I) (hIx : ∀ c, OwnFrom w.heap.size (Ix c)) {Ax : α → Act → World → Prop} (hAx : ∀ x a', OwnFrom w.heap.size (fun (_ : Unit) W => Ax x a' W))
    (hassign : ∀ (l : Nat) (pre : List α) (x : α) (W : World) (K : Act → World → Prop), w.heap.size < W.heap.size → I pre W → (∀ a' W', Kq T n₀ w.heap.size W W' → I pre W' → Ax x a' W' → K a' W') →
      assign.wpIn (Fence.wide.inRound l) 0 P (Exit.then K (fun _ _ _ => False)) { tmps := (ps.zip (encs x)).foldl (fun t (p, v) => t.setIfInBounds p v) a.tmps, defers := [] } W)
    (hbody : ∀ (l : Nat) (pre : List α) (x : α) (a' : Act) (W : World), w.heap.size < W.heap.size → I pre W → Ax x a' W → pre.length < N → body.wpIn (Fence.wide.inRound l) 0 P (tellPost Z T n₀ w.heap.size I Ix (pre ++ [x]) W) a' W)
    {pre : List α} {x : α} {W : World} (hi : I pre W) (hb : Book w.heap.size r W) (hlen : pre.length < N) :
    YieldAt Fence.wide 0 P (w.heap.size + 1) (encs x) W fun e W' =>
      ((e = .returned (.bool true) ∧ I (pre ++ [x]) W' ∧ Book w.heap.size r W') ∨ (Z ∧ e = .returned (.bool false) ∧ ∃ c, Ix c (pre ++ [x]) W' ∧ Book w.heap.size { r with state := .done, pending := some c } W')) ∧ Kq T n₀ (w.heap.size + 2) W W' := by
  subst hr2 hr4 hr5
  have hy := run_yield (P := P) (args := encs x) hb.1 (hps x)
  rw [hr3] at hy
  refine ⟨r.fn, _, _, _, hy, roundIn_of_wpIn trivial ?_⟩
  refine hassign _ pre x W _ (by have := hb.lt; omega) hi fun a' Wa ka ia xa => ?_
  have ba := hb.kept ka
  refine ⟨_, run_beginRound ba.1 hr1, ?_⟩
  have la := ba.lt
  have kb : Kq T n₀ (w.heap.size + 2) Wa (Wa.putObj (w.heap.size + 1) (.loop { r with state := .busy })) := Kq.putObj _ ba.1 rfl (by omega) (by omega)
  refine wpIn_mono (hbody _ pre x a' _ (by rw [World.putObj_size]; omega) (hI.putObj _ ia (by omega) ba.1 rfl) ((hAx x a').putObj (s := ()) _ xa (by omega) ba.1 rfl) hlen) ?_
  have fin : ∀ (jump : Option Code) (W3 : World), Kq T n₀ w.heap.size (Wa.putObj (w.heap.size + 1) (.loop { r with state := .busy })) W3 →
      (Instr.endRound (w.heap.size + 1) jump).run P W3 = .ok (.bool jump.isNone) (W3.putObj (w.heap.size + 1) (.loop { r with state := if jump.isNone then .ready else .done, pending := jump })) ∧
      Book w.heap.size { r with state := if jump.isNone then .ready else .done, pending := jump } (W3.putObj (w.heap.size + 1) (.loop { r with state := if jump.isNone then .ready else .done, pending := jump })) ∧
      Kq T n₀ (w.heap.size + 2) W (W3.putObj (w.heap.size + 1) (.loop { r with state := if jump.isNone then .ready else .done, pending := jump })) ∧ W3.heap[w.heap.size + 1]? = some (.loop { r with state := .busy }) := fun jump W3 k3 => by
    have b3 := (ba.put { r with state := .busy }).kept k3
    have e := run_endRound (P := P) jump b3.1
    exact ⟨e, b3.put _, (((ka.mono (by omega)).trans kb).trans (k3.mono (by omega))).trans (Kq.putObj _ b3.1 rfl (by omega) (by omega)), b3.1⟩
  have same : { r with state := if (none : Option Code).isNone then LoopState.ready else LoopState.done, pending := none } = r := by
    cases r; simp only at hr1 hrp; subst hr1 hrp; rfl
  rintro e a3 W3 hp
  cases e with
  | normal =>
    obtain ⟨k3, i3⟩ := hp
    obtain ⟨h1, h2, h3, h4⟩ := fin none W3 k3
    rw [same] at h1 h2 h3
    exact ⟨_, _, h1, .inl ⟨rfl, hI.putObj _ i3 (by omega) h4 rfl, h2⟩, h3⟩
  | ret =>
    obtain ⟨hz, k3, i3⟩ := hp
    obtain ⟨h1, h2, h3, h4⟩ := fin (some .ret) W3 k3
    exact ⟨_, _, h1, .inr ⟨hz, rfl, .ret, (hIx _).putObj _ i3 (by omega) h4 rfl, h2⟩, h3⟩
  | exit id =>
    obtain ⟨hz, k3, i3⟩ := hp
    obtain ⟨h1, h2, h3, h4⟩ := fin (some (.exit id)) W3 k3
    exact ⟨_, _, h1, .inr ⟨hz, rfl, .exit id, (hIx _).putObj _ i3 (by omega) h4 rfl, h2⟩, h3⟩
  | goto t =>
    obtain ⟨hz, k3, i3⟩ := hp
    obtain ⟨h1, h2, h3, h4⟩ := fin (some (.goto t)) W3 k3
    exact ⟨_, _, h1, .inr ⟨hz, rfl, .goto t, (hIx _).putObj _ i3 (by omega) h4 rfl, h2⟩, h3⟩
  | panic ch => exact hp.elim
  | outgrown => exact hp.elim

/-- The loop over such an iterator, outside of another one's rounds. -/
theorem wpIn_rangeTell {g : Operand} {ps : Array Tmp} {assign body : Code} {Q : Exit → Act → World → Prop} {a : Act} {w : World} {gf : Nat} {lb : Array Value}
    (hg : a.eval g = .func (.func gf) #[] lb) (eg : ∀ args w, (callFunc gf args).run P w = .ok (.enter gf args) w) (hseq : Tells9 P Z T n₀ gf lb encs S Sp N w0) (hn : n₀ ≤ w.heap.size) (hb0 : Below w0.heap.size w0 w) (hps : ∀ x, (encs x).size = ps.size)
    (I : List α → World → Prop) (Ix : Code → List α → World → Prop) (hI : OwnFrom w.heap.size I) (hIx : ∀ c, OwnFrom w.heap.size (Ix c)) (h0 : I [] w) (Ax : α → Act → World → Prop) (hAx : ∀ x a', OwnFrom w.heap.size (fun (_ : Unit) W => Ax x a' W))
    (hassign : ∀ (l : Nat) (pre : List α) (x : α) (W : World) (K : Act → World → Prop), w.heap.size < W.heap.size → I pre W → (∀ a' W', Kq T n₀ w.heap.size W W' → I pre W' → Ax x a' W' → K a' W') →
      assign.wpIn (Fence.wide.inRound l) 0 P (Exit.then K (fun _ _ _ => False)) { tmps := (ps.zip (encs x)).foldl (fun t (p, v) => t.setIfInBounds p v) a.tmps, defers := [] } W)
    (hbody : ∀ (l : Nat) (pre : List α) (x : α) (a' : Act) (W : World), w.heap.size < W.heap.size → I pre W → Ax x a' W → pre.length < N → body.wpIn (Fence.wide.inRound l) 0 P (tellPost Z T n₀ w.heap.size I Ix (pre ++ [x]) W) a' W)
    (hdone : ∀ (D : Nat) (xs : List α) (W : World), w.heap.size ≤ D → S xs → I xs W → W.heap[D]? = some (.deferred (some [])) → Q .normal { a with defers := { target := .collected D, args := #[] } :: a.defers } W)
    (hstop : ∀ (D : Nat) (c : Code) (pre : List α) (W : World), w.heap.size ≤ D → Sp pre → Ix c pre W → W.heap[D]? = some (.deferred (some [])) → c.wpIn Fence.wide n P Q { a with defers := { target := .collected D, args := #[] } :: a.defers } W) :
    (Code.rangeFunc g ps assign body).wpIn Fence.wide n P Q a w := by
  refine wpIn_rangeFunc fun fn hfn => ?_
  obtain ⟨r, hr⟩ : ∃ r : Loop, r = { state := .ready, pending := none, fn, tmps := a.tmps, params := ps, assign, body, defers := w.heap.size } := ⟨_, rfl⟩
  obtain ⟨W1, hW1⟩ : ∃ W1, (w.alloc (.deferred (some []))).alloc (.loop r) = W1 := ⟨_, rfl⟩
  have hs1 : W1.heap.size = w.heap.size + 2 := by rw [← hW1]; simp
  have bk : Book w.heap.size r W1 := by
    rw [← hW1]
    refine ⟨?_, (Below.heap_alloc _ _ _ (by simp)).trans (World.alloc_heap_new w _)⟩
    have := World.alloc_heap_new (w.alloc (.deferred (some []))) (.loop r)
    rwa [World.size_alloc] at this
  have i1 : I [] W1 := by rw [← hW1]; exact hI.alloc _ (hI.alloc _ h0)
  have b1 : Below w0.heap.size w0 W1 := by
    rw [← hW1]; exact hb0.trans ((((Below.refl _ w).alloc (Nat.le_refl _) _).alloc (by simp) _).mono hb0.size)
  refine ⟨w.heap.size + 1, [{ target := .collected w.heap.size, args := #[] }], W1, { target := .fn (.func gf) lb, args := #[.func (.yield (w.heap.size + 1)) #[] #[]] }, W1, gf,
    #[.func (.yield (w.heap.size + 1)) #[] #[]] ++ lb, W1, ?_, ?_, fun _ _ => trivial, ?_, (fun h => by cases h), callsIn_wide.2 ?_⟩
  · rw [← hW1, hr]; exact run_enterLoop_outer _ _ _ _ _
  · simp only [resolve, hg]
    simp [go_sem]
  · simp [invoke, go_sem, eg]
  have own : ∀ (r' : Loop) (K : List α → World → Prop), OwnFrom w.heap.size K → OwnFrom W1.heap.size (fun pre W => K pre W ∧ Book w.heap.size r' W) := fun r' K hK s X Y row hs hgr hrow =>
    ⟨hK s X Y row hs.1 hgr (fun j e => ⟨by have := (hrow j e).1; omega, (hrow j e).2⟩), hs.2.own hgr (fun j e => by have := (hrow j e).1; omega)⟩
  refine Calls.mono (hseq (w.heap.size + 1) (fun pre W => I pre W ∧ Book w.heap.size r W) (fun pre W => ∃ c, Ix c pre W ∧ Book w.heap.size { r with state := .done, pending := some c } W) W1 b1 (own r I hI)
    (fun s X Y row hs hgr hrow => by obtain ⟨c, hc⟩ := hs; exact ⟨c, own _ (Ix c) (hIx c) s X Y row hc hgr hrow⟩) ?_ ⟨i1, bk⟩) ?_
  · rintro pre x W ⟨hi, hb⟩ hlen _
    rw [hs1]
    have := tell_round (P := P) (T := T) (n₀ := n₀) (N := N) (encs := encs) (ps := ps) (assign := assign) (body := body) (a := a) (w := w) (fn := fn) (r := r) (by rw [hr]) (by rw [hr]) (by rw [hr]) (by rw [hr]) (by rw [hr]) (by rw [hr]) hps hn hI hIx hAx hassign hbody hi hb hlen (x := x)
    obtain ⟨f1, f2, f3, f4, f5, f6⟩ := this
    exact ⟨f1, f2, f3, f4, f5, RoundIn.mono f6 fun e w' h => h⟩
  · rintro e W2 ⟨⟨v, rfl⟩, (⟨xs, hS, hi, hb⟩ | ⟨pre, hSp, c, hi, hb⟩)⟩
    · have he := run_endLoop (P := P) hb.1 (by rw [hr]; simp)
      rw [show r.pending = none from by rw [hr]] at he
      exact ⟨none, _, he, hdone _ xs _ (Nat.le_refl _) hS (hI.putObj _ hi (by omega) hb.1 rfl) ((World.putObj_heap_other (by omega)).trans hb.2)⟩
    · have he := run_endLoop (P := P) hb.1 (by simp)
      exact ⟨some c, _, he, hstop _ c pre _ (Nat.le_refl _) hSp ((hIx c).putObj _ hi (by omega) hb.1 rfl) ((World.putObj_heap_other (by omega)).trans hb.2)⟩
end
end Go.Proofs.Ytigdkflknhdbgaa
