/- Program-free laws: a region whose order is open, inside a round of a loop over a function (a fence that asks nothing), walked once: as XBreg, in the fence. -/
import Derived.Test.YtecomnklofceaaaBreg
import Derived.RangeFuncNested
import Derived.OrdersIn
import Derived.RangeFuncCalls
namespace Go.Proofs.Ytecomnklofceaaa
open Go.RowKit
set_option linter.unusedVariables false

/-- A fence that asks nothing. -/
structure Easy (F : Fence) (n : Nat) (P : Program) : Prop where
  fn : ∀ f, F.fn f
  depth : F.depth = none
  calls : ∀ {f : FuncId} {args : Array Value} {w : World} {R : Ending → World → Prop}, Calls P f args w R → CallsIn F (n - 1) P f args w R
theorem easy_round (l n : Nat) (P : Program) : Easy (Fence.wide.inRound l) n P := ⟨fun _ => trivial, rfl, fun h => CallsIn.inRound l (callsIn_wide.2 h)⟩

def noDefer (ops : Array Oper) : Bool := ops.toList.all fun o => match o.op with | .defer _ => false | _ => true
theorem noDefer_spec {ops : Array Oper} (h : noDefer ops = true) {j : Nat} {o : Oper} (ho : ops[j]? = some o) (ro : Option Nat) (ρ : Operand → Value) : o.semAt ro ρ = execOp ρ o := by
  refine Oper.semAt_eq ro ρ o fun c hc => ?_
  have := List.all_eq_true.1 h o (by rw [Array.mem_toList_iff]; exact Array.mem_of_getElem? ho)
  rw [hc] at this
  cases this

section
variable {F : Fence} {n : Nat} {P : Program} {ops : Array Oper} {Q : Exit → Act → World → Prop}

/-- Every order; in every world that comes up I holds, but behind an operation of B. -/
def anyJ (F : Fence) (n : Nat) (P : Program) (ops : Array Oper) (Q : Exit → Act → World → Prop) (B : List Nat) (I : World → Prop) : Nat → Array Bool → Act → World → Prop
  | 0, listed, a, w => Region.ready .any ops listed = [] ∧ Q .normal a w
  | fuel + 1, listed, a, w =>
    (Region.ready .any ops listed = [] → Q .normal a w) ∧
    ∀ i ∈ Region.ready .any ops listed, wpOpIn F n P ops Q i (fun a' w' => (B.contains i = true ∨ I w') ∧ anyJ F n P ops Q B I fuel (listed.setIfInBounds i true) a' w') a w

theorem anyJ_any {B : List Nat} {I : World → Prop} : ∀ (fuel : Nat) (listed : Array Bool) (a : Act) (w : World), anyJ F n P ops Q B I fuel listed a w → wpAnyIn F n P .any ops Q fuel listed a w
  | 0, _, _, _, h => h
  | fuel + 1, listed, a, w, h => ⟨h.1, fun i hi => wpOpIn_mono (fun a' w' hh => anyJ_any fuel _ a' w' hh.2) (h.2 i hi)⟩
theorem anyJ_mono {B : List Nat} {I I' : World → Prop} (hI : ∀ w, I' w → I w) : ∀ (fuel : Nat) (listed : Array Bool) (a : Act) (w : World), anyJ F n P ops Q B I' fuel listed a w → anyJ F n P ops Q B I fuel listed a w
  | 0, _, _, _, h => h
  | fuel + 1, listed, a, w, h => ⟨h.1, fun i hi => wpOpIn_mono (fun a' w' hh => ⟨hh.1.imp id (hI _), anyJ_mono hI fuel _ a' w' hh.2⟩) (h.2 i hi)⟩

/-- Each operation of B waits for i. -/
def waits (ops : Array Oper) (B : List Nat) (i : Nat) : Bool := B.all fun j => match ops[j]? with | some o => o.after.toList.any fun e => Region.binds .any e && e.on == i | none => true
theorem waits_spec {B : List Nat} {i : Nat} (h : waits ops B i = true) {j : Nat} {o : Oper} (hj : B.contains j = true) (ho : ops[j]? = some o) : ∃ e ∈ o.after, Region.binds .any e = true ∧ e.on = i := by
  have h1 := List.all_eq_true.1 h j (by simpa using hj)
  rw [ho] at h1
  obtain ⟨e, he, h2⟩ := List.any_eq_true.1 h1
  simp only [Bool.and_eq_true, beq_iff_eq] at h2
  exact ⟨e, by rw [← Array.mem_toList_iff]; exact he, h2⟩

theorem givesJ_op (E : Easy F n P) (hd : noDefer ops = true) {I : World → Prop} {i : Nat} {o : Oper} {v : Value} {a : Act} {w : World} (hI : I w) (hi : ops[i]? = some o) (h : givesI P ops I o v a)
    {K : Act → World → Prop} (hK : K (a.put o.dst v) w) : wpOpIn F n P ops Q i K a w := by
  unfold Go.wpOpIn
  simp only [hi]
  rcases h with ⟨hw, hv⟩ | ⟨hw, rfl⟩
  · simp only [hw, if_true, Oper.wpIn, noDefer_spec hd hi, hv w hI, Oper.uponIn]; exact ⟨fun f _ => E.fn f, hK⟩
  · simp only [hw, Bool.false_eq_true, if_false]; exact ⟨fun f _ => E.fn f, hK⟩

theorem givesJ_past (E : Easy F n P) (hd : noDefer ops = true) {I : World → Prop} {j : Nat} {oi oj : Oper} {v : Value} (hj : ops[j]? = some oj) (hap : oi.apart ops oj = true)
    (hsi : ∀ cs b, oi.op ≠ .select cs b) (hsj : ∀ cs b, oj.op ≠ .select cs b) (hQ : ∀ c a w, Q (.panic c) (a.put oi.dst v) w → Q (.panic c) a w)
    {K : Act → World → Prop} {a : Act} {w : World} (hy : givesI P ops I oi v a) (h : wpOpIn F n P ops Q j K (a.put oi.dst v) w) :
    wpOpIn F n P ops Q j (fun a' w' => givesI P ops I oi v a' ∧ K (a'.put oi.dst v) w') a w := by
  obtain ⟨h1, h2, h3⟩ := Oper.apart_spec hap
  have keep : ∀ (a : Act), givesI P ops I oi v a → ∀ u, givesI P ops I oi v (a.put oj.dst u) := fun a hy u =>
    hy.same (execOp_put oi hsi a oj.dst u h3) (wanted_put oi a oj.dst u h3)
  have keepD : ∀ d, givesI P ops I oi v { a with defers := d :: a.defers } := fun d => hy.same rfl rfl
  unfold wpOpIn at *
  simp only [hj] at h ⊢
  rw [wanted_put oj a oi.dst v h1] at h
  split
  · rename_i hw
    simp only [hw, if_true] at h
    unfold Oper.wpIn at *
    refine ⟨fun f _ => E.fn f, ?_⟩
    have h := h.2
    rw [noDefer_spec hd hj, execOp_put oj hsj a oi.dst v h1] at h
    rw [noDefer_spec hd hj]
    generalize (execOp a.eval oj).run P w = r at *
    cases r with
    | ok x w' =>
      cases x <;> simp only [Oper.uponIn] at h ⊢
      case value u => exact ⟨keep a hy u, by rw [← Act.put_comm a v u h2]; exact h⟩
      case skip => exact ⟨keep a hy _, by rw [← Act.put_comm a v undef h2]; exact h⟩
      case defer d =>
        refine ⟨keep _ (keepD d) _, ?_⟩
        rw [← Act.put_comm _ v undef h2, ← Act.put_defers]
        exact h
      case enter f args =>
        refine ⟨h.1, CallsIn.mono h.2 fun e w'' he => ?_⟩
        cases e with
        | returned u => exact ⟨keep a hy u, by rw [← Act.put_comm a v u h2]; exact he⟩
        | panicked c => exact hQ _ _ _ he
        | outgrown => exact he
      case row row args => exact ⟨h.1, RowsIn.mono h.2 fun u w'' he => ⟨keep a hy u, by rw [← Act.put_comm a v u h2]; exact he⟩⟩
      case round l f tmps assign body =>
        refine ⟨h.1, RoundIn.mono h.2 fun e w'' he => ?_⟩
        cases e with
        | returned u => exact ⟨keep a hy u, by rw [← Act.put_comm a v u h2]; exact he⟩
        | panicked c => exact hQ _ _ _ he
        | outgrown => exact he
    | halt x w' =>
      cases x <;> simp only [Oper.uponIn] at h ⊢
      case panic u => exact hQ _ _ _ h
  · rename_i hw
    simp only [hw] at h
    exact ⟨fun f _ => E.fn f, keep a hy _, by rw [← Act.put_comm a v undef h2]; exact h.2⟩

theorem anyJ_first (E : Easy F n P) (hd : noDefer ops = true) {B : List Nat} {I : World → Prop} {i : Nat} {oi : Oper} {v : Value} (hi : ops[i]? = some oi) (hsel : ∀ (j : Nat) (o : Oper) cs b, ops[j]? = some o → o.op ≠ .select cs b)
    (hB : waits ops B i = true) (hQ : ∀ c a w, Q (.panic c) (a.put oi.dst v) w → Q (.panic c) a w) :
    ∀ (fuel : Nat) (listed : Array Bool) (a : Act) (w : World), I w →
      (∀ j oj, ops[j]? = some oj → j ≠ i → listed.getD j true = false → (∀ e ∈ oj.after, Region.binds .any e = true → e.on ≠ i) → oi.apart ops oj = true) →
      i ∈ Region.ready .any ops listed → givesI P ops I oi v a →
      anyJ F n P ops Q B I fuel (listed.setIfInBounds i true) (a.put oi.dst v) w → anyJ F n P ops Q B I (fuel + 1) listed a w := by
  intro fuel
  induction fuel with
  | zero =>
    intro listed a w hI _ hr hy H
    refine ⟨fun h => (by rw [h] at hr; cases hr), fun j hj => ?_⟩
    by_cases hji : j = i
    · subst hji; exact givesJ_op E hd hI hi hy ⟨.inr hI, H⟩
    · have := ready_mono hj hji
      rw [H.1] at this
      cases this
  | succ fuel ih =>
    intro listed a w hI hfree hr hy H
    refine ⟨fun h => (by rw [h] at hr; cases hr), fun j hj => ?_⟩
    by_cases hji : j = i
    · subst hji; exact givesJ_op E hd hI hi hy ⟨.inr hI, H⟩
    · have h1 := H.2 j (ready_mono hj hji)
      obtain ⟨hjun, oj, hoj, hall⟩ := mem_ready.1 hj
      have hnot : ∀ e ∈ oj.after, Region.binds .any e = true → e.on ≠ i := fun e he hb heq => by
        have h1 := hall e he hb
        have h0 := (mem_ready.1 hr).1
        rw [heq] at h1
        rcases Nat.lt_or_ge i listed.size with h' | h'
        · simp [h'] at h0 h1; rw [h0] at h1; cases h1
        · simp [Array.getElem?_eq_none h'] at h1
      have h2 := givesJ_past E hd hoj (hfree j oj hoj hji hjun hnot) (fun cs b => hsel i oi cs b hi) (fun cs b => hsel j oj cs b hoj) hQ hy h1
      have hjB : ¬ B.contains j = true := fun hx => by
        obtain ⟨e, he, hb, hon⟩ := waits_spec hB hx hoj
        exact hnot e he hb hon
      have hI2 : ∀ {w' : World}, (B.contains j = true ∨ I w') → I w' := fun hx => hx.resolve_left hjB
      refine wpOpIn_mono (fun a' w' h3 => ⟨.inr (hI2 h3.2.1), ih (listed.setIfInBounds j true) a' w' (hI2 h3.2.1) ?_ (ready_mono hr (Ne.symm hji)) h3.1 ?_⟩) h2
      · intro k ok hk hki hun hno
        refine hfree k ok hk hki ?_ hno
        by_cases hjk : j = k
        · subst hjk; exact hjun
        · rw [getD_set_ne true hjk] at hun; exact hun
      · rw [Array.setIfInBounds_comm _ _ hji]
        exact h3.2.2

theorem regj_start (B : List Nat) (I : World → Prop) {id : Nat} {a : Act} {w : World} (hm : P.follows .mixedOrders = true) (h : anyJ F n P ops Q B I ops.size (Array.replicate ops.size false) a w.drew) : (Code.region id ops true).wpIn F n P Q a w :=
  wpIn_region_any hm (anyJ_any _ _ _ _ h)

/-- An operation that gives v in every world that may come up, the frame written out: T before, T' behind. -/
theorem regj_take (E : Easy F n P) {B : List Nat} {I : World → Prop} {w : World} (i d : Nat) {v : Value} {fuel : Nat} {listed : Array Bool} {T T' : Array Value} {ds : List Deferred} (hI : I w) (hd : noDefer ops = true) (hB : waits ops B i = true)
    (hs : Region.noSelect ops = true) (hf : Region.free .any ops listed i = true) (hr : (Region.ready .any ops listed).contains i = true)
    (hQ : ∀ c a w, Q (.panic c) (a.put (some d) v) w → Q (.panic c) a w)
    (hstep : ∀ o, ops[i]? = some o → o.dst = some d ∧ Region.wanted o (yielded ops T) = true ∧ ∀ W, I W → (execOp (Act.mk T ds).eval o).run P W = .ok (.value v) W)
    (hT : T.setIfInBounds d v = T') (h : anyJ F n P ops Q B I fuel (listed.setIfInBounds i true) ⟨T', ds⟩ w) : anyJ F n P ops Q B I (fuel + 1) listed ⟨T, ds⟩ w := by
  have hi : ∃ o, ops[i]? = some o := by
    simp only [List.contains_iff_mem] at hr
    obtain ⟨_, o, ho, _⟩ := mem_ready.1 hr
    exact ⟨o, ho⟩
  obtain ⟨o, ho⟩ := hi
  obtain ⟨h1, h2, h3⟩ := hstep o ho
  subst hT
  exact anyJ_first E hd ho (Region.noSelect_spec hs) hB (by rw [h1]; exact hQ) fuel listed _ w hI (Region.free_spec ho hf) (by simpa using hr) (.inl ⟨h2, h3⟩) (by rw [h1]; exact h)

/-- A call of a Go function, when nothing else can come up. -/
theorem regj_call (E : Easy F n P) {B : List Nat} {I I' : World → Prop} (hII : ∀ W, I' W → I W) {w : World} (i d : Nat) {fuel : Nat} {listed : Array Bool} {T : Array Value} {ds : List Deferred} (hd : noDefer ops = true) (hr : Region.ready .any ops listed = [i])
    (f : FuncId) (args : Array Value) (hstep : ∀ o, ops[i]? = some o → o.dst = some d ∧ Region.wanted o (yielded ops T) = true ∧ ∀ W, (execOp (Act.mk T ds).eval o).run P W = .ok (.enter f args) W)
    (h : Calls P f args w fun e w' => ∃ v T', e = .returned v ∧ I' w' ∧ T.setIfInBounds d v = T' ∧ anyJ F n P ops Q B I' fuel (listed.setIfInBounds i true) ⟨T', ds⟩ w') :
    anyJ F n P ops Q B I (fuel + 1) listed ⟨T, ds⟩ w := by
  refine ⟨(fun h0 => by rw [hr] at h0; cases h0), fun j hj => ?_⟩
  have hmem : i ∈ Region.ready .any ops listed := by rw [hr]; simp
  rw [hr] at hj
  simp only [List.mem_singleton] at hj
  subst hj
  obtain ⟨_, o, ho, _⟩ := mem_ready.1 hmem
  obtain ⟨h1, h2, h3⟩ := hstep o ho
  unfold wpOpIn
  simp only [ho, h2, if_true]
  unfold Oper.wpIn
  refine ⟨fun f _ => E.fn f, ?_⟩
  rw [noDefer_spec hd ho, h3, Oper.uponIn_enter]
  refine ⟨fun hx => (by rw [E.depth] at hx; cases hx), CallsIn.mono (E.calls h) fun e w' he => ?_⟩
  obtain ⟨v, T', rfl, hl, rfl, hk⟩ := he
  simp only [h1]
  exact ⟨.inr (hII _ hl), anyJ_mono hII _ _ _ _ hk⟩

/-- An operation that makes or writes memory (no call), when nothing else can come up; d none: a store. -/
theorem regj_make {B : List Nat} {I I' : World → Prop} (E : Easy F n P) (hII : ∀ W, I' W → I W) {w w' : World} (i : Nat) (d : Option Nat) {v : Value} {fuel : Nat} {listed : Array Bool} {T T' : Array Value} {ds : List Deferred} (hd : noDefer ops = true) (hr : Region.ready .any ops listed = [i])
    (hstep : ∀ o, ops[i]? = some o → o.dst = d ∧ Region.wanted o (yielded ops T) = true ∧ (execOp (Act.mk T ds).eval o).run P w = .ok (.value v) w') (hl : B.contains i = true ∨ I' w')
    (hT : (Act.mk T ds).put d v = Act.mk T' ds) (h : anyJ F n P ops Q B I' fuel (listed.setIfInBounds i true) ⟨T', ds⟩ w') :
    anyJ F n P ops Q B I (fuel + 1) listed ⟨T, ds⟩ w := by
  refine ⟨(fun h0 => by rw [hr] at h0; cases h0), fun j hj => ?_⟩
  have hmem : i ∈ Region.ready .any ops listed := by rw [hr]; simp
  rw [hr] at hj
  simp only [List.mem_singleton] at hj
  subst hj
  obtain ⟨_, o, ho, _⟩ := mem_ready.1 hmem
  obtain ⟨h1, h2, h3⟩ := hstep o ho
  unfold wpOpIn
  simp only [ho, h2, if_true]
  unfold Oper.wpIn
  refine ⟨fun f _ => E.fn f, ?_⟩
  rw [noDefer_spec hd ho, h3, Oper.uponIn_value, h1, hT]
  exact ⟨hl.imp id (hII _), anyJ_mono hII _ _ _ _ h⟩

/-- A store, when nothing else can come up. -/
theorem regj_store {B : List Nat} {I I' : World → Prop} (E : Easy F n P) (hII : ∀ W, I' W → I W) {w w' : World} (i : Nat) {fuel : Nat} {listed : Array Bool} {T : Array Value} {ds : List Deferred} (hd : noDefer ops = true) (hr : Region.ready .any ops listed = [i])
    (hstep : ∀ o, ops[i]? = some o → o.dst = none ∧ Region.wanted o (yielded ops T) = true ∧ (execOp (Act.mk T ds).eval o).run P w = .ok .skip w') (hl : B.contains i = true ∨ I' w')
    (h : anyJ F n P ops Q B I' fuel (listed.setIfInBounds i true) ⟨T, ds⟩ w') :
    anyJ F n P ops Q B I (fuel + 1) listed ⟨T, ds⟩ w := by
  refine ⟨(fun h0 => by rw [hr] at h0; cases h0), fun j hj => ?_⟩
  have hmem : i ∈ Region.ready .any ops listed := by rw [hr]; simp
  rw [hr] at hj
  simp only [List.mem_singleton] at hj
  subst hj
  obtain ⟨_, o, ho, _⟩ := mem_ready.1 hmem
  obtain ⟨h1, h2, h3⟩ := hstep o ho
  unfold wpOpIn
  simp only [ho, h2, if_true]
  unfold Oper.wpIn
  refine ⟨fun f _ => E.fn f, ?_⟩
  rw [noDefer_spec hd ho, h3, Oper.uponIn_skip, h1]
  exact ⟨hl.imp id (hII _), anyJ_mono hII _ _ _ _ h⟩

/-- What append, as an operation, does: what its builtin does. -/
theorem exec_app {o : Oper} {a : Act} {t : TypeId} {v u v' : Value} {W w' : World} (s x : Operand) (ho : o.op = .call { callee := .builtin .append, args := #[s, x], argTypes := #[t, t] })
    (hs : a.eval s = v) (hx : a.eval x = u) (hrun : (Builtin.append_ #[t, t] o.type #[v, u]).run P W = .ok v' w') : (execOp a.eval o).run P W = .ok (.value v') w' := by
  unfold execOp
  simp only [ho, resolve, invoke, builtin, Sem.run_bind, Sem.run_pure, Result.andThen_ok, List.map_toArray, List.map_cons, List.map_nil, hs, hx, hrun]

theorem regj_done {B : List Nat} {I : World → Prop} {fuel : Nat} {listed : Array Bool} {a : Act} {w : World} (hr : Region.ready .any ops listed = []) (h : Q .normal a w) : anyJ F n P ops Q B I fuel listed a w := by
  cases fuel with
  | zero => exact ⟨hr, h⟩
  | succ n => exact ⟨fun _ => h, by rw [hr]; simp⟩
end
end Go.Proofs.Ytecomnklofceaaa
