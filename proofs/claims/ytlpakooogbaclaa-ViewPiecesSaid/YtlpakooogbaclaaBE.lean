/- Program-free laws: a region whose order is open, walked once: operations that give the same in every later world are taken in the text's order; a call when nothing else is left to come up. -/
import Derived.Orders
import Derived.RegionTactic
import Derived.Below
import Derived.WalkKit
import Derived.RangeFuncNested
import Derived.OrdersIn
import Derived.RangeFuncCalls
namespace Go.Proofs.Ytlpakooogbaclaa
open Go.RowKit
set_option linter.unusedVariables false

section
variable {P : Program} {ops : Array Oper} {Q : Exit → Act → World → Prop}

/-- Every order, and in every world that comes up I holds. -/
def anyI (P : Program) (ops : Array Oper) (Q : Exit → Act → World → Prop) (I : World → Prop) : Nat → Array Bool → Act → World → Prop
  | 0, listed, a, w => Region.ready .any ops listed = [] ∧ Q .normal a w
  | fuel + 1, listed, a, w =>
    (Region.ready .any ops listed = [] → Q .normal a w) ∧
    ∀ i ∈ Region.ready .any ops listed, wpOp P ops Q i (fun a' w' => I w' ∧ anyI P ops Q I fuel (listed.setIfInBounds i true) a' w') a w

theorem anyI_any {I : World → Prop} : ∀ (fuel : Nat) (listed : Array Bool) (a : Act) (w : World), anyI P ops Q I fuel listed a w → wpAny P .any ops Q fuel listed a w
  | 0, _, _, _, h => h
  | fuel + 1, listed, a, w, h => ⟨h.1, fun i hi => wpOp_mono (fun a' w' hh => anyI_any fuel _ a' w' hh.2) (h.2 i hi)⟩
theorem anyI_mono {I I' : World → Prop} (hI : ∀ w, I' w → I w) : ∀ (fuel : Nat) (listed : Array Bool) (a : Act) (w : World), anyI P ops Q I' fuel listed a w → anyI P ops Q I fuel listed a w
  | 0, _, _, _, h => h
  | fuel + 1, listed, a, w, h => ⟨h.1, fun i hi => wpOp_mono (fun a' w' hh => ⟨hI _ hh.1, anyI_mono hI fuel _ a' w' hh.2⟩) (h.2 i hi)⟩

/-- The operation gives v in every world in which I holds, or it is passed over. -/
def givesI (P : Program) (ops : Array Oper) (I : World → Prop) (o : Oper) (v : Value) (a : Act) : Prop :=
  (Region.wanted o (yielded ops a.tmps) = true ∧ ∀ w, I w → (execOp a.eval o).run P w = .ok (.value v) w) ∨
  (Region.wanted o (yielded ops a.tmps) = false ∧ v = undef)

theorem givesI.same {I : World → Prop} {o : Oper} {v : Value} {a a' : Act} (h : givesI P ops I o v a) (he : execOp a'.eval o = execOp a.eval o)
    (hw : Region.wanted o (yielded ops a'.tmps) = Region.wanted o (yielded ops a.tmps)) : givesI P ops I o v a' := by
  unfold givesI at *; rw [he, hw]; exact h

theorem givesI.op {I : World → Prop} {i : Nat} {o : Oper} {v : Value} {a : Act} {w : World} (hI : I w) (hi : ops[i]? = some o) (h : givesI P ops I o v a)
    {K : Act → World → Prop} (hK : K (a.put o.dst v) w) : wpOp P ops Q i K a w := by
  unfold Go.wpOp
  simp only [hi]
  rcases h with ⟨hw, hv⟩ | ⟨hw, rfl⟩
  · simp only [hw, if_true, Oper.wp, hv w hI, Oper.upon]; exact .inl hK
  · simp only [hw, Bool.false_eq_true, if_false]; exact hK

/-- Another operation ahead of it changes nothing of what it gives. -/
theorem givesI.past {I : World → Prop} {j : Nat} {oi oj : Oper} {v : Value} (hj : ops[j]? = some oj) (hap : oi.apart ops oj = true)
    (hsi : ∀ cs b, oi.op ≠ .select cs b) (hsj : ∀ cs b, oj.op ≠ .select cs b) (hQ : ∀ c a w, Q (.panic c) (a.put oi.dst v) w → Q (.panic c) a w)
    {K : Act → World → Prop} {a : Act} {w : World} (hy : givesI P ops I oi v a) (h : wpOp P ops Q j K (a.put oi.dst v) w) :
    wpOp P ops Q j (fun a' w' => givesI P ops I oi v a' ∧ K (a'.put oi.dst v) w') a w := by
  obtain ⟨h1, h2, h3⟩ := Oper.apart_spec hap
  have keep : ∀ (a : Act), givesI P ops I oi v a → ∀ u, givesI P ops I oi v (a.put oj.dst u) := fun a hy u =>
    hy.same (execOp_put oi hsi a oj.dst u h3) (wanted_put oi a oj.dst u h3)
  have keepD : ∀ d, givesI P ops I oi v { a with defers := d :: a.defers } := fun d => hy.same rfl rfl
  unfold wpOp at *
  simp only [hj] at *
  rw [wanted_put oj a oi.dst v h1] at h
  split
  · rename_i hw
    simp only [hw, if_true] at h
    rcases h with h | ⟨hasks, hlets⟩
    case inr => exact .inr ⟨by unfold Oper.asks at *; rw [execOp_put oj hsj a oi.dst v h1] at hasks; exact hasks, hlets⟩
    refine .inl ?_
    unfold Oper.wp at *
    rw [execOp_put oj hsj a oi.dst v h1] at h
    generalize (execOp a.eval oj).run P w = r at *
    cases r with
    | ok n w' =>
      cases n <;> simp only [Oper.upon] at h ⊢
      case value u => exact ⟨keep a hy u, by rw [← Act.put_comm a v u h2]; exact h⟩
      case skip => exact ⟨keep a hy _, by rw [← Act.put_comm a v undef h2]; exact h⟩
      case defer d =>
        refine ⟨keep _ (keepD d) _, ?_⟩
        rw [← Act.put_comm _ v undef h2, ← Act.put_defers]
        exact h
      case enter f args =>
        refine Calls.mono h fun e w'' he => ?_
        cases e with
        | returned u => exact ⟨keep a hy u, by rw [← Act.put_comm a v u h2]; exact he⟩
        | panicked c => exact hQ _ _ _ he
        | outgrown => exact he
      case row row args => exact Rows.mono h fun u w'' he => ⟨keep a hy u, by rw [← Act.put_comm a v u h2]; exact he⟩
    | halt x w' =>
      cases x <;> simp only [Oper.upon] at h ⊢
      case panic u => exact hQ _ _ _ h
  · rename_i hw
    simp only [hw] at h
    exact ⟨keep a hy _, by rw [← Act.put_comm a v undef h2]; exact h⟩

theorem anyI_first {I : World → Prop} {i : Nat} {oi : Oper} {v : Value} (hi : ops[i]? = some oi) (hsel : ∀ (j : Nat) (o : Oper) cs b, ops[j]? = some o → o.op ≠ .select cs b)
    (hQ : ∀ c a w, Q (.panic c) (a.put oi.dst v) w → Q (.panic c) a w) :
    ∀ (fuel : Nat) (listed : Array Bool) (a : Act) (w : World), I w →
      (∀ j oj, ops[j]? = some oj → j ≠ i → listed.getD j true = false → (∀ e ∈ oj.after, Region.binds .any e = true → e.on ≠ i) → oi.apart ops oj = true) →
      i ∈ Region.ready .any ops listed → givesI P ops I oi v a →
      anyI P ops Q I fuel (listed.setIfInBounds i true) (a.put oi.dst v) w → anyI P ops Q I (fuel + 1) listed a w := by
  intro fuel
  induction fuel with
  | zero =>
    intro listed a w hI _ hr hy H
    refine ⟨fun h => (by rw [h] at hr; cases hr), fun j hj => ?_⟩
    by_cases hji : j = i
    · subst hji; exact hy.op hI hi ⟨hI, H⟩
    · have := ready_mono hj hji
      rw [H.1] at this
      cases this
  | succ fuel ih =>
    intro listed a w hI hfree hr hy H
    refine ⟨fun h => (by rw [h] at hr; cases hr), fun j hj => ?_⟩
    by_cases hji : j = i
    · subst hji; exact hy.op hI hi ⟨hI, H⟩
    · have h1 := H.2 j (ready_mono hj hji)
      obtain ⟨hjun, oj, hoj, hall⟩ := mem_ready.1 hj
      have hnot : ∀ e ∈ oj.after, Region.binds .any e = true → e.on ≠ i := fun e he hb heq => by
        have h1 := hall e he hb
        have h0 := (mem_ready.1 hr).1
        rw [heq] at h1
        rcases Nat.lt_or_ge i listed.size with h' | h'
        · simp [h'] at h0 h1; rw [h0] at h1; cases h1
        · simp [Array.getElem?_eq_none h'] at h1
      have h2 := givesI.past hoj (hfree j oj hoj hji hjun hnot) (fun cs b => hsel i oi cs b hi) (fun cs b => hsel j oj cs b hoj) hQ hy h1
      refine wpOp_mono (fun a' w' h3 => ⟨h3.2.1, ih (listed.setIfInBounds j true) a' w' h3.2.1 ?_ (ready_mono hr (Ne.symm hji)) h3.1 ?_⟩) h2
      · intro k ok hk hki hun hno
        refine hfree k ok hk hki ?_ hno
        by_cases hjk : j = k
        · subst hjk; exact hjun
        · rw [getD_set_ne true hjk] at hun; exact hun
      · rw [Array.setIfInBounds_comm _ _ hji]
        exact h3.2.2

/-- Behind w nothing old has turned. -/
def Later (w0 w : World) : Prop := Below w0.heap.size w0 w
theorem Later.refl (w : World) : Later w w := Below.refl _ _
theorem Later.trans {a b c : World} (h : Later a b) (k : Later b c) : Later a c := Below.trans h (Below.mono k (Below.size h))

theorem reg_start {id : Nat} {a : Act} {w : World} (hm : P.follows .mixedOrders = true) (h : anyI P ops Q (Later w.drew) ops.size (Array.replicate ops.size false) a w.drew) : (Code.region id ops true).wp P Q a w :=
  wp_region_any hm (anyI_any _ _ _ _ h)

/-- An operation that gives v in every later world. -/
theorem reg_take {w0 : World} {i : Nat} {oi : Oper} {v : Value} {fuel : Nat} {listed : Array Bool} {a : Act} {w : World} (hL : Later w0 w) (hi : ops[i]? = some oi)
    (hs : Region.noSelect ops = true) (hf : Region.free .any ops listed i = true) (hr : (Region.ready .any ops listed).contains i = true)
    (hQ : ∀ c a w, Q (.panic c) (a.put oi.dst v) w → Q (.panic c) a w) (hw : Region.wanted oi (yielded ops a.tmps) = true) (hy : ∀ W, Later w0 W → (execOp a.eval oi).run P W = .ok (.value v) W)
    (h : anyI P ops Q (Later w0) fuel (listed.setIfInBounds i true) (a.put oi.dst v) w) : anyI P ops Q (Later w0) (fuel + 1) listed a w :=
  anyI_first hi (Region.noSelect_spec hs) hQ fuel listed a w hL (Region.free_spec hi hf) (by simpa using hr) (.inl ⟨hw, hy⟩) h

/-- One that is passed over. -/
theorem reg_skip {w0 : World} {i : Nat} {oi : Oper} {fuel : Nat} {listed : Array Bool} {a : Act} {w : World} (hL : Later w0 w) (hi : ops[i]? = some oi)
    (hs : Region.noSelect ops = true) (hf : Region.free .any ops listed i = true) (hr : (Region.ready .any ops listed).contains i = true)
    (hQ : ∀ c a w, Q (.panic c) (a.put oi.dst undef) w → Q (.panic c) a w) (hw : Region.wanted oi (yielded ops a.tmps) = false)
    (h : anyI P ops Q (Later w0) fuel (listed.setIfInBounds i true) (a.put oi.dst undef) w) : anyI P ops Q (Later w0) (fuel + 1) listed a w :=
  anyI_first hi (Region.noSelect_spec hs) hQ fuel listed a w hL (Region.free_spec hi hf) (by simpa using hr) (.inr ⟨hw, rfl⟩) h

/-- A call of a Go function, when nothing else can come up: what it leaves is the world that all later ones go by. -/
theorem reg_call {w0 : World} {i : Nat} {oi : Oper} {fuel : Nat} {listed : Array Bool} {a : Act} {w : World} (hL : Later w0 w) (hr : Region.ready .any ops listed = [i]) (hi : ops[i]? = some oi) (hw : Region.wanted oi (yielded ops a.tmps) = true)
    (f : FuncId) (args : Array Value) (hx : ∀ W, (execOp a.eval oi).run P W = .ok (.enter f args) W)
    (h : Calls P f args w fun e w' => ∃ v, e = .returned v ∧ Later w w' ∧ anyI P ops Q (Later w') fuel (listed.setIfInBounds i true) (a.put oi.dst v) w') :
    anyI P ops Q (Later w0) (fuel + 1) listed a w := by
  refine ⟨(fun h0 => by rw [hr] at h0; cases h0), fun j hj => ?_⟩
  rw [hr] at hj
  simp only [List.mem_singleton] at hj
  subst hj
  unfold wpOp
  simp only [hi, hw, if_true]
  refine .inl ?_
  unfold Oper.wp
  rw [hx, Oper.upon_enter]
  refine Calls.mono h fun e w' he => ?_
  obtain ⟨v, rfl, hl, hk⟩ := he
  exact ⟨hL.trans hl, anyI_mono (fun W hW => (hL.trans hl).trans hW) _ _ _ _ hk⟩

/-- The same, the frame written out: T before, T' behind. -/
theorem reg_take2 {w0 w : World} (i d : Nat) {v : Value} {fuel : Nat} {listed : Array Bool} {T T' : Array Value} {ds : List Deferred} (hL : Later w0 w)
    (hs : Region.noSelect ops = true) (hf : Region.free .any ops listed i = true) (hr : (Region.ready .any ops listed).contains i = true)
    (hQ : ∀ c a w, Q (.panic c) (a.put (some d) v) w → Q (.panic c) a w)
    (hstep : ∀ o, ops[i]? = some o → o.dst = some d ∧ Region.wanted o (yielded ops T) = true ∧ ∀ W, Later w0 W → (execOp (Act.mk T ds).eval o).run P W = .ok (.value v) W)
    (hT : T.setIfInBounds d v = T') (h : anyI P ops Q (Later w0) fuel (listed.setIfInBounds i true) ⟨T', ds⟩ w) : anyI P ops Q (Later w0) (fuel + 1) listed ⟨T, ds⟩ w := by
  have hi : ∃ o, ops[i]? = some o := by
    simp only [List.contains_iff_mem] at hr
    obtain ⟨_, o, ho, _⟩ := mem_ready.1 hr
    exact ⟨o, ho⟩
  obtain ⟨o, ho⟩ := hi
  obtain ⟨h1, h2, h3⟩ := hstep o ho
  subst hT
  exact reg_take hL ho hs hf hr (by rw [h1]; exact hQ) h2 h3 (by rw [h1]; exact h)

theorem reg_skip2 {w0 w : World} (i d : Nat) {fuel : Nat} {listed : Array Bool} {T T' : Array Value} {ds : List Deferred} (hL : Later w0 w)
    (hs : Region.noSelect ops = true) (hf : Region.free .any ops listed i = true) (hr : (Region.ready .any ops listed).contains i = true)
    (hQ : ∀ c a w, Q (.panic c) (a.put (some d) undef) w → Q (.panic c) a w)
    (hstep : ∀ o, ops[i]? = some o → o.dst = some d ∧ Region.wanted o (yielded ops T) = false)
    (hT : T.setIfInBounds d undef = T') (h : anyI P ops Q (Later w0) fuel (listed.setIfInBounds i true) ⟨T', ds⟩ w) : anyI P ops Q (Later w0) (fuel + 1) listed ⟨T, ds⟩ w := by
  have hi : ∃ o, ops[i]? = some o := by
    simp only [List.contains_iff_mem] at hr
    obtain ⟨_, o, ho, _⟩ := mem_ready.1 hr
    exact ⟨o, ho⟩
  obtain ⟨o, ho⟩ := hi
  obtain ⟨h1, h2⟩ := hstep o ho
  subst hT
  exact reg_skip hL ho hs hf hr (by rw [h1]; exact hQ) h2 (by rw [h1]; exact h)

theorem reg_call2 {w0 w : World} (i d : Nat) {fuel : Nat} {listed : Array Bool} {T : Array Value} {ds : List Deferred} (hL : Later w0 w) (hr : Region.ready .any ops listed = [i])
    (f : FuncId) (args : Array Value) (hstep : ∀ o, ops[i]? = some o → o.dst = some d ∧ Region.wanted o (yielded ops T) = true ∧ ∀ W, (execOp (Act.mk T ds).eval o).run P W = .ok (.enter f args) W)
    (h : Calls P f args w fun e w' => ∃ v T', e = .returned v ∧ Later w w' ∧ T.setIfInBounds d v = T' ∧ anyI P ops Q (Later w') fuel (listed.setIfInBounds i true) ⟨T', ds⟩ w') :
    anyI P ops Q (Later w0) (fuel + 1) listed ⟨T, ds⟩ w := by
  have hi : ∃ o, ops[i]? = some o := by
    have : i ∈ Region.ready .any ops listed := by rw [hr]; simp
    obtain ⟨_, o, ho, _⟩ := mem_ready.1 this
    exact ⟨o, ho⟩
  obtain ⟨o, ho⟩ := hi
  obtain ⟨h1, h2, h3⟩ := hstep o ho
  refine reg_call hL hr ho h2 f args h3 (h.mono fun e w' he => ?_)
  obtain ⟨v, T', rfl, hl, rfl, hk⟩ := he
  exact ⟨v, rfl, hl, by rw [h1]; exact hk⟩

/-- An operation that makes or writes memory (no call), when nothing else can come up. -/
theorem reg_make {w0 : World} {i : Nat} {oi : Oper} {v : Value} {fuel : Nat} {listed : Array Bool} {a : Act} {w w' : World} (hL : Later w0 w) (hr : Region.ready .any ops listed = [i]) (hi : ops[i]? = some oi) (hw : Region.wanted oi (yielded ops a.tmps) = true)
    (hx : (execOp a.eval oi).run P w = .ok (.value v) w') (hl : Later w w')
    (h : anyI P ops Q (Later w') fuel (listed.setIfInBounds i true) (a.put oi.dst v) w') :
    anyI P ops Q (Later w0) (fuel + 1) listed a w := by
  refine ⟨(fun h0 => by rw [hr] at h0; cases h0), fun j hj => ?_⟩
  rw [hr] at hj
  simp only [List.mem_singleton] at hj
  subst hj
  unfold wpOp
  simp only [hi, hw, if_true]
  refine .inl ?_
  unfold Oper.wp
  rw [hx]
  simp only [Oper.upon]
  exact ⟨hL.trans hl, anyI_mono (fun W hW => (hL.trans hl).trans hW) _ _ _ _ h⟩
theorem reg_make2 {w0 w w' : World} (i d : Nat) {v : Value} {fuel : Nat} {listed : Array Bool} {T T' : Array Value} {ds : List Deferred} (hL : Later w0 w) (hr : Region.ready .any ops listed = [i])
    (hstep : ∀ o, ops[i]? = some o → o.dst = some d ∧ Region.wanted o (yielded ops T) = true ∧ (execOp (Act.mk T ds).eval o).run P w = .ok (.value v) w') (hl : Later w w')
    (hT : T.setIfInBounds d v = T') (h : anyI P ops Q (Later w') fuel (listed.setIfInBounds i true) ⟨T', ds⟩ w') :
    anyI P ops Q (Later w0) (fuel + 1) listed ⟨T, ds⟩ w := by
  have hi : ∃ o, ops[i]? = some o := by
    have : i ∈ Region.ready .any ops listed := by rw [hr]; simp
    obtain ⟨_, o, ho, _⟩ := mem_ready.1 this
    exact ⟨o, ho⟩
  obtain ⟨o, ho⟩ := hi
  obtain ⟨h1, h2, h3⟩ := hstep o ho
  subst hT
  exact reg_make hL hr ho h2 h3 hl (by rw [h1]; exact h)
theorem Later.alloc (w : World) (o : Obj) : Later w (w.alloc o) := (Below.refl _ w).alloc (Nat.le_refl _) _

theorem reg_done {w0 : World} {fuel : Nat} {listed : Array Bool} {a : Act} {w : World} (hr : Region.ready .any ops listed = []) (h : Q .normal a w) : anyI P ops Q (Later w0) fuel listed a w := by
  cases fuel with
  | zero => exact ⟨hr, h⟩
  | succ n => exact ⟨fun _ => h, by rw [hr]; simp⟩
end
end Go.Proofs.Ytlpakooogbaclaa
/- Program-free laws: a region whose order is open, walked once, where some of its operations (B) turn memory: what reads memory is taken first, in the worlds I that come up ahead of B; each of B waits for it. Moves and sums, which read no memory, are taken anywhere. -/
namespace Go.Proofs.Ytlpakooogbaclaa
open Go.RowKit
set_option linter.unusedVariables false

section
variable {P : Program} {ops : Array Oper} {Q : Exit → Act → World → Prop}

/-- No operation of B has come. -/
def noB (B : List Nat) (listed : Array Bool) : Bool := B.all fun b => !(listed.getD b true)
/-- Every order; in every world that comes up ahead of B's I holds. -/
def anyK (P : Program) (ops : Array Oper) (Q : Exit → Act → World → Prop) (B : List Nat) (I : World → Prop) : Nat → Array Bool → Act → World → Prop
  | 0, listed, a, w => Region.ready .any ops listed = [] ∧ Q .normal a w
  | fuel + 1, listed, a, w =>
    (Region.ready .any ops listed = [] → Q .normal a w) ∧
    ∀ i ∈ Region.ready .any ops listed, wpOp P ops Q i (fun a' w' => (noB B (listed.setIfInBounds i true) = true → I w') ∧ anyK P ops Q B I fuel (listed.setIfInBounds i true) a' w') a w

theorem anyK_any {B : List Nat} {I : World → Prop} : ∀ (fuel : Nat) (listed : Array Bool) (a : Act) (w : World), anyK P ops Q B I fuel listed a w → wpAny P .any ops Q fuel listed a w
  | 0, _, _, _, h => h
  | fuel + 1, listed, a, w, h => ⟨h.1, fun i hi => wpOp_mono (fun a' w' hh => anyK_any fuel _ a' w' hh.2) (h.2 i hi)⟩
theorem anyK_mono {B : List Nat} {I I' : World → Prop} (hI : ∀ w, I' w → I w) : ∀ (fuel : Nat) (listed : Array Bool) (a : Act) (w : World), anyK P ops Q B I' fuel listed a w → anyK P ops Q B I fuel listed a w
  | 0, _, _, _, h => h
  | fuel + 1, listed, a, w, h => ⟨h.1, fun i hi => wpOp_mono (fun a' w' hh => ⟨fun hn => hI _ (hh.1 hn), anyK_mono hI fuel _ a' w' hh.2⟩) (h.2 i hi)⟩

/-- j waits for i, by however many between. -/
def reaches (ops : Array Oper) (i : Nat) : Nat → Nat → Bool
  | 0, _ => false
  | f + 1, j => match ops[j]? with | some o => o.after.toList.any fun e => Region.binds .any e && (e.on == i || reaches ops i f e.on) | none => false
def waitsK (ops : Array Oper) (B : List Nat) (i : Nat) : Bool := B.all fun j => reaches ops i ops.size j
theorem getD_up {listed : Array Bool} {k : Nat} (h : listed.getD k false = true) : listed.getD k true = true := by
  rcases Nat.lt_or_ge k listed.size with h' | h'
  · simp [h'] at h ⊢; exact h
  · simp [Array.getElem?_eq_none h'] at h
/-- With an operation all that it waits for is listed. -/
def Closed (ops : Array Oper) (listed : Array Bool) : Prop := ∀ j o, ops[j]? = some o → listed.getD j true = true → ∀ e ∈ o.after, Region.binds .any e = true → listed.getD e.on true = true
def closedB (ops : Array Oper) (listed : Array Bool) : Bool := (List.range ops.size).all fun j => match ops[j]? with | some o => !(listed.getD j true) || o.after.toList.all fun e => !(Region.binds .any e) || listed.getD e.on true | none => true
theorem closedB_spec {listed : Array Bool} (h : closedB ops listed = true) : Closed ops listed := by
  intro j o ho hj e he hb
  have hlt : j < ops.size := (Array.getElem?_eq_some_iff.1 ho).1
  have h1 := List.all_eq_true.1 h j (by simpa using hlt)
  rw [ho] at h1
  simp only [hj, Bool.not_true, Bool.false_or] at h1
  have h2 := List.all_eq_true.1 h1 e (by rw [Array.mem_toList_iff]; exact he)
  simpa [hb] using h2
theorem reaches_spec {listed : Array Bool} (hc : Closed ops listed) (i : Nat) : ∀ (f j : Nat) (o : Oper), reaches ops i f j = true → ops[j]? = some o → (∀ e ∈ o.after, Region.binds .any e = true → listed.getD e.on true = true) → listed.getD i true = true
  | 0, _, _, h, _, _ => by cases h
  | f + 1, j, o, h, ho, hd => by
    unfold reaches at h
    rw [ho] at h
    obtain ⟨e, he, h2⟩ := List.any_eq_true.1 h
    rw [Array.mem_toList_iff] at he
    simp only [Bool.and_eq_true, Bool.or_eq_true, beq_iff_eq] at h2
    have h3 := hd e he h2.1
    rcases h2.2 with h4 | h4
    · rw [← h4]; exact h3
    · cases hoe : ops[e.on]? with
      | none =>
        exfalso
        cases f with
        | zero => cases h4
        | succ f => unfold reaches at h4; rw [hoe] at h4; cases h4
      | some o' => exact reaches_spec hc i f e.on o' h4 hoe (fun e' he' hb' => hc e.on o' hoe h3 e' he' hb')
theorem waitsK_spec {B : List Nat} {i : Nat} (h : waitsK ops B i = true) {listed : Array Bool} (hc : Closed ops listed) (hi : listed.getD i true = false) {j : Nat} (hj : j ∈ Region.ready .any ops listed) : ¬ B.contains j = true := by
  intro hB
  have h1 := List.all_eq_true.1 h j (by simpa using hB)
  obtain ⟨_, o, ho, hall⟩ := mem_ready.1 hj
  have := reaches_spec hc i _ j o h1 ho (fun e he hb => getD_up (hall e he hb))
  rw [hi] at this; cases this
theorem closed_set {listed : Array Bool} (hc : Closed ops listed) {j : Nat} (hj : j ∈ Region.ready .any ops listed) : Closed ops (listed.setIfInBounds j true) := by
  obtain ⟨_, oj, hoj, hall⟩ := mem_ready.1 hj
  have up : ∀ k, listed.getD k true = true → (listed.setIfInBounds j true).getD k true = true := by
    intro k hk
    by_cases hjk : j = k
    · subst hjk
      rcases Nat.lt_or_ge j listed.size with h | h <;> simp [h]
    · rw [getD_set_ne true hjk]; exact hk
  intro k o ho hk e he hb
  by_cases hjk : j = k
  · subst hjk
    rw [hoj] at ho; cases ho
    exact up _ (getD_up (hall e he hb))
  · rw [getD_set_ne true hjk] at hk
    exact up _ (hc k o ho hk e he hb)
theorem noB_no {B : List Nat} {listed : Array Bool} {X : Prop} (h : noB B listed = false) : noB B listed = true → X := fun hn => by rw [h] at hn; cases hn
theorem noB_set {B : List Nat} {i : Nat} (hi : B.contains i = false) (listed : Array Bool) : noB B (listed.setIfInBounds i true) = noB B listed := by
  unfold noB
  rw [Bool.eq_iff_iff, List.all_eq_true, List.all_eq_true]
  have key : ∀ b ∈ B, (listed.setIfInBounds i true).getD b true = listed.getD b true := fun b hb => getD_set_ne true (fun e => by subst e; simp [hb] at hi)
  exact ⟨fun h b hb => by rw [← key b hb]; exact h b hb, fun h b hb => by rw [key b hb]; exact h b hb⟩
/-- While i has not come, nothing has that waits for it. -/
theorem noB_ahead {B : List Nat} {i : Nat} (h : waitsK ops B i = true) {listed : Array Bool} (hc : Closed ops listed) (hi : listed.getD i true = false) : noB B listed = true := by
  unfold noB
  rw [List.all_eq_true]
  intro b hb
  by_cases hl : listed.getD b true = true
  · exfalso
    have h1 := List.all_eq_true.1 h b hb
    cases hob : ops[b]? with
    | none =>
      cases hs : ops.size with
      | zero => rw [hs] at h1; cases h1
      | succ f => rw [hs] at h1; unfold reaches at h1; rw [hob] at h1; cases h1
    | some o =>
      have := reaches_spec hc i _ b o h1 hob (fun e he hb' => hc b o hob hl e he hb')
      rw [hi] at this; cases this
  · simpa using hl

theorem anyK_first {B : List Nat} {I : World → Prop} {i : Nat} {oi : Oper} {v : Value} (hi : ops[i]? = some oi) (hsel : ∀ (j : Nat) (o : Oper) cs b, ops[j]? = some o → o.op ≠ .select cs b)
    (hW : waitsK ops B i = true) (hiB : B.contains i = false) (hQ : ∀ c a w, Q (.panic c) (a.put oi.dst v) w → Q (.panic c) a w) :
    ∀ (fuel : Nat) (listed : Array Bool) (a : Act) (w : World), I w → Closed ops listed →
      (∀ j oj, ops[j]? = some oj → j ≠ i → listed.getD j true = false → (∀ e ∈ oj.after, Region.binds .any e = true → e.on ≠ i) → oi.apart ops oj = true) →
      i ∈ Region.ready .any ops listed → givesI P ops I oi v a →
      anyK P ops Q B I fuel (listed.setIfInBounds i true) (a.put oi.dst v) w → anyK P ops Q B I (fuel + 1) listed a w := by
  intro fuel
  induction fuel with
  | zero =>
    intro listed a w hI hcl _ hr hy H
    refine ⟨fun h => (by rw [h] at hr; cases hr), fun j hj => ?_⟩
    by_cases hji : j = i
    · subst hji; exact hy.op hI hi ⟨fun _ => hI, H⟩
    · have := ready_mono hj hji
      rw [H.1] at this
      cases this
  | succ fuel ih =>
    intro listed a w hI hcl hfree hr hy H
    refine ⟨fun h => (by rw [h] at hr; cases hr), fun j hj => ?_⟩
    by_cases hji : j = i
    · subst hji; exact hy.op hI hi ⟨fun _ => hI, H⟩
    · have h1 := H.2 j (ready_mono hj hji)
      obtain ⟨hjun, oj, hoj, hall⟩ := mem_ready.1 hj
      have hnot : ∀ e ∈ oj.after, Region.binds .any e = true → e.on ≠ i := fun e he hb heq => by
        have h1 := hall e he hb
        have h0 := (mem_ready.1 hr).1
        rw [heq] at h1
        rcases Nat.lt_or_ge i listed.size with h' | h'
        · simp [h'] at h0 h1; rw [h0] at h1; cases h1
        · simp [Array.getElem?_eq_none h'] at h1
      have h2 := givesI.past hoj (hfree j oj hoj hji hjun hnot) (fun cs b => hsel i oi cs b hi) (fun cs b => hsel j oj cs b hoj) hQ hy h1
      have hjB := waitsK_spec hW hcl (mem_ready.1 hr).1 hj
      have hn : noB B ((listed.setIfInBounds i true).setIfInBounds j true) = true := by
        rw [Array.setIfInBounds_comm _ _ (fun e => hji e.symm), noB_set hiB, noB_set (by simpa using hjB)]
        exact noB_ahead hW hcl (mem_ready.1 hr).1
      refine wpOp_mono (fun a' w' h3 => ⟨fun _ => h3.2.1 hn, ih (listed.setIfInBounds j true) a' w' (h3.2.1 hn) (closed_set hcl hj) ?_ (ready_mono hr (Ne.symm hji)) h3.1 ?_⟩) h2
      · intro k ok hk hki hun hno
        refine hfree k ok hk hki ?_ hno
        by_cases hjk : j = k
        · subst hjk; exact hjun
        · rw [getD_set_ne true hjk] at hun; exact hun
      · rw [Array.setIfInBounds_comm _ _ hji]
        exact h3.2.2

theorem anyK_first0 {B : List Nat} {I : World → Prop} {i : Nat} {oi : Oper} {v : Value} (hi : ops[i]? = some oi) (hsel : ∀ (j : Nat) (o : Oper) cs b, ops[j]? = some o → o.op ≠ .select cs b)
    (hiB : B.contains i = false) (hQ : ∀ c a w, Q (.panic c) (a.put oi.dst v) w → Q (.panic c) a w) :
    ∀ (fuel : Nat) (listed : Array Bool) (a : Act) (w : World), (noB B listed = true → I w) →
      (∀ j oj, ops[j]? = some oj → j ≠ i → listed.getD j true = false → (∀ e ∈ oj.after, Region.binds .any e = true → e.on ≠ i) → oi.apart ops oj = true) →
      i ∈ Region.ready .any ops listed → givesI P ops (fun _ => True) oi v a →
      anyK P ops Q B I fuel (listed.setIfInBounds i true) (a.put oi.dst v) w → anyK P ops Q B I (fuel + 1) listed a w := by
  intro fuel
  induction fuel with
  | zero =>
    intro listed a w hI _ hr hy H
    refine ⟨fun h => (by rw [h] at hr; cases hr), fun j hj => ?_⟩
    by_cases hji : j = i
    · subst hji; exact hy.op trivial hi ⟨fun hn => hI (by rw [noB_set hiB] at hn; exact hn), H⟩
    · have := ready_mono hj hji
      rw [H.1] at this
      cases this
  | succ fuel ih =>
    intro listed a w hI hfree hr hy H
    refine ⟨fun h => (by rw [h] at hr; cases hr), fun j hj => ?_⟩
    by_cases hji : j = i
    · subst hji; exact hy.op trivial hi ⟨fun hn => hI (by rw [noB_set hiB] at hn; exact hn), H⟩
    · have h1 := H.2 j (ready_mono hj hji)
      obtain ⟨hjun, oj, hoj, hall⟩ := mem_ready.1 hj
      have hnot : ∀ e ∈ oj.after, Region.binds .any e = true → e.on ≠ i := fun e he hb heq => by
        have h1 := hall e he hb
        have h0 := (mem_ready.1 hr).1
        rw [heq] at h1
        rcases Nat.lt_or_ge i listed.size with h' | h'
        · simp [h'] at h0 h1; rw [h0] at h1; cases h1
        · simp [Array.getElem?_eq_none h'] at h1
      have h2 := givesI.past hoj (hfree j oj hoj hji hjun hnot) (fun cs b => hsel i oi cs b hi) (fun cs b => hsel j oj cs b hoj) hQ hy h1
      have hn : ∀ {w' : World}, (noB B ((listed.setIfInBounds i true).setIfInBounds j true) = true → I w') → noB B (listed.setIfInBounds j true) = true → I w' := fun hx hn => hx (by
        rw [Array.setIfInBounds_comm _ _ (fun e => hji e.symm), noB_set hiB]; exact hn)
      refine wpOp_mono (fun a' w' h3 => ⟨hn h3.2.1, ih (listed.setIfInBounds j true) a' w' (hn h3.2.1) ?_ (ready_mono hr (Ne.symm hji)) h3.1 ?_⟩) h2
      · intro k ok hk hki hun hno
        refine hfree k ok hk hki ?_ hno
        by_cases hjk : j = k
        · subst hjk; exact hjun
        · rw [getD_set_ne true hjk] at hun; exact hun
      · rw [Array.setIfInBounds_comm _ _ hji]
        exact h3.2.2

theorem regk_start (B : List Nat) (I : World → Prop) {id : Nat} {a : Act} {w : World} (hm : P.follows .mixedOrders = true) (h : anyK P ops Q B I ops.size (Array.replicate ops.size false) a w.drew) : (Code.region id ops true).wp P Q a w :=
  wp_region_any hm (anyK_any _ _ _ _ h)

/-- An operation that gives v in every world in which I holds; all of B wait for it. -/
theorem regk_take {B : List Nat} {I : World → Prop} {w : World} (i d : Nat) {v : Value} {fuel : Nat} {listed : Array Bool} {T T' : Array Value} {ds : List Deferred} (hI : I w)
    (hW : waitsK ops B i = true) (hiB : B.contains i = false) (hcl : closedB ops listed = true) (hs : Region.noSelect ops = true) (hf : Region.free .any ops listed i = true) (hr : (Region.ready .any ops listed).contains i = true)
    (hQ : ∀ c a w, Q (.panic c) (a.put (some d) v) w → Q (.panic c) a w)
    (hstep : ∀ o, ops[i]? = some o → o.dst = some d ∧ Region.wanted o (yielded ops T) = true ∧ ∀ W, I W → (execOp (Act.mk T ds).eval o).run P W = .ok (.value v) W)
    (hT : T.setIfInBounds d v = T') (h : anyK P ops Q B I fuel (listed.setIfInBounds i true) ⟨T', ds⟩ w) : anyK P ops Q B I (fuel + 1) listed ⟨T, ds⟩ w := by
  have hi : ∃ o, ops[i]? = some o := by
    simp only [List.contains_iff_mem] at hr
    obtain ⟨_, o, ho, _⟩ := mem_ready.1 hr
    exact ⟨o, ho⟩
  obtain ⟨o, ho⟩ := hi
  obtain ⟨h1, h2, h3⟩ := hstep o ho
  subst hT
  exact anyK_first ho (Region.noSelect_spec hs) hW hiB (by rw [h1]; exact hQ) fuel listed _ w hI (closedB_spec hcl) (Region.free_spec ho hf) (by simpa using hr) (.inl ⟨h2, h3⟩) (by rw [h1]; exact h)

/-- One that reads no memory: it gives v in every world. -/
theorem regk_free {B : List Nat} {I : World → Prop} {w : World} (i d : Nat) {v : Value} {fuel : Nat} {listed : Array Bool} {T T' : Array Value} {ds : List Deferred} (hI : noB B listed = true → I w)
    (hiB : B.contains i = false) (hs : Region.noSelect ops = true) (hf : Region.free .any ops listed i = true) (hr : (Region.ready .any ops listed).contains i = true)
    (hQ : ∀ c a w, Q (.panic c) (a.put (some d) v) w → Q (.panic c) a w)
    (hstep : ∀ o, ops[i]? = some o → o.dst = some d ∧ Region.wanted o (yielded ops T) = true ∧ ∀ W, (execOp (Act.mk T ds).eval o).run P W = .ok (.value v) W)
    (hT : T.setIfInBounds d v = T') (h : anyK P ops Q B I fuel (listed.setIfInBounds i true) ⟨T', ds⟩ w) : anyK P ops Q B I (fuel + 1) listed ⟨T, ds⟩ w := by
  have hi : ∃ o, ops[i]? = some o := by
    simp only [List.contains_iff_mem] at hr
    obtain ⟨_, o, ho, _⟩ := mem_ready.1 hr
    exact ⟨o, ho⟩
  obtain ⟨o, ho⟩ := hi
  obtain ⟨h1, h2, h3⟩ := hstep o ho
  subst hT
  exact anyK_first0 ho (Region.noSelect_spec hs) hiB (by rw [h1]; exact hQ) fuel listed _ w hI (Region.free_spec ho hf) (by simpa using hr) (.inl ⟨h2, fun W _ => h3 W⟩) (by rw [h1]; exact h)

/-- A call of a Go function, when nothing else can come up. -/
theorem regk_call {B : List Nat} {I I' : World → Prop} (hII : ∀ W, I' W → I W) {w : World} (i d : Nat) {fuel : Nat} {listed : Array Bool} {T : Array Value} {ds : List Deferred} (hr : Region.ready .any ops listed = [i])
    (f : FuncId) (args : Array Value) (hstep : ∀ o, ops[i]? = some o → o.dst = some d ∧ Region.wanted o (yielded ops T) = true ∧ ∀ W, (execOp (Act.mk T ds).eval o).run P W = .ok (.enter f args) W)
    (h : Calls P f args w fun e w' => ∃ v T', e = .returned v ∧ (noB B (listed.setIfInBounds i true) = true → I' w') ∧ T.setIfInBounds d v = T' ∧ anyK P ops Q B I' fuel (listed.setIfInBounds i true) ⟨T', ds⟩ w') :
    anyK P ops Q B I (fuel + 1) listed ⟨T, ds⟩ w := by
  refine ⟨(fun h0 => by rw [hr] at h0; cases h0), fun j hj => ?_⟩
  have hmem : i ∈ Region.ready .any ops listed := by rw [hr]; simp
  rw [hr] at hj
  simp only [List.mem_singleton] at hj
  subst hj
  obtain ⟨_, o, ho, _⟩ := mem_ready.1 hmem
  obtain ⟨h1, h2, h3⟩ := hstep o ho
  unfold wpOp
  simp only [ho, h2, if_true]
  refine .inl ?_
  unfold Oper.wp
  rw [h3, Oper.upon_enter]
  refine Calls.mono h fun e w' he => ?_
  obtain ⟨v, T', rfl, hl, rfl, hk⟩ := he
  simp only [h1]
  exact ⟨fun hn => hII _ (hl hn), anyK_mono hII _ _ _ _ hk⟩

/-- An operation that makes or writes memory, when nothing else can come up. -/
theorem regk_make {B : List Nat} {I I' : World → Prop} (hII : ∀ W, I' W → I W) {w w' : World} (i d : Nat) {v : Value} {fuel : Nat} {listed : Array Bool} {T T' : Array Value} {ds : List Deferred} (hr : Region.ready .any ops listed = [i])
    (hstep : ∀ o, ops[i]? = some o → o.dst = some d ∧ Region.wanted o (yielded ops T) = true ∧ (execOp (Act.mk T ds).eval o).run P w = .ok (.value v) w') (hl : noB B (listed.setIfInBounds i true) = true → I' w')
    (hT : T.setIfInBounds d v = T') (h : anyK P ops Q B I' fuel (listed.setIfInBounds i true) ⟨T', ds⟩ w') :
    anyK P ops Q B I (fuel + 1) listed ⟨T, ds⟩ w := by
  refine ⟨(fun h0 => by rw [hr] at h0; cases h0), fun j hj => ?_⟩
  have hmem : i ∈ Region.ready .any ops listed := by rw [hr]; simp
  rw [hr] at hj
  simp only [List.mem_singleton] at hj
  subst hj
  obtain ⟨_, o, ho, _⟩ := mem_ready.1 hmem
  obtain ⟨h1, h2, h3⟩ := hstep o ho
  unfold wpOp
  simp only [ho, h2, if_true]
  refine .inl ?_
  unfold Oper.wp
  rw [h3]
  simp only [Oper.upon, h1]
  subst hT
  exact ⟨fun hn => hII _ (hl hn), anyK_mono hII _ _ _ _ h⟩

/-- A store, when nothing else can come up. -/
theorem regk_store {B : List Nat} {I I' : World → Prop} (hII : ∀ W, I' W → I W) {w w' : World} (i : Nat) {fuel : Nat} {listed : Array Bool} {T : Array Value} {ds : List Deferred} (hr : Region.ready .any ops listed = [i])
    (hstep : ∀ o, ops[i]? = some o → o.dst = none ∧ Region.wanted o (yielded ops T) = true ∧ (execOp (Act.mk T ds).eval o).run P w = .ok .skip w') (hl : noB B (listed.setIfInBounds i true) = true → I' w')
    (h : anyK P ops Q B I' fuel (listed.setIfInBounds i true) ⟨T, ds⟩ w') :
    anyK P ops Q B I (fuel + 1) listed ⟨T, ds⟩ w := by
  refine ⟨(fun h0 => by rw [hr] at h0; cases h0), fun j hj => ?_⟩
  have hmem : i ∈ Region.ready .any ops listed := by rw [hr]; simp
  rw [hr] at hj
  simp only [List.mem_singleton] at hj
  subst hj
  obtain ⟨_, o, ho, _⟩ := mem_ready.1 hmem
  obtain ⟨h1, h2, h3⟩ := hstep o ho
  unfold wpOp
  simp only [ho, h2, if_true]
  refine .inl ?_
  unfold Oper.wp
  rw [h3]
  simp only [Oper.upon, h1]
  exact ⟨fun hn => hII _ (hl hn), anyK_mono hII _ _ _ _ h⟩

/-- What append, as an operation, does: what its builtin does. -/
theorem exec_appK {o : Oper} {a : Act} {t : TypeId} {v u v' : Value} {W w' : World} (s x : Operand) (ho : o.op = .call { callee := .builtin .append, args := #[s, x], argTypes := #[t, t] })
    (hs : a.eval s = v) (hx : a.eval x = u) (hrun : (Builtin.append_ #[t, t] o.type #[v, u]).run P W = .ok v' w') : (execOp a.eval o).run P W = .ok (.value v') w' := by
  unfold execOp
  simp only [ho, resolve, invoke, builtin, Sem.run_bind, Sem.run_pure, Result.andThen_ok, List.map_toArray, List.map_cons, List.map_nil, hs, hx, hrun]

theorem regk_done {B : List Nat} {I : World → Prop} {fuel : Nat} {listed : Array Bool} {a : Act} {w : World} (hr : Region.ready .any ops listed = []) (h : Q .normal a w) : anyK P ops Q B I fuel listed a w := by
  cases fuel with
  | zero => exact ⟨hr, h⟩
  | succ n => exact ⟨fun _ => h, by rw [hr]; simp⟩
end
end Go.Proofs.Ytlpakooogbaclaa
/- Program-free laws: a region whose order is open, of which an operation that makes memory may come between calls: the walk forks there; what the region leaves is said once, so that the forks meet again. -/
namespace Go.Proofs.Ytlpakooogbaclaa
open Go.RowKit
set_option linter.unusedVariables false

section
variable {P : Program} {ops : Array Oper} {Q : Exit → Act → World → Prop}

/-- What is said of a region that ends as it should. -/
def Ends (R : Act → World → Prop) : Exit → Act → World → Prop
  | .normal, a, w => R a w
  | _, _, _ => False
theorem Ends.mk {R : Act → World → Prop} {a : Act} {w : World} (h : R a w) : Ends R .normal a w := h
theorem region_via {id : Nat} {a : Act} {w : World} (R : Act → World → Prop) (h : (Code.region id ops true).wp P (Ends R) a w) (hk : ∀ a w, R a w → Q .normal a w) : (Code.region id ops true).wp P Q a w :=
  Code.wp_mono (fun e a w q => by cases e <;> first | exact hk _ _ q | exact q.elim) h

/-- One of two that may come. -/
theorem regk_fork {B : List Nat} {I : World → Prop} {w : World} (i j : Nat) {fuel : Nat} {listed : Array Bool} {a : Act} (hr : Region.ready .any ops listed = [i, j])
    (h1 : wpOp P ops Q i (fun a' w' => (noB B (listed.setIfInBounds i true) = true → I w') ∧ anyK P ops Q B I fuel (listed.setIfInBounds i true) a' w') a w)
    (h2 : wpOp P ops Q j (fun a' w' => (noB B (listed.setIfInBounds j true) = true → I w') ∧ anyK P ops Q B I fuel (listed.setIfInBounds j true) a' w') a w) :
    anyK P ops Q B I (fuel + 1) listed a w := by
  refine ⟨(fun h0 => by rw [hr] at h0; cases h0), fun k hk => ?_⟩
  rw [hr] at hk
  simp only [List.mem_cons, List.not_mem_nil, or_false] at hk
  rcases hk with rfl | rfl
  · exact h1
  · exact h2
theorem fork_call {K : Act → World → Prop} {w : World} (i d : Nat) {T : Array Value} {ds : List Deferred} (hi : (ops[i]?).isSome = true)
    (f : FuncId) (args : Array Value) (hstep : ∀ o, ops[i]? = some o → o.dst = some d ∧ Region.wanted o (yielded ops T) = true ∧ ∀ W, (execOp (Act.mk T ds).eval o).run P W = .ok (.enter f args) W)
    (h : Calls P f args w fun e w' => ∃ v T', e = .returned v ∧ T.setIfInBounds d v = T' ∧ K ⟨T', ds⟩ w') : wpOp P ops Q i K ⟨T, ds⟩ w := by
  obtain ⟨o, ho⟩ := Option.isSome_iff_exists.1 hi
  obtain ⟨h1, h2, h3⟩ := hstep o ho
  unfold wpOp
  simp only [ho, h2, if_true]
  refine .inl ?_
  unfold Oper.wp
  rw [h3, Oper.upon_enter]
  refine Calls.mono h fun e w' he => ?_
  obtain ⟨v, T', rfl, rfl, hk⟩ := he
  simp only [h1]
  exact hk
theorem fork_make {K : Act → World → Prop} {w w' : World} (i d : Nat) {v : Value} {T T' : Array Value} {ds : List Deferred} (hi : (ops[i]?).isSome = true)
    (hstep : ∀ o, ops[i]? = some o → o.dst = some d ∧ Region.wanted o (yielded ops T) = true ∧ (execOp (Act.mk T ds).eval o).run P w = .ok (.value v) w')
    (hT : T.setIfInBounds d v = T') (h : K ⟨T', ds⟩ w') : wpOp P ops Q i K ⟨T, ds⟩ w := by
  obtain ⟨o, ho⟩ := Option.isSome_iff_exists.1 hi
  obtain ⟨h1, h2, h3⟩ := hstep o ho
  unfold wpOp
  simp only [ho, h2, if_true]
  refine .inl ?_
  unfold Oper.wp
  rw [h3]
  simp only [Oper.upon, h1]
  subst hT
  exact h
end
end Go.Proofs.Ytlpakooogbaclaa
/- Program-free laws: a region whose order is open, inside a round of a loop over a function (a fence that asks nothing), walked once: as XBreg, in the fence. -/
namespace Go.Proofs.Ytlpakooogbaclaa
open Go.RowKit
set_option linter.unusedVariables false

/-- A fence that asks nothing. -/
structure Easy (F : Fence) (n : Nat) (P : Program) : Prop where
  fn : ∀ f, F.fn f
  depth : F.depth = none
  calls : ∀ {f : FuncId} {args : Array Value} {w : World} {R : Ending → World → Prop}, Calls P f args w R → CallsIn F (n - 1) P f args w R
theorem easy_round (l n : Nat) (P : Program) : Easy (Fence.wide.inRound l) n P := ⟨fun _ => trivial, rfl, fun h => CallsIn.inRound l (callsIn_wide.2 h)⟩
theorem easy_wide (n : Nat) (P : Program) : Easy Fence.wide n P := ⟨fun _ => trivial, rfl, fun h => callsIn_wide.2 h⟩

def noDefer (ops : Array Oper) : Bool := ops.toList.all fun o => match o.op with | .defer _ => false | _ => true
theorem noDefer_spec {ops : Array Oper} (h : noDefer ops = true) {j : Nat} {o : Oper} (ho : ops[j]? = some o) (ro : Option Nat) (ρ : Operand → Value) : o.semAt ro ρ = execOp ρ o := by
  refine Oper.semAt_eq ro ρ o fun c hc => ?_
  have := List.all_eq_true.1 h o (by rw [Array.mem_toList_iff]; exact Array.mem_of_getElem? ho)
  rw [hc] at this
  cases this

section
variable {F : Fence} {n : Nat} {P : Program} {ops : Array Oper} {Q : Exit → Act → World → Prop}

/-- Every order; in every world that comes up I holds, but behind an operation of B. -/
def anyJ (F : Fence) (n : Nat) (P : Program) (ops : Array Oper) (Q : Exit → Act → World → Prop) (B : List Nat) (I : World → Prop) : Nat → Array Bool → Act → World → Prop
  | 0, listed, a, w => Region.ready .any ops listed = [] ∧ Q .normal a w
  | fuel + 1, listed, a, w =>
    (Region.ready .any ops listed = [] → Q .normal a w) ∧
    ∀ i ∈ Region.ready .any ops listed, wpOpIn F n P ops Q i (fun a' w' => (B.contains i = true ∨ I w') ∧ anyJ F n P ops Q B I fuel (listed.setIfInBounds i true) a' w') a w

theorem anyJ_any {B : List Nat} {I : World → Prop} : ∀ (fuel : Nat) (listed : Array Bool) (a : Act) (w : World), anyJ F n P ops Q B I fuel listed a w → wpAnyIn F n P .any ops Q fuel listed a w
  | 0, _, _, _, h => h
  | fuel + 1, listed, a, w, h => ⟨h.1, fun i hi => wpOpIn_mono (fun a' w' hh => anyJ_any fuel _ a' w' hh.2) (h.2 i hi)⟩
theorem anyJ_mono {B : List Nat} {I I' : World → Prop} (hI : ∀ w, I' w → I w) : ∀ (fuel : Nat) (listed : Array Bool) (a : Act) (w : World), anyJ F n P ops Q B I' fuel listed a w → anyJ F n P ops Q B I fuel listed a w
  | 0, _, _, _, h => h
  | fuel + 1, listed, a, w, h => ⟨h.1, fun i hi => wpOpIn_mono (fun a' w' hh => ⟨hh.1.imp id (hI _), anyJ_mono hI fuel _ a' w' hh.2⟩) (h.2 i hi)⟩

/-- Each operation of B waits for i. -/
def waits (ops : Array Oper) (B : List Nat) (i : Nat) : Bool := B.all fun j => match ops[j]? with | some o => o.after.toList.any fun e => Region.binds .any e && e.on == i | none => true
theorem waits_spec {B : List Nat} {i : Nat} (h : waits ops B i = true) {j : Nat} {o : Oper} (hj : B.contains j = true) (ho : ops[j]? = some o) : ∃ e ∈ o.after, Region.binds .any e = true ∧ e.on = i := by
  have h1 := List.all_eq_true.1 h j (by simpa using hj)
  rw [ho] at h1
  obtain ⟨e, he, h2⟩ := List.any_eq_true.1 h1
  simp only [Bool.and_eq_true, beq_iff_eq] at h2
  exact ⟨e, by rw [← Array.mem_toList_iff]; exact he, h2⟩

theorem givesJ_op (E : Easy F n P) (hd : noDefer ops = true) {I : World → Prop} {i : Nat} {o : Oper} {v : Value} {a : Act} {w : World} (hI : I w) (hi : ops[i]? = some o) (h : givesI P ops I o v a)
    {K : Act → World → Prop} (hK : K (a.put o.dst v) w) : wpOpIn F n P ops Q i K a w := by
  unfold Go.wpOpIn
  simp only [hi]
  rcases h with ⟨hw, hv⟩ | ⟨hw, rfl⟩
  · simp only [hw, if_true, Oper.wpIn, noDefer_spec hd hi, hv w hI, Oper.uponIn]; exact ⟨fun f _ => E.fn f, hK⟩
  · simp only [hw, Bool.false_eq_true, if_false]; exact ⟨fun f _ => E.fn f, hK⟩

theorem givesJ_past (E : Easy F n P) (hd : noDefer ops = true) {I : World → Prop} {j : Nat} {oi oj : Oper} {v : Value} (hj : ops[j]? = some oj) (hap : oi.apart ops oj = true)
    (hsi : ∀ cs b, oi.op ≠ .select cs b) (hsj : ∀ cs b, oj.op ≠ .select cs b) (hQ : ∀ c a w, Q (.panic c) (a.put oi.dst v) w → Q (.panic c) a w)
    {K : Act → World → Prop} {a : Act} {w : World} (hy : givesI P ops I oi v a) (h : wpOpIn F n P ops Q j K (a.put oi.dst v) w) :
    wpOpIn F n P ops Q j (fun a' w' => givesI P ops I oi v a' ∧ K (a'.put oi.dst v) w') a w := by
  obtain ⟨h1, h2, h3⟩ := Oper.apart_spec hap
  have keep : ∀ (a : Act), givesI P ops I oi v a → ∀ u, givesI P ops I oi v (a.put oj.dst u) := fun a hy u =>
    hy.same (execOp_put oi hsi a oj.dst u h3) (wanted_put oi a oj.dst u h3)
  have keepD : ∀ d, givesI P ops I oi v { a with defers := d :: a.defers } := fun d => hy.same rfl rfl
  unfold wpOpIn at *
  simp only [hj] at h ⊢
  rw [wanted_put oj a oi.dst v h1] at h
  split
  · rename_i hw
    simp only [hw, if_true] at h
    unfold Oper.wpIn at *
    refine ⟨fun f _ => E.fn f, ?_⟩
    have h := h.2
    rw [noDefer_spec hd hj, execOp_put oj hsj a oi.dst v h1] at h
    rw [noDefer_spec hd hj]
    generalize (execOp a.eval oj).run P w = r at *
    cases r with
    | ok x w' =>
      cases x <;> simp only [Oper.uponIn] at h ⊢
      case value u => exact ⟨keep a hy u, by rw [← Act.put_comm a v u h2]; exact h⟩
      case skip => exact ⟨keep a hy _, by rw [← Act.put_comm a v undef h2]; exact h⟩
      case defer d =>
        refine ⟨keep _ (keepD d) _, ?_⟩
        rw [← Act.put_comm _ v undef h2, ← Act.put_defers]
        exact h
      case enter f args =>
        refine ⟨h.1, CallsIn.mono h.2 fun e w'' he => ?_⟩
        cases e with
        | returned u => exact ⟨keep a hy u, by rw [← Act.put_comm a v u h2]; exact he⟩
        | panicked c => exact hQ _ _ _ he
        | outgrown => exact he
      case row row args => exact ⟨h.1, RowsIn.mono h.2 fun u w'' he => ⟨keep a hy u, by rw [← Act.put_comm a v u h2]; exact he⟩⟩
      case round l f tmps assign body =>
        refine ⟨h.1, RoundIn.mono h.2 fun e w'' he => ?_⟩
        cases e with
        | returned u => exact ⟨keep a hy u, by rw [← Act.put_comm a v u h2]; exact he⟩
        | panicked c => exact hQ _ _ _ he
        | outgrown => exact he
    | halt x w' =>
      cases x <;> simp only [Oper.uponIn] at h ⊢
      case panic u => exact hQ _ _ _ h
  · rename_i hw
    simp only [hw] at h
    exact ⟨fun f _ => E.fn f, keep a hy _, by rw [← Act.put_comm a v undef h2]; exact h.2⟩

theorem anyJ_first (E : Easy F n P) (hd : noDefer ops = true) {B : List Nat} {I : World → Prop} {i : Nat} {oi : Oper} {v : Value} (hi : ops[i]? = some oi) (hsel : ∀ (j : Nat) (o : Oper) cs b, ops[j]? = some o → o.op ≠ .select cs b)
    (hB : waits ops B i = true) (hQ : ∀ c a w, Q (.panic c) (a.put oi.dst v) w → Q (.panic c) a w) :
    ∀ (fuel : Nat) (listed : Array Bool) (a : Act) (w : World), I w →
      (∀ j oj, ops[j]? = some oj → j ≠ i → listed.getD j true = false → (∀ e ∈ oj.after, Region.binds .any e = true → e.on ≠ i) → oi.apart ops oj = true) →
      i ∈ Region.ready .any ops listed → givesI P ops I oi v a →
      anyJ F n P ops Q B I fuel (listed.setIfInBounds i true) (a.put oi.dst v) w → anyJ F n P ops Q B I (fuel + 1) listed a w := by
  intro fuel
  induction fuel with
  | zero =>
    intro listed a w hI _ hr hy H
    refine ⟨fun h => (by rw [h] at hr; cases hr), fun j hj => ?_⟩
    by_cases hji : j = i
    · subst hji; exact givesJ_op E hd hI hi hy ⟨.inr hI, H⟩
    · have := ready_mono hj hji
      rw [H.1] at this
      cases this
  | succ fuel ih =>
    intro listed a w hI hfree hr hy H
    refine ⟨fun h => (by rw [h] at hr; cases hr), fun j hj => ?_⟩
    by_cases hji : j = i
    · subst hji; exact givesJ_op E hd hI hi hy ⟨.inr hI, H⟩
    · have h1 := H.2 j (ready_mono hj hji)
      obtain ⟨hjun, oj, hoj, hall⟩ := mem_ready.1 hj
      have hnot : ∀ e ∈ oj.after, Region.binds .any e = true → e.on ≠ i := fun e he hb heq => by
        have h1 := hall e he hb
        have h0 := (mem_ready.1 hr).1
        rw [heq] at h1
        rcases Nat.lt_or_ge i listed.size with h' | h'
        · simp [h'] at h0 h1; rw [h0] at h1; cases h1
        · simp [Array.getElem?_eq_none h'] at h1
      have h2 := givesJ_past E hd hoj (hfree j oj hoj hji hjun hnot) (fun cs b => hsel i oi cs b hi) (fun cs b => hsel j oj cs b hoj) hQ hy h1
      have hjB : ¬ B.contains j = true := fun hx => by
        obtain ⟨e, he, hb, hon⟩ := waits_spec hB hx hoj
        exact hnot e he hb hon
      have hI2 : ∀ {w' : World}, (B.contains j = true ∨ I w') → I w' := fun hx => hx.resolve_left hjB
      refine wpOpIn_mono (fun a' w' h3 => ⟨.inr (hI2 h3.2.1), ih (listed.setIfInBounds j true) a' w' (hI2 h3.2.1) ?_ (ready_mono hr (Ne.symm hji)) h3.1 ?_⟩) h2
      · intro k ok hk hki hun hno
        refine hfree k ok hk hki ?_ hno
        by_cases hjk : j = k
        · subst hjk; exact hjun
        · rw [getD_set_ne true hjk] at hun; exact hun
      · rw [Array.setIfInBounds_comm _ _ hji]
        exact h3.2.2

theorem regj_start (B : List Nat) (I : World → Prop) {id : Nat} {a : Act} {w : World} (hm : P.follows .mixedOrders = true) (h : anyJ F n P ops Q B I ops.size (Array.replicate ops.size false) a w.drew) : (Code.region id ops true).wpIn F n P Q a w :=
  wpIn_region_any hm (anyJ_any _ _ _ _ h)

/-- An operation that gives v in every world that may come up, the frame written out: T before, T' behind. -/
theorem regj_take (E : Easy F n P) {B : List Nat} {I : World → Prop} {w : World} (i d : Nat) {v : Value} {fuel : Nat} {listed : Array Bool} {T T' : Array Value} {ds : List Deferred} (hI : I w) (hd : noDefer ops = true) (hB : waits ops B i = true)
    (hs : Region.noSelect ops = true) (hf : Region.free .any ops listed i = true) (hr : (Region.ready .any ops listed).contains i = true)
    (hQ : ∀ c a w, Q (.panic c) (a.put (some d) v) w → Q (.panic c) a w)
    (hstep : ∀ o, ops[i]? = some o → o.dst = some d ∧ Region.wanted o (yielded ops T) = true ∧ ∀ W, I W → (execOp (Act.mk T ds).eval o).run P W = .ok (.value v) W)
    (hT : T.setIfInBounds d v = T') (h : anyJ F n P ops Q B I fuel (listed.setIfInBounds i true) ⟨T', ds⟩ w) : anyJ F n P ops Q B I (fuel + 1) listed ⟨T, ds⟩ w := by
  have hi : ∃ o, ops[i]? = some o := by
    simp only [List.contains_iff_mem] at hr
    obtain ⟨_, o, ho, _⟩ := mem_ready.1 hr
    exact ⟨o, ho⟩
  obtain ⟨o, ho⟩ := hi
  obtain ⟨h1, h2, h3⟩ := hstep o ho
  subst hT
  exact anyJ_first E hd ho (Region.noSelect_spec hs) hB (by rw [h1]; exact hQ) fuel listed _ w hI (Region.free_spec ho hf) (by simpa using hr) (.inl ⟨h2, h3⟩) (by rw [h1]; exact h)

/-- A call of a Go function, when nothing else can come up. -/
theorem regj_call (E : Easy F n P) {B : List Nat} {I I' : World → Prop} (hII : ∀ W, I' W → I W) {w : World} (i d : Nat) {fuel : Nat} {listed : Array Bool} {T : Array Value} {ds : List Deferred} (hd : noDefer ops = true) (hr : Region.ready .any ops listed = [i])
    (f : FuncId) (args : Array Value) (hstep : ∀ o, ops[i]? = some o → o.dst = some d ∧ Region.wanted o (yielded ops T) = true ∧ ∀ W, (execOp (Act.mk T ds).eval o).run P W = .ok (.enter f args) W)
    (h : Calls P f args w fun e w' => ∃ v T', e = .returned v ∧ I' w' ∧ T.setIfInBounds d v = T' ∧ anyJ F n P ops Q B I' fuel (listed.setIfInBounds i true) ⟨T', ds⟩ w') :
    anyJ F n P ops Q B I (fuel + 1) listed ⟨T, ds⟩ w := by
  refine ⟨(fun h0 => by rw [hr] at h0; cases h0), fun j hj => ?_⟩
  have hmem : i ∈ Region.ready .any ops listed := by rw [hr]; simp
  rw [hr] at hj
  simp only [List.mem_singleton] at hj
  subst hj
  obtain ⟨_, o, ho, _⟩ := mem_ready.1 hmem
  obtain ⟨h1, h2, h3⟩ := hstep o ho
  unfold wpOpIn
  simp only [ho, h2, if_true]
  unfold Oper.wpIn
  refine ⟨fun f _ => E.fn f, ?_⟩
  rw [noDefer_spec hd ho, h3, Oper.uponIn_enter]
  refine ⟨fun hx => (by rw [E.depth] at hx; cases hx), CallsIn.mono (E.calls h) fun e w' he => ?_⟩
  obtain ⟨v, T', rfl, hl, rfl, hk⟩ := he
  simp only [h1]
  exact ⟨.inr (hII _ hl), anyJ_mono hII _ _ _ _ hk⟩

/-- An operation that makes or writes memory (no call), when nothing else can come up; d none: a store. -/
theorem regj_make {B : List Nat} {I I' : World → Prop} (E : Easy F n P) (hII : ∀ W, I' W → I W) {w w' : World} (i : Nat) (d : Option Nat) {v : Value} {fuel : Nat} {listed : Array Bool} {T T' : Array Value} {ds : List Deferred} (hd : noDefer ops = true) (hr : Region.ready .any ops listed = [i])
    (hstep : ∀ o, ops[i]? = some o → o.dst = d ∧ Region.wanted o (yielded ops T) = true ∧ (execOp (Act.mk T ds).eval o).run P w = .ok (.value v) w') (hl : B.contains i = true ∨ I' w')
    (hT : (Act.mk T ds).put d v = Act.mk T' ds) (h : anyJ F n P ops Q B I' fuel (listed.setIfInBounds i true) ⟨T', ds⟩ w') :
    anyJ F n P ops Q B I (fuel + 1) listed ⟨T, ds⟩ w := by
  refine ⟨(fun h0 => by rw [hr] at h0; cases h0), fun j hj => ?_⟩
  have hmem : i ∈ Region.ready .any ops listed := by rw [hr]; simp
  rw [hr] at hj
  simp only [List.mem_singleton] at hj
  subst hj
  obtain ⟨_, o, ho, _⟩ := mem_ready.1 hmem
  obtain ⟨h1, h2, h3⟩ := hstep o ho
  unfold wpOpIn
  simp only [ho, h2, if_true]
  unfold Oper.wpIn
  refine ⟨fun f _ => E.fn f, ?_⟩
  rw [noDefer_spec hd ho, h3, Oper.uponIn_value, h1, hT]
  exact ⟨hl.imp id (hII _), anyJ_mono hII _ _ _ _ h⟩

/-- A store, when nothing else can come up. -/
theorem regj_store {B : List Nat} {I I' : World → Prop} (E : Easy F n P) (hII : ∀ W, I' W → I W) {w w' : World} (i : Nat) {fuel : Nat} {listed : Array Bool} {T : Array Value} {ds : List Deferred} (hd : noDefer ops = true) (hr : Region.ready .any ops listed = [i])
    (hstep : ∀ o, ops[i]? = some o → o.dst = none ∧ Region.wanted o (yielded ops T) = true ∧ (execOp (Act.mk T ds).eval o).run P w = .ok .skip w') (hl : B.contains i = true ∨ I' w')
    (h : anyJ F n P ops Q B I' fuel (listed.setIfInBounds i true) ⟨T, ds⟩ w') :
    anyJ F n P ops Q B I (fuel + 1) listed ⟨T, ds⟩ w := by
  refine ⟨(fun h0 => by rw [hr] at h0; cases h0), fun j hj => ?_⟩
  have hmem : i ∈ Region.ready .any ops listed := by rw [hr]; simp
  rw [hr] at hj
  simp only [List.mem_singleton] at hj
  subst hj
  obtain ⟨_, o, ho, _⟩ := mem_ready.1 hmem
  obtain ⟨h1, h2, h3⟩ := hstep o ho
  unfold wpOpIn
  simp only [ho, h2, if_true]
  unfold Oper.wpIn
  refine ⟨fun f _ => E.fn f, ?_⟩
  rw [noDefer_spec hd ho, h3, Oper.uponIn_skip, h1]
  exact ⟨hl.imp id (hII _), anyJ_mono hII _ _ _ _ h⟩

/-- What append, as an operation, does: what its builtin does. -/
theorem exec_app {o : Oper} {a : Act} {t : TypeId} {v u v' : Value} {W w' : World} (s x : Operand) (ho : o.op = .call { callee := .builtin .append, args := #[s, x], argTypes := #[t, t] })
    (hs : a.eval s = v) (hx : a.eval x = u) (hrun : (Builtin.append_ #[t, t] o.type #[v, u]).run P W = .ok v' w') : (execOp a.eval o).run P W = .ok (.value v') w' := by
  unfold execOp
  simp only [ho, resolve, invoke, builtin, Sem.run_bind, Sem.run_pure, Result.andThen_ok, List.map_toArray, List.map_cons, List.map_nil, hs, hx, hrun]

theorem regj_done {B : List Nat} {I : World → Prop} {fuel : Nat} {listed : Array Bool} {a : Act} {w : World} (hr : Region.ready .any ops listed = []) (h : Q .normal a w) : anyJ F n P ops Q B I fuel listed a w := by
  cases fuel with
  | zero => exact ⟨hr, h⟩
  | succ n => exact ⟨fun _ => h, by rw [hr]; simp⟩
end
end Go.Proofs.Ytlpakooogbaclaa
