/- Program-free laws: a region whose order is open, walked once: operations that give the same in every later world are taken in the text's order; a call when nothing else is left to come up. -/
import Derived.Orders
import Derived.RegionTactic
import Derived.Below
import Derived.WalkKit
namespace Go.Proofs.Ytecomnklofceaaa
open Go.RowKit
set_option linter.unusedVariables false

section
variable {P : Program} {ops : Array Oper} {Q : Exit → Act → World → Prop}

/-- Every order, and in every world that comes up I holds. -/
def anyI (P : Program) (ops : Array Oper) (Q : Exit → Act → World → Prop) (I : World → Prop) : Nat → Array Bool → Act → World → Prop
  | 0, listed, a, w => Region.ready .any ops listed = [] ∧ Q .normal a w
  | fuel + 1, listed, a, w =>
    (Region.ready .any ops listed = [] → Q .normal a w) ∧
    ∀ i ∈ Region.ready .any ops listed, wpOp P ops Q i (fun a' w' => I w' ∧ anyI P ops Q I fuel (listed.setIfInBounds i true) a' w') a w

theorem anyI_any {I : World → Prop} : ∀ (fuel : Nat) (listed : Array Bool) (a : Act) (w : World), anyI P ops Q I fuel listed a w → wpAny P .any ops Q fuel listed a w
  | 0, _, _, _, h => h
  | fuel + 1, listed, a, w, h => ⟨h.1, fun i hi => wpOp_mono (fun a' w' hh => anyI_any fuel _ a' w' hh.2) (h.2 i hi)⟩
theorem anyI_mono {I I' : World → Prop} (hI : ∀ w, I' w → I w) : ∀ (fuel : Nat) (listed : Array Bool) (a : Act) (w : World), anyI P ops Q I' fuel listed a w → anyI P ops Q I fuel listed a w
  | 0, _, _, _, h => h
  | fuel + 1, listed, a, w, h => ⟨h.1, fun i hi => wpOp_mono (fun a' w' hh => ⟨hI _ hh.1, anyI_mono hI fuel _ a' w' hh.2⟩) (h.2 i hi)⟩

/-- The operation gives v in every world in which I holds, or it is passed over. -/
def givesI (P : Program) (ops : Array Oper) (I : World → Prop) (o : Oper) (v : Value) (a : Act) : Prop :=
  (Region.wanted o (yielded ops a.tmps) = true ∧ ∀ w, I w → (execOp a.eval o).run P w = .ok (.value v) w) ∨
  (Region.wanted o (yielded ops a.tmps) = false ∧ v = undef)

theorem givesI.same {I : World → Prop} {o : Oper} {v : Value} {a a' : Act} (h : givesI P ops I o v a) (he : execOp a'.eval o = execOp a.eval o)
    (hw : Region.wanted o (yielded ops a'.tmps) = Region.wanted o (yielded ops a.tmps)) : givesI P ops I o v a' := by
  unfold givesI at *; rw [he, hw]; exact h

theorem givesI.op {I : World → Prop} {i : Nat} {o : Oper} {v : Value} {a : Act} {w : World} (hI : I w) (hi : ops[i]? = some o) (h : givesI P ops I o v a)
    {K : Act → World → Prop} (hK : K (a.put o.dst v) w) : wpOp P ops Q i K a w := by
  unfold Go.wpOp
  simp only [hi]
  rcases h with ⟨hw, hv⟩ | ⟨hw, rfl⟩
  · simp only [hw, if_true, Oper.wp, hv w hI, Oper.upon]; exact .inl hK
  · simp only [hw, Bool.false_eq_true, if_false]; exact hK

/-- Another operation ahead of it changes nothing of what it gives. -/
theorem givesI.past {I : World → Prop} {j : Nat} {oi oj : Oper} {v : Value} (hj : ops[j]? = some oj) (hap : oi.apart ops oj = true)
    (hsi : ∀ cs b, oi.op ≠ .select cs b) (hsj : ∀ cs b, oj.op ≠ .select cs b) (hQ : ∀ c a w, Q (.panic c) (a.put oi.dst v) w → Q (.panic c) a w)
    {K : Act → World → Prop} {a : Act} {w : World} (hy : givesI P ops I oi v a) (h : wpOp P ops Q j K (a.put oi.dst v) w) :
    wpOp P ops Q j (fun a' w' => givesI P ops I oi v a' ∧ K (a'.put oi.dst v) w') a w := by
  obtain ⟨h1, h2, h3⟩ := Oper.apart_spec hap
  have keep : ∀ (a : Act), givesI P ops I oi v a → ∀ u, givesI P ops I oi v (a.put oj.dst u) := fun a hy u =>
    hy.same (execOp_put oi hsi a oj.dst u h3) (wanted_put oi a oj.dst u h3)
  have keepD : ∀ d, givesI P ops I oi v { a with defers := d :: a.defers } := fun d => hy.same rfl rfl
  unfold wpOp at *
  simp only [hj] at *
  rw [wanted_put oj a oi.dst v h1] at h
  split
  · rename_i hw
    simp only [hw, if_true] at h
    rcases h with h | ⟨hasks, hlets⟩
    case inr => exact .inr ⟨by unfold Oper.asks at *; rw [execOp_put oj hsj a oi.dst v h1] at hasks; exact hasks, hlets⟩
    refine .inl ?_
    unfold Oper.wp at *
    rw [execOp_put oj hsj a oi.dst v h1] at h
    generalize (execOp a.eval oj).run P w = r at *
    cases r with
    | ok n w' =>
      cases n <;> simp only [Oper.upon] at h ⊢
      case value u => exact ⟨keep a hy u, by rw [← Act.put_comm a v u h2]; exact h⟩
      case skip => exact ⟨keep a hy _, by rw [← Act.put_comm a v undef h2]; exact h⟩
      case defer d =>
        refine ⟨keep _ (keepD d) _, ?_⟩
        rw [← Act.put_comm _ v undef h2, ← Act.put_defers]
        exact h
      case enter f args =>
        refine Calls.mono h fun e w'' he => ?_
        cases e with
        | returned u => exact ⟨keep a hy u, by rw [← Act.put_comm a v u h2]; exact he⟩
        | panicked c => exact hQ _ _ _ he
        | outgrown => exact he
      case row row args => exact Rows.mono h fun u w'' he => ⟨keep a hy u, by rw [← Act.put_comm a v u h2]; exact he⟩
    | halt x w' =>
      cases x <;> simp only [Oper.upon] at h ⊢
      case panic u => exact hQ _ _ _ h
  · rename_i hw
    simp only [hw] at h
    exact ⟨keep a hy _, by rw [← Act.put_comm a v undef h2]; exact h⟩

theorem anyI_first {I : World → Prop} {i : Nat} {oi : Oper} {v : Value} (hi : ops[i]? = some oi) (hsel : ∀ (j : Nat) (o : Oper) cs b, ops[j]? = some o → o.op ≠ .select cs b)
    (hQ : ∀ c a w, Q (.panic c) (a.put oi.dst v) w → Q (.panic c) a w) :
    ∀ (fuel : Nat) (listed : Array Bool) (a : Act) (w : World), I w →
      (∀ j oj, ops[j]? = some oj → j ≠ i → listed.getD j true = false → (∀ e ∈ oj.after, Region.binds .any e = true → e.on ≠ i) → oi.apart ops oj = true) →
      i ∈ Region.ready .any ops listed → givesI P ops I oi v a →
      anyI P ops Q I fuel (listed.setIfInBounds i true) (a.put oi.dst v) w → anyI P ops Q I (fuel + 1) listed a w := by
  intro fuel
  induction fuel with
  | zero =>
    intro listed a w hI _ hr hy H
    refine ⟨fun h => (by rw [h] at hr; cases hr), fun j hj => ?_⟩
    by_cases hji : j = i
    · subst hji; exact hy.op hI hi ⟨hI, H⟩
    · have := ready_mono hj hji
      rw [H.1] at this
      cases this
  | succ fuel ih =>
    intro listed a w hI hfree hr hy H
    refine ⟨fun h => (by rw [h] at hr; cases hr), fun j hj => ?_⟩
    by_cases hji : j = i
    · subst hji; exact hy.op hI hi ⟨hI, H⟩
    · have h1 := H.2 j (ready_mono hj hji)
      obtain ⟨hjun, oj, hoj, hall⟩ := mem_ready.1 hj
      have hnot : ∀ e ∈ oj.after, Region.binds .any e = true → e.on ≠ i := fun e he hb heq => by
        have h1 := hall e he hb
        have h0 := (mem_ready.1 hr).1
        rw [heq] at h1
        rcases Nat.lt_or_ge i listed.size with h' | h'
        · simp [h'] at h0 h1; rw [h0] at h1; cases h1
        · simp [Array.getElem?_eq_none h'] at h1
      have h2 := givesI.past hoj (hfree j oj hoj hji hjun hnot) (fun cs b => hsel i oi cs b hi) (fun cs b => hsel j oj cs b hoj) hQ hy h1
      refine wpOp_mono (fun a' w' h3 => ⟨h3.2.1, ih (listed.setIfInBounds j true) a' w' h3.2.1 ?_ (ready_mono hr (Ne.symm hji)) h3.1 ?_⟩) h2
      · intro k ok hk hki hun hno
        refine hfree k ok hk hki ?_ hno
        by_cases hjk : j = k
        · subst hjk; exact hjun
        · rw [getD_set_ne true hjk] at hun; exact hun
      · rw [Array.setIfInBounds_comm _ _ hji]
        exact h3.2.2

/-- Behind w nothing old has turned. -/
def Later (w0 w : World) : Prop := Below w0.heap.size w0 w
theorem Later.refl (w : World) : Later w w := Below.refl _ _
theorem Later.trans {a b c : World} (h : Later a b) (k : Later b c) : Later a c := Below.trans h (Below.mono k (Below.size h))

theorem reg_start {id : Nat} {a : Act} {w : World} (hm : P.follows .mixedOrders = true) (h : anyI P ops Q (Later w.drew) ops.size (Array.replicate ops.size false) a w.drew) : (Code.region id ops true).wp P Q a w :=
  wp_region_any hm (anyI_any _ _ _ _ h)

/-- An operation that gives v in every later world. -/
theorem reg_take {w0 : World} {i : Nat} {oi : Oper} {v : Value} {fuel : Nat} {listed : Array Bool} {a : Act} {w : World} (hL : Later w0 w) (hi : ops[i]? = some oi)
    (hs : Region.noSelect ops = true) (hf : Region.free .any ops listed i = true) (hr : (Region.ready .any ops listed).contains i = true)
    (hQ : ∀ c a w, Q (.panic c) (a.put oi.dst v) w → Q (.panic c) a w) (hw : Region.wanted oi (yielded ops a.tmps) = true) (hy : ∀ W, Later w0 W → (execOp a.eval oi).run P W = .ok (.value v) W)
    (h : anyI P ops Q (Later w0) fuel (listed.setIfInBounds i true) (a.put oi.dst v) w) : anyI P ops Q (Later w0) (fuel + 1) listed a w :=
  anyI_first hi (Region.noSelect_spec hs) hQ fuel listed a w hL (Region.free_spec hi hf) (by simpa using hr) (.inl ⟨hw, hy⟩) h

/-- One that is passed over. -/
theorem reg_skip {w0 : World} {i : Nat} {oi : Oper} {fuel : Nat} {listed : Array Bool} {a : Act} {w : World} (hL : Later w0 w) (hi : ops[i]? = some oi)
    (hs : Region.noSelect ops = true) (hf : Region.free .any ops listed i = true) (hr : (Region.ready .any ops listed).contains i = true)
    (hQ : ∀ c a w, Q (.panic c) (a.put oi.dst undef) w → Q (.panic c) a w) (hw : Region.wanted oi (yielded ops a.tmps) = false)
    (h : anyI P ops Q (Later w0) fuel (listed.setIfInBounds i true) (a.put oi.dst undef) w) : anyI P ops Q (Later w0) (fuel + 1) listed a w :=
  anyI_first hi (Region.noSelect_spec hs) hQ fuel listed a w hL (Region.free_spec hi hf) (by simpa using hr) (.inr ⟨hw, rfl⟩) h

/-- A call of a Go function, when nothing else can come up: what it leaves is the world that all later ones go by. -/
theorem reg_call {w0 : World} {i : Nat} {oi : Oper} {fuel : Nat} {listed : Array Bool} {a : Act} {w : World} (hL : Later w0 w) (hr : Region.ready .any ops listed = [i]) (hi : ops[i]? = some oi) (hw : Region.wanted oi (yielded ops a.tmps) = true)
    (f : FuncId) (args : Array Value) (hx : ∀ W, (execOp a.eval oi).run P W = .ok (.enter f args) W)
    (h : Calls P f args w fun e w' => ∃ v, e = .returned v ∧ Later w w' ∧ anyI P ops Q (Later w') fuel (listed.setIfInBounds i true) (a.put oi.dst v) w') :
    anyI P ops Q (Later w0) (fuel + 1) listed a w := by
  refine ⟨(fun h0 => by rw [hr] at h0; cases h0), fun j hj => ?_⟩
  rw [hr] at hj
  simp only [List.mem_singleton] at hj
  subst hj
  unfold wpOp
  simp only [hi, hw, if_true]
  refine .inl ?_
  unfold Oper.wp
  rw [hx, Oper.upon_enter]
  refine Calls.mono h fun e w' he => ?_
  obtain ⟨v, rfl, hl, hk⟩ := he
  exact ⟨hL.trans hl, anyI_mono (fun W hW => (hL.trans hl).trans hW) _ _ _ _ hk⟩

/-- The same, the frame written out: T before, T' behind. -/
theorem reg_take2 {w0 w : World} (i d : Nat) {v : Value} {fuel : Nat} {listed : Array Bool} {T T' : Array Value} {ds : List Deferred} (hL : Later w0 w)
    (hs : Region.noSelect ops = true) (hf : Region.free .any ops listed i = true) (hr : (Region.ready .any ops listed).contains i = true)
    (hQ : ∀ c a w, Q (.panic c) (a.put (some d) v) w → Q (.panic c) a w)
    (hstep : ∀ o, ops[i]? = some o → o.dst = some d ∧ Region.wanted o (yielded ops T) = true ∧ ∀ W, Later w0 W → (execOp (Act.mk T ds).eval o).run P W = .ok (.value v) W)
    (hT : T.setIfInBounds d v = T') (h : anyI P ops Q (Later w0) fuel (listed.setIfInBounds i true) ⟨T', ds⟩ w) : anyI P ops Q (Later w0) (fuel + 1) listed ⟨T, ds⟩ w := by
  have hi : ∃ o, ops[i]? = some o := by
    simp only [List.contains_iff_mem] at hr
    obtain ⟨_, o, ho, _⟩ := mem_ready.1 hr
    exact ⟨o, ho⟩
  obtain ⟨o, ho⟩ := hi
  obtain ⟨h1, h2, h3⟩ := hstep o ho
  subst hT
  exact reg_take hL ho hs hf hr (by rw [h1]; exact hQ) h2 h3 (by rw [h1]; exact h)

theorem reg_skip2 {w0 w : World} (i d : Nat) {fuel : Nat} {listed : Array Bool} {T T' : Array Value} {ds : List Deferred} (hL : Later w0 w)
    (hs : Region.noSelect ops = true) (hf : Region.free .any ops listed i = true) (hr : (Region.ready .any ops listed).contains i = true)
    (hQ : ∀ c a w, Q (.panic c) (a.put (some d) undef) w → Q (.panic c) a w)
    (hstep : ∀ o, ops[i]? = some o → o.dst = some d ∧ Region.wanted o (yielded ops T) = false)
    (hT : T.setIfInBounds d undef = T') (h : anyI P ops Q (Later w0) fuel (listed.setIfInBounds i true) ⟨T', ds⟩ w) : anyI P ops Q (Later w0) (fuel + 1) listed ⟨T, ds⟩ w := by
  have hi : ∃ o, ops[i]? = some o := by
    simp only [List.contains_iff_mem] at hr
    obtain ⟨_, o, ho, _⟩ := mem_ready.1 hr
    exact ⟨o, ho⟩
  obtain ⟨o, ho⟩ := hi
  obtain ⟨h1, h2⟩ := hstep o ho
  subst hT
  exact reg_skip hL ho hs hf hr (by rw [h1]; exact hQ) h2 (by rw [h1]; exact h)

theorem reg_call2 {w0 w : World} (i d : Nat) {fuel : Nat} {listed : Array Bool} {T : Array Value} {ds : List Deferred} (hL : Later w0 w) (hr : Region.ready .any ops listed = [i])
    (f : FuncId) (args : Array Value) (hstep : ∀ o, ops[i]? = some o → o.dst = some d ∧ Region.wanted o (yielded ops T) = true ∧ ∀ W, (execOp (Act.mk T ds).eval o).run P W = .ok (.enter f args) W)
    (h : Calls P f args w fun e w' => ∃ v T', e = .returned v ∧ Later w w' ∧ T.setIfInBounds d v = T' ∧ anyI P ops Q (Later w') fuel (listed.setIfInBounds i true) ⟨T', ds⟩ w') :
    anyI P ops Q (Later w0) (fuel + 1) listed ⟨T, ds⟩ w := by
  have hi : ∃ o, ops[i]? = some o := by
    have : i ∈ Region.ready .any ops listed := by rw [hr]; simp
    obtain ⟨_, o, ho, _⟩ := mem_ready.1 this
    exact ⟨o, ho⟩
  obtain ⟨o, ho⟩ := hi
  obtain ⟨h1, h2, h3⟩ := hstep o ho
  refine reg_call hL hr ho h2 f args h3 (h.mono fun e w' he => ?_)
  obtain ⟨v, T', rfl, hl, rfl, hk⟩ := he
  exact ⟨v, rfl, hl, by rw [h1]; exact hk⟩

/-- An operation that makes or writes memory (no call), when nothing else can come up. -/
theorem reg_make {w0 : World} {i : Nat} {oi : Oper} {v : Value} {fuel : Nat} {listed : Array Bool} {a : Act} {w w' : World} (hL : Later w0 w) (hr : Region.ready .any ops listed = [i]) (hi : ops[i]? = some oi) (hw : Region.wanted oi (yielded ops a.tmps) = true)
    (hx : (execOp a.eval oi).run P w = .ok (.value v) w') (hl : Later w w')
    (h : anyI P ops Q (Later w') fuel (listed.setIfInBounds i true) (a.put oi.dst v) w') :
    anyI P ops Q (Later w0) (fuel + 1) listed a w := by
  refine ⟨(fun h0 => by rw [hr] at h0; cases h0), fun j hj => ?_⟩
  rw [hr] at hj
  simp only [List.mem_singleton] at hj
  subst hj
  unfold wpOp
  simp only [hi, hw, if_true]
  refine .inl ?_
  unfold Oper.wp
  rw [hx]
  simp only [Oper.upon]
  exact ⟨hL.trans hl, anyI_mono (fun W hW => (hL.trans hl).trans hW) _ _ _ _ h⟩
theorem reg_make2 {w0 w w' : World} (i d : Nat) {v : Value} {fuel : Nat} {listed : Array Bool} {T T' : Array Value} {ds : List Deferred} (hL : Later w0 w) (hr : Region.ready .any ops listed = [i])
    (hstep : ∀ o, ops[i]? = some o → o.dst = some d ∧ Region.wanted o (yielded ops T) = true ∧ (execOp (Act.mk T ds).eval o).run P w = .ok (.value v) w') (hl : Later w w')
    (hT : T.setIfInBounds d v = T') (h : anyI P ops Q (Later w') fuel (listed.setIfInBounds i true) ⟨T', ds⟩ w') :
    anyI P ops Q (Later w0) (fuel + 1) listed ⟨T, ds⟩ w := by
  have hi : ∃ o, ops[i]? = some o := by
    have : i ∈ Region.ready .any ops listed := by rw [hr]; simp
    obtain ⟨_, o, ho, _⟩ := mem_ready.1 this
    exact ⟨o, ho⟩
  obtain ⟨o, ho⟩ := hi
  obtain ⟨h1, h2, h3⟩ := hstep o ho
  subst hT
  exact reg_make hL hr ho h2 h3 hl (by rw [h1]; exact h)
theorem Later.alloc (w : World) (o : Obj) : Later w (w.alloc o) := (Below.refl _ w).alloc (Nat.le_refl _) _

theorem reg_done {w0 : World} {fuel : Nat} {listed : Array Bool} {a : Act} {w : World} (hr : Region.ready .any ops listed = []) (h : Q .normal a w) : anyI P ops Q (Later w0) fuel listed a w := by
  cases fuel with
  | zero => exact ⟨hr, h⟩
  | succ n => exact ⟨fun _ => h, by rw [hr]; simp⟩
end
end Go.Proofs.Ytecomnklofceaaa
