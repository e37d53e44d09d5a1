/- Program-free laws: a region whose order is open, walked once, where some of its operations (B) turn memory: what reads memory is taken first, in the worlds I that come up ahead of B; each of B waits for it. Moves and sums, which read no memory, are taken anywhere. -/
import Derived.Test.YtecomnklofceaaaBreg
namespace Go.Proofs.Ytecomnklofceaaa
open Go.RowKit
set_option linter.unusedVariables false

section
variable {P : Program} {ops : Array Oper} {Q : Exit → Act → World → Prop}

/-- No operation of B has come. -/
def noB (B : List Nat) (listed : Array Bool) : Bool := B.all fun b => !(listed.getD b true)
/-- Every order; in every world that comes up ahead of B's I holds. -/
def anyK (P : Program) (ops : Array Oper) (Q : Exit → Act → World → Prop) (B : List Nat) (I : World → Prop) : Nat → Array Bool → Act → World → Prop
  | 0, listed, a, w => Region.ready .any ops listed = [] ∧ Q .normal a w
  | fuel + 1, listed, a, w =>
    (Region.ready .any ops listed = [] → Q .normal a w) ∧
    ∀ i ∈ Region.ready .any ops listed, wpOp P ops Q i (fun a' w' => (noB B (listed.setIfInBounds i true) = true → I w') ∧ anyK P ops Q B I fuel (listed.setIfInBounds i true) a' w') a w

theorem anyK_any {B : List Nat} {I : World → Prop} : ∀ (fuel : Nat) (listed : Array Bool) (a : Act) (w : World), anyK P ops Q B I fuel listed a w → wpAny P .any ops Q fuel listed a w
  | 0, _, _, _, h => h
  | fuel + 1, listed, a, w, h => ⟨h.1, fun i hi => wpOp_mono (fun a' w' hh => anyK_any fuel _ a' w' hh.2) (h.2 i hi)⟩
theorem anyK_mono {B : List Nat} {I I' : World → Prop} (hI : ∀ w, I' w → I w) : ∀ (fuel : Nat) (listed : Array Bool) (a : Act) (w : World), anyK P ops Q B I' fuel listed a w → anyK P ops Q B I fuel listed a w
  | 0, _, _, _, h => h
  | fuel + 1, listed, a, w, h => ⟨h.1, fun i hi => wpOp_mono (fun a' w' hh => ⟨fun hn => hI _ (hh.1 hn), anyK_mono hI fuel _ a' w' hh.2⟩) (h.2 i hi)⟩

/-- j waits for i, by however many between. -/
def reaches (ops : Array Oper) (i : Nat) : Nat → Nat → Bool
  | 0, _ => false
  | f + 1, j => match ops[j]? with | some o => o.after.toList.any fun e => Region.binds .any e && (e.on == i || reaches ops i f e.on) | none => false
def waitsK (ops : Array Oper) (B : List Nat) (i : Nat) : Bool := B.all fun j => reaches ops i ops.size j
theorem getD_up {listed : Array Bool} {k : Nat} (h : listed.getD k false = true) : listed.getD k true = true := by
  rcases Nat.lt_or_ge k listed.size with h' | h'
  · simp [h'] at h ⊢; exact h
  · simp [Array.getElem?_eq_none h'] at h
/-- With an operation all that it waits for is listed. -/
def Closed (ops : Array Oper) (listed : Array Bool) : Prop := ∀ j o, ops[j]? = some o → listed.getD j true = true → ∀ e ∈ o.after, Region.binds .any e = true → listed.getD e.on true = true
def closedB (ops : Array Oper) (listed : Array Bool) : Bool := (List.range ops.size).all fun j => match ops[j]? with | some o => !(listed.getD j true) || o.after.toList.all fun e => !(Region.binds .any e) || listed.getD e.on true | none => true
theorem closedB_spec {listed : Array Bool} (h : closedB ops listed = true) : Closed ops listed := by
  intro j o ho hj e he hb
  have hlt : j < ops.size := (Array.getElem?_eq_some_iff.1 ho).1
  have h1 := List.all_eq_true.1 h j (by simpa using hlt)
  rw [ho] at h1
  simp only [hj, Bool.not_true, Bool.false_or] at h1
  have h2 := List.all_eq_true.1 h1 e (by rw [Array.mem_toList_iff]; exact he)
  simpa [hb] using h2
theorem reaches_spec {listed : Array Bool} (hc : Closed ops listed) (i : Nat) : ∀ (f j : Nat) (o : Oper), reaches ops i f j = true → ops[j]? = some o → (∀ e ∈ o.after, Region.binds .any e = true → listed.getD e.on true = true) → listed.getD i true = true
  | 0, _, _, h, _, _ => by cases h
  | f + 1, j, o, h, ho, hd => by
    unfold reaches at h
    rw [ho] at h
    obtain ⟨e, he, h2⟩ := List.any_eq_true.1 h
    rw [Array.mem_toList_iff] at he
    simp only [Bool.and_eq_true, Bool.or_eq_true, beq_iff_eq] at h2
    have h3 := hd e he h2.1
    rcases h2.2 with h4 | h4
    · rw [← h4]; exact h3
    · cases hoe : ops[e.on]? with
      | none =>
        exfalso
        cases f with
        | zero => cases h4
        | succ f => unfold reaches at h4; rw [hoe] at h4; cases h4
      | some o' => exact reaches_spec hc i f e.on o' h4 hoe (fun e' he' hb' => hc e.on o' hoe h3 e' he' hb')
theorem waitsK_spec {B : List Nat} {i : Nat} (h : waitsK ops B i = true) {listed : Array Bool} (hc : Closed ops listed) (hi : listed.getD i true = false) {j : Nat} (hj : j ∈ Region.ready .any ops listed) : ¬ B.contains j = true := by
  intro hB
  have h1 := List.all_eq_true.1 h j (by simpa using hB)
  obtain ⟨_, o, ho, hall⟩ := mem_ready.1 hj
  have := reaches_spec hc i _ j o h1 ho (fun e he hb => getD_up (hall e he hb))
  rw [hi] at this; cases this
theorem closed_set {listed : Array Bool} (hc : Closed ops listed) {j : Nat} (hj : j ∈ Region.ready .any ops listed) : Closed ops (listed.setIfInBounds j true) := by
  obtain ⟨_, oj, hoj, hall⟩ := mem_ready.1 hj
  have up : ∀ k, listed.getD k true = true → (listed.setIfInBounds j true).getD k true = true := by
    intro k hk
    by_cases hjk : j = k
    · subst hjk
      rcases Nat.lt_or_ge j listed.size with h | h <;> simp [h]
    · rw [getD_set_ne true hjk]; exact hk
  intro k o ho hk e he hb
  by_cases hjk : j = k
  · subst hjk
    rw [hoj] at ho; cases ho
    exact up _ (getD_up (hall e he hb))
  · rw [getD_set_ne true hjk] at hk
    exact up _ (hc k o ho hk e he hb)
theorem noB_no {B : List Nat} {listed : Array Bool} {X : Prop} (h : noB B listed = false) : noB B listed = true → X := fun hn => by rw [h] at hn; cases hn
theorem noB_set {B : List Nat} {i : Nat} (hi : B.contains i = false) (listed : Array Bool) : noB B (listed.setIfInBounds i true) = noB B listed := by
  unfold noB
  rw [Bool.eq_iff_iff, List.all_eq_true, List.all_eq_true]
  have key : ∀ b ∈ B, (listed.setIfInBounds i true).getD b true = listed.getD b true := fun b hb => getD_set_ne true (fun e => by subst e; simp [hb] at hi)
  exact ⟨fun h b hb => by rw [← key b hb]; exact h b hb, fun h b hb => by rw [key b hb]; exact h b hb⟩
/-- While i has not come, nothing has that waits for it. -/
theorem noB_ahead {B : List Nat} {i : Nat} (h : waitsK ops B i = true) {listed : Array Bool} (hc : Closed ops listed) (hi : listed.getD i true = false) : noB B listed = true := by
  unfold noB
  rw [List.all_eq_true]
  intro b hb
  by_cases hl : listed.getD b true = true
  · exfalso
    have h1 := List.all_eq_true.1 h b hb
    cases hob : ops[b]? with
    | none =>
      cases hs : ops.size with
      | zero => rw [hs] at h1; cases h1
      | succ f => rw [hs] at h1; unfold reaches at h1; rw [hob] at h1; cases h1
    | some o =>
      have := reaches_spec hc i _ b o h1 hob (fun e he hb' => hc b o hob hl e he hb')
      rw [hi] at this; cases this
  · simpa using hl

theorem anyK_first {B : List Nat} {I : World → Prop} {i : Nat} {oi : Oper} {v : Value} (hi : ops[i]? = some oi) (hsel : ∀ (j : Nat) (o : Oper) cs b, ops[j]? = some o → o.op ≠ .select cs b)
    (hW : waitsK ops B i = true) (hiB : B.contains i = false) (hQ : ∀ c a w, Q (.panic c) (a.put oi.dst v) w → Q (.panic c) a w) :
    ∀ (fuel : Nat) (listed : Array Bool) (a : Act) (w : World), I w → Closed ops listed →
      (∀ j oj, ops[j]? = some oj → j ≠ i → listed.getD j true = false → (∀ e ∈ oj.after, Region.binds .any e = true → e.on ≠ i) → oi.apart ops oj = true) →
      i ∈ Region.ready .any ops listed → givesI P ops I oi v a →
      anyK P ops Q B I fuel (listed.setIfInBounds i true) (a.put oi.dst v) w → anyK P ops Q B I (fuel + 1) listed a w := by
  intro fuel
  induction fuel with
  | zero =>
    intro listed a w hI hcl _ hr hy H
    refine ⟨fun h => (by rw [h] at hr; cases hr), fun j hj => ?_⟩
    by_cases hji : j = i
    · subst hji; exact hy.op hI hi ⟨fun _ => hI, H⟩
    · have := ready_mono hj hji
      rw [H.1] at this
      cases this
  | succ fuel ih =>
    intro listed a w hI hcl hfree hr hy H
    refine ⟨fun h => (by rw [h] at hr; cases hr), fun j hj => ?_⟩
    by_cases hji : j = i
    · subst hji; exact hy.op hI hi ⟨fun _ => hI, H⟩
    · have h1 := H.2 j (ready_mono hj hji)
      obtain ⟨hjun, oj, hoj, hall⟩ := mem_ready.1 hj
      have hnot : ∀ e ∈ oj.after, Region.binds .any e = true → e.on ≠ i := fun e he hb heq => by
        have h1 := hall e he hb
        have h0 := (mem_ready.1 hr).1
        rw [heq] at h1
        rcases Nat.lt_or_ge i listed.size with h' | h'
        · simp [h'] at h0 h1; rw [h0] at h1; cases h1
        · simp [Array.getElem?_eq_none h'] at h1
      have h2 := givesI.past hoj (hfree j oj hoj hji hjun hnot) (fun cs b => hsel i oi cs b hi) (fun cs b => hsel j oj cs b hoj) hQ hy h1
      have hjB := waitsK_spec hW hcl (mem_ready.1 hr).1 hj
      have hn : noB B ((listed.setIfInBounds i true).setIfInBounds j true) = true := by
        rw [Array.setIfInBounds_comm _ _ (fun e => hji e.symm), noB_set hiB, noB_set (by simpa using hjB)]
        exact noB_ahead hW hcl (mem_ready.1 hr).1
      refine wpOp_mono (fun a' w' h3 => ⟨fun _ => h3.2.1 hn, ih (listed.setIfInBounds j true) a' w' (h3.2.1 hn) (closed_set hcl hj) ?_ (ready_mono hr (Ne.symm hji)) h3.1 ?_⟩) h2
      · intro k ok hk hki hun hno
        refine hfree k ok hk hki ?_ hno
        by_cases hjk : j = k
        · subst hjk; exact hjun
        · rw [getD_set_ne true hjk] at hun; exact hun
      · rw [Array.setIfInBounds_comm _ _ hji]
        exact h3.2.2

theorem anyK_first0 {B : List Nat} {I : World → Prop} {i : Nat} {oi : Oper} {v : Value} (hi : ops[i]? = some oi) (hsel : ∀ (j : Nat) (o : Oper) cs b, ops[j]? = some o → o.op ≠ .select cs b)
    (hiB : B.contains i = false) (hQ : ∀ c a w, Q (.panic c) (a.put oi.dst v) w → Q (.panic c) a w) :
    ∀ (fuel : Nat) (listed : Array Bool) (a : Act) (w : World), (noB B listed = true → I w) →
      (∀ j oj, ops[j]? = some oj → j ≠ i → listed.getD j true = false → (∀ e ∈ oj.after, Region.binds .any e = true → e.on ≠ i) → oi.apart ops oj = true) →
      i ∈ Region.ready .any ops listed → givesI P ops (fun _ => True) oi v a →
      anyK P ops Q B I fuel (listed.setIfInBounds i true) (a.put oi.dst v) w → anyK P ops Q B I (fuel + 1) listed a w := by
  intro fuel
  induction fuel with
  | zero =>
    intro listed a w hI _ hr hy H
    refine ⟨fun h => (by rw [h] at hr; cases hr), fun j hj => ?_⟩
    by_cases hji : j = i
    · subst hji; exact hy.op trivial hi ⟨fun hn => hI (by rw [noB_set hiB] at hn; exact hn), H⟩
    · have := ready_mono hj hji
      rw [H.1] at this
      cases this
  | succ fuel ih =>
    intro listed a w hI hfree hr hy H
    refine ⟨fun h => (by rw [h] at hr; cases hr), fun j hj => ?_⟩
    by_cases hji : j = i
    · subst hji; exact hy.op trivial hi ⟨fun hn => hI (by rw [noB_set hiB] at hn; exact hn), H⟩
    · have h1 := H.2 j (ready_mono hj hji)
      obtain ⟨hjun, oj, hoj, hall⟩ := mem_ready.1 hj
      have hnot : ∀ e ∈ oj.after, Region.binds .any e = true → e.on ≠ i := fun e he hb heq => by
        have h1 := hall e he hb
        have h0 := (mem_ready.1 hr).1
        rw [heq] at h1
        rcases Nat.lt_or_ge i listed.size with h' | h'
        · simp [h'] at h0 h1; rw [h0] at h1; cases h1
        · simp [Array.getElem?_eq_none h'] at h1
      have h2 := givesI.past hoj (hfree j oj hoj hji hjun hnot) (fun cs b => hsel i oi cs b hi) (fun cs b => hsel j oj cs b hoj) hQ hy h1
      have hn : ∀ {w' : World}, (noB B ((listed.setIfInBounds i true).setIfInBounds j true) = true → I w') → noB B (listed.setIfInBounds j true) = true → I w' := fun hx hn => hx (by
        rw [Array.setIfInBounds_comm _ _ (fun e => hji e.symm), noB_set hiB]; exact hn)
      refine wpOp_mono (fun a' w' h3 => ⟨hn h3.2.1, ih (listed.setIfInBounds j true) a' w' (hn h3.2.1) ?_ (ready_mono hr (Ne.symm hji)) h3.1 ?_⟩) h2
      · intro k ok hk hki hun hno
        refine hfree k ok hk hki ?_ hno
        by_cases hjk : j = k
        · subst hjk; exact hjun
        · rw [getD_set_ne true hjk] at hun; exact hun
      · rw [Array.setIfInBounds_comm _ _ hji]
        exact h3.2.2

theorem regk_start (B : List Nat) (I : World → Prop) {id : Nat} {a : Act} {w : World} (hm : P.follows .mixedOrders = true) (h : anyK P ops Q B I ops.size (Array.replicate ops.size false) a w.drew) : (Code.region id ops true).wp P Q a w :=
  wp_region_any hm (anyK_any _ _ _ _ h)

/-- An operation that gives v in every world in which I holds; all of B wait for it. -/
theorem regk_take {B : List Nat} {I : World → Prop} {w : World} (i d : Nat) {v : Value} {fuel : Nat} {listed : Array Bool} {T T' : Array Value} {ds : List Deferred} (hI : I w)
    (hW : waitsK ops B i = true) (hiB : B.contains i = false) (hcl : closedB ops listed = true) (hs : Region.noSelect ops = true) (hf : Region.free .any ops listed i = true) (hr : (Region.ready .any ops listed).contains i = true)
    (hQ : ∀ c a w, Q (.panic c) (a.put (some d) v) w → Q (.panic c) a w)
    (hstep : ∀ o, ops[i]? = some o → o.dst = some d ∧ Region.wanted o (yielded ops T) = true ∧ ∀ W, I W → (execOp (Act.mk T ds).eval o).run P W = .ok (.value v) W)
    (hT : T.setIfInBounds d v = T') (h : anyK P ops Q B I fuel (listed.setIfInBounds i true) ⟨T', ds⟩ w) : anyK P ops Q B I (fuel + 1) listed ⟨T, ds⟩ w := by
  have hi : ∃ o, ops[i]? = some o := by
    simp only [List.contains_iff_mem] at hr
    obtain ⟨_, o, ho, _⟩ := mem_ready.1 hr
    exact ⟨o, ho⟩
  obtain ⟨o, ho⟩ := hi
  obtain ⟨h1, h2, h3⟩ := hstep o ho
  subst hT
  exact anyK_first ho (Region.noSelect_spec hs) hW hiB (by rw [h1]; exact hQ) fuel listed _ w hI (closedB_spec hcl) (Region.free_spec ho hf) (by simpa using hr) (.inl ⟨h2, h3⟩) (by rw [h1]; exact h)

/-- One that is passed over. -/
theorem regk_skip {B : List Nat} {I : World → Prop} {w : World} (i d : Nat) {fuel : Nat} {listed : Array Bool} {T T' : Array Value} {ds : List Deferred} (hI : noB B listed = true → I w)
    (hiB : B.contains i = false) (hs : Region.noSelect ops = true) (hf : Region.free .any ops listed i = true) (hr : (Region.ready .any ops listed).contains i = true)
    (hQ : ∀ c a w, Q (.panic c) (a.put (some d) undef) w → Q (.panic c) a w)
    (hstep : ∀ o, ops[i]? = some o → o.dst = some d ∧ Region.wanted o (yielded ops T) = false)
    (hT : T.setIfInBounds d undef = T') (h : anyK P ops Q B I fuel (listed.setIfInBounds i true) ⟨T', ds⟩ w) : anyK P ops Q B I (fuel + 1) listed ⟨T, ds⟩ w := by
  have hi : ∃ o, ops[i]? = some o := by
    simp only [List.contains_iff_mem] at hr
    obtain ⟨_, o, ho, _⟩ := mem_ready.1 hr
    exact ⟨o, ho⟩
  obtain ⟨o, ho⟩ := hi
  obtain ⟨h1, h2⟩ := hstep o ho
  subst hT
  exact anyK_first0 ho (Region.noSelect_spec hs) hiB (by rw [h1]; exact hQ) fuel listed _ w hI (Region.free_spec ho hf) (by simpa using hr) (.inr ⟨h2, rfl⟩) (by rw [h1]; exact h)

/-- One that reads no memory: it gives v in every world. -/
theorem regk_free {B : List Nat} {I : World → Prop} {w : World} (i d : Nat) {v : Value} {fuel : Nat} {listed : Array Bool} {T T' : Array Value} {ds : List Deferred} (hI : noB B listed = true → I w)
    (hiB : B.contains i = false) (hs : Region.noSelect ops = true) (hf : Region.free .any ops listed i = true) (hr : (Region.ready .any ops listed).contains i = true)
    (hQ : ∀ c a w, Q (.panic c) (a.put (some d) v) w → Q (.panic c) a w)
    (hstep : ∀ o, ops[i]? = some o → o.dst = some d ∧ Region.wanted o (yielded ops T) = true ∧ ∀ W, (execOp (Act.mk T ds).eval o).run P W = .ok (.value v) W)
    (hT : T.setIfInBounds d v = T') (h : anyK P ops Q B I fuel (listed.setIfInBounds i true) ⟨T', ds⟩ w) : anyK P ops Q B I (fuel + 1) listed ⟨T, ds⟩ w := by
  have hi : ∃ o, ops[i]? = some o := by
    simp only [List.contains_iff_mem] at hr
    obtain ⟨_, o, ho, _⟩ := mem_ready.1 hr
    exact ⟨o, ho⟩
  obtain ⟨o, ho⟩ := hi
  obtain ⟨h1, h2, h3⟩ := hstep o ho
  subst hT
  exact anyK_first0 ho (Region.noSelect_spec hs) hiB (by rw [h1]; exact hQ) fuel listed _ w hI (Region.free_spec ho hf) (by simpa using hr) (.inl ⟨h2, fun W _ => h3 W⟩) (by rw [h1]; exact h)

/-- A call of a Go function, when nothing else can come up. -/
theorem regk_call {B : List Nat} {I I' : World → Prop} (hII : ∀ W, I' W → I W) {w : World} (i d : Nat) {fuel : Nat} {listed : Array Bool} {T : Array Value} {ds : List Deferred} (hr : Region.ready .any ops listed = [i])
    (f : FuncId) (args : Array Value) (hstep : ∀ o, ops[i]? = some o → o.dst = some d ∧ Region.wanted o (yielded ops T) = true ∧ ∀ W, (execOp (Act.mk T ds).eval o).run P W = .ok (.enter f args) W)
    (h : Calls P f args w fun e w' => ∃ v T', e = .returned v ∧ (noB B (listed.setIfInBounds i true) = true → I' w') ∧ T.setIfInBounds d v = T' ∧ anyK P ops Q B I' fuel (listed.setIfInBounds i true) ⟨T', ds⟩ w') :
    anyK P ops Q B I (fuel + 1) listed ⟨T, ds⟩ w := by
  refine ⟨(fun h0 => by rw [hr] at h0; cases h0), fun j hj => ?_⟩
  have hmem : i ∈ Region.ready .any ops listed := by rw [hr]; simp
  rw [hr] at hj
  simp only [List.mem_singleton] at hj
  subst hj
  obtain ⟨_, o, ho, _⟩ := mem_ready.1 hmem
  obtain ⟨h1, h2, h3⟩ := hstep o ho
  unfold wpOp
  simp only [ho, h2, if_true]
  refine .inl ?_
  unfold Oper.wp
  rw [h3, Oper.upon_enter]
  refine Calls.mono h fun e w' he => ?_
  obtain ⟨v, T', rfl, hl, rfl, hk⟩ := he
  simp only [h1]
  exact ⟨fun hn => hII _ (hl hn), anyK_mono hII _ _ _ _ hk⟩

/-- An operation that makes or writes memory, when nothing else can come up. -/
theorem regk_make {B : List Nat} {I I' : World → Prop} (hII : ∀ W, I' W → I W) {w w' : World} (i d : Nat) {v : Value} {fuel : Nat} {listed : Array Bool} {T T' : Array Value} {ds : List Deferred} (hr : Region.ready .any ops listed = [i])
    (hstep : ∀ o, ops[i]? = some o → o.dst = some d ∧ Region.wanted o (yielded ops T) = true ∧ (execOp (Act.mk T ds).eval o).run P w = .ok (.value v) w') (hl : noB B (listed.setIfInBounds i true) = true → I' w')
    (hT : T.setIfInBounds d v = T') (h : anyK P ops Q B I' fuel (listed.setIfInBounds i true) ⟨T', ds⟩ w') :
    anyK P ops Q B I (fuel + 1) listed ⟨T, ds⟩ w := by
  refine ⟨(fun h0 => by rw [hr] at h0; cases h0), fun j hj => ?_⟩
  have hmem : i ∈ Region.ready .any ops listed := by rw [hr]; simp
  rw [hr] at hj
  simp only [List.mem_singleton] at hj
  subst hj
  obtain ⟨_, o, ho, _⟩ := mem_ready.1 hmem
  obtain ⟨h1, h2, h3⟩ := hstep o ho
  unfold wpOp
  simp only [ho, h2, if_true]
  refine .inl ?_
  unfold Oper.wp
  rw [h3]
  simp only [Oper.upon, h1]
  subst hT
  exact ⟨fun hn => hII _ (hl hn), anyK_mono hII _ _ _ _ h⟩

/-- A store, when nothing else can come up. -/
theorem regk_store {B : List Nat} {I I' : World → Prop} (hII : ∀ W, I' W → I W) {w w' : World} (i : Nat) {fuel : Nat} {listed : Array Bool} {T : Array Value} {ds : List Deferred} (hr : Region.ready .any ops listed = [i])
    (hstep : ∀ o, ops[i]? = some o → o.dst = none ∧ Region.wanted o (yielded ops T) = true ∧ (execOp (Act.mk T ds).eval o).run P w = .ok .skip w') (hl : noB B (listed.setIfInBounds i true) = true → I' w')
    (h : anyK P ops Q B I' fuel (listed.setIfInBounds i true) ⟨T, ds⟩ w') :
    anyK P ops Q B I (fuel + 1) listed ⟨T, ds⟩ w := by
  refine ⟨(fun h0 => by rw [hr] at h0; cases h0), fun j hj => ?_⟩
  have hmem : i ∈ Region.ready .any ops listed := by rw [hr]; simp
  rw [hr] at hj
  simp only [List.mem_singleton] at hj
  subst hj
  obtain ⟨_, o, ho, _⟩ := mem_ready.1 hmem
  obtain ⟨h1, h2, h3⟩ := hstep o ho
  unfold wpOp
  simp only [ho, h2, if_true]
  refine .inl ?_
  unfold Oper.wp
  rw [h3]
  simp only [Oper.upon, h1]
  exact ⟨fun hn => hII _ (hl hn), anyK_mono hII _ _ _ _ h⟩

/-- What append, as an operation, does: what its builtin does. -/
theorem exec_appK {o : Oper} {a : Act} {t : TypeId} {v u v' : Value} {W w' : World} (s x : Operand) (ho : o.op = .call { callee := .builtin .append, args := #[s, x], argTypes := #[t, t] })
    (hs : a.eval s = v) (hx : a.eval x = u) (hrun : (Builtin.append_ #[t, t] o.type #[v, u]).run P W = .ok v' w') : (execOp a.eval o).run P W = .ok (.value v') w' := by
  unfold execOp
  simp only [ho, resolve, invoke, builtin, Sem.run_bind, Sem.run_pure, Result.andThen_ok, List.map_toArray, List.map_cons, List.map_nil, hs, hx, hrun]

theorem regk_done {B : List Nat} {I : World → Prop} {fuel : Nat} {listed : Array Bool} {a : Act} {w : World} (hr : Region.ready .any ops listed = []) (h : Q .normal a w) : anyK P ops Q B I fuel listed a w := by
  cases fuel with
  | zero => exact ⟨hr, h⟩
  | succ n => exact ⟨fun _ => h, by rw [hr]; simp⟩
end
end Go.Proofs.Ytecomnklofceaaa
