/- Layer 14, plain: which leg of a path sees a stamp; what a path sees of versions, in order: leg by leg from the last one, of each leg sorted; that is the versions that some leg sees, sorted by leg, epoch, number, first time. -/
import Derived.Test.YtlpakooogbaclaaMa
import Derived.Test.YtlpakooogbaclaaRR
import Derived.Test.YtlpakooogbaclaaSm
namespace Go.Proofs.Ytlpakooogbaclaa
open Go.RowKit
set_option linter.unusedVariables false
section
variable {α : Type} {lt : α → α → Bool}
theorem insR_left (p : α) (A : List α) {B : List α} (hB : ∀ b ∈ B, lt p b = true) : insR lt p (A ++ B) = insR lt p A ++ B := by
  induction A with
  | nil => rw [List.nil_append, insR_all p hB]; rfl
  | cons q r ih =>
    rw [List.cons_append]
    unfold insR
    have hB' : B.all (lt p) = true := List.all_eq_true.2 hB
    by_cases e : (q :: r).all (lt p) = true
    · rw [if_pos e, if_pos (by rw [← List.cons_append, List.all_append, e, hB']; rfl)]; rfl
    · rw [if_neg e, if_neg (by rw [← List.cons_append, List.all_append, hB', Bool.and_true]; exact e), ih]; rfl
theorem insR_right (p : α) {A : List α} (B : List α) (hA : ∀ a ∈ A, lt p a = false) : insR lt p (A ++ B) = A ++ insR lt p B := by
  induction A with
  | nil => rfl
  | cons q r ih =>
    rw [List.cons_append, insR_front p _ (hA q List.mem_cons_self), ih (fun a ha => hA a (List.mem_cons_of_mem _ ha))]
    rfl
theorem insR_congr {lt2 : α → α → Bool} (p : α) {l : List α} (h : ∀ a ∈ l, lt p a = lt2 p a) : insR lt p l = insR lt2 p l := by
  induction l with
  | nil => rfl
  | cons q r ih =>
    unfold insR
    have e : (q :: r).all (lt p) = (q :: r).all (lt2 p) := by
      rw [Bool.eq_iff_iff, List.all_eq_true, List.all_eq_true]
      exact ⟨fun k a ha => by rw [← h a ha]; exact k a ha, fun k a ha => by rw [h a ha]; exact k a ha⟩
    rw [e, ih (fun a ha => h a (List.mem_cons_of_mem _ ha))]
theorem sortR_congr {lt2 : α → α → Bool} {l : List α} (h : ∀ a ∈ l, ∀ b ∈ l, lt a b = lt2 a b) : sortR lt l = sortR lt2 l := by
  have key : ∀ (n : Nat), n ≤ l.length → sortR lt (l.take n) = sortR lt2 (l.take n) := by
    intro n
    induction n with
    | zero => intro _; rfl
    | succ n ih =>
      intro hn
      rw [List.take_succ_eq_append_getElem (by omega), sortR_snoc, sortR_snoc, ih (by omega)]
      exact insR_congr _ fun a ha => h _ (List.getElem_mem _) _ (List.mem_of_mem_take (sortR_mem.1 ha))
  have := key l.length (Nat.le_refl _)
  rwa [List.take_length] at this
/-- Those that are ahead of all others, and the others: each sorted by itself. -/
theorem sortR_halves (P : α → Bool) (l : List α) (h : ∀ a ∈ l, ∀ b ∈ l, P a = true → P b = false → lt a b = true ∧ lt b a = false) :
    sortR lt l = sortR lt (l.filter P) ++ sortR lt (l.filter fun x => !P x) := by
  have key : ∀ (n : Nat), n ≤ l.length → sortR lt (l.take n) = sortR lt ((l.take n).filter P) ++ sortR lt ((l.take n).filter fun x => !P x) := by
    intro n
    induction n with
    | zero => intro _; rfl
    | succ n ih =>
      intro hn
      have hm := List.getElem_mem (show n < l.length by omega)
      rw [List.take_succ_eq_append_getElem (by omega), sortR_snoc, ih (by omega), List.filter_append, List.filter_append]
      cases e : P l[n]
      · rw [List.filter_cons_of_neg (by rw [e]; simp), List.filter_nil, List.append_nil, List.filter_cons_of_pos (by rw [e]; rfl), List.filter_nil, sortR_snoc]
        refine insR_right _ _ fun a ha => ?_
        obtain ⟨h1, h2⟩ := List.mem_filter.1 (sortR_mem.1 ha)
        exact (h a (List.mem_of_mem_take h1) _ hm h2 e).2
      · rw [List.filter_cons_of_pos e, List.filter_nil, List.filter_cons_of_neg (by rw [e]; simp), List.filter_nil, List.append_nil, sortR_snoc]
        refine insR_left _ _ fun a ha => ?_
        obtain ⟨h1, h2⟩ := List.mem_filter.1 (sortR_mem.1 ha)
        exact (h _ hm a (List.mem_of_mem_take h1) e (by simpa using h2)).1
  have := key l.length (Nat.le_refl _)
  rwa [List.take_length] at this
/-- A sorting in which no two are alike does not hang on the row. -/
theorem asc_unique (ha : Ahead lt) : ∀ {l m : List α}, l.Perm m → Asc lt l → Asc lt m → (∀ a ∈ l, ∀ b ∈ l, lt a b = false → lt b a = false → a = b) → l = m
  | [], m, hp, _, _, _ => (List.nil_perm.1 hp).symm
  | a :: l, [], hp, _, _, _ => by have := hp.length_eq; simp at this
  | a :: l, b :: m, hp, hl, hm, hu => by
    have h1 := List.pairwise_cons.1 hl
    have h2 := List.pairwise_cons.1 hm
    have hb : b ∈ a :: l := hp.mem_iff.2 List.mem_cons_self
    have hab : a ∈ b :: m := hp.mem_iff.1 List.mem_cons_self
    have e : a = b := by
      rcases List.mem_cons.1 hb with rfl | hb'
      · rfl
      · rcases List.mem_cons.1 hab with rfl | ha'
        · rfl
        · exact hu a List.mem_cons_self b hb (h2.1 a ha') (h1.1 b hb')
    subst e
    exact congrArg (a :: ·) (asc_unique ha hp.cons_inv h1.2 h2.2 fun x hx y hy => hu x (List.mem_cons_of_mem _ hx) y (List.mem_cons_of_mem _ hy))
theorem sortR_unique (ha : Ahead lt) {l m : List α} (hp : l.Perm m) (hu : ∀ a ∈ l, ∀ b ∈ l, lt a b = false → lt b a = false → a = b) : sortR lt l = sortR lt m :=
  asc_unique ha (((sortR_perm l).trans hp).trans (sortR_perm m).symm) (sortR_asc ha l) (sortR_asc ha m) fun a h1 b h2 => hu a (sortR_mem.1 h1) b (sortR_mem.1 h2)
end

/-- The place of the first leg that sees; -1: none does. -/
def legI (p : List (Int × Int)) (b e : Int) : Int := match p.findIdx? fun g => g.1 == b && decide (e ≤ g.2) with | some i => (i : Int) | none => -1
def legV (p : List (Int × Int)) (v : Ver) : Int := legI p v.b v.e
/-- By epoch, number, first time. -/
def ltS (a b : Ver) : Bool := if a.e ≠ b.e then decide (a.e < b.e) else if a.s ≠ b.s then decide (a.s < b.s) else decide (a.sp.1 < b.sp.1)
def ltP (p : List (Int × Int)) (a b : Ver) : Bool := if legV p a ≠ legV p b then decide (legV p b < legV p a) else ltS a b
def orderV (l : List Ver) (p : List (Int × Int)) : List Ver := sortR (ltP p) (l.filter fun v => decide (0 ≤ legV p v))
/-- The document's way: leg by leg, those of k - 1, .., 0. -/
def legsV (l : List Ver) (p : List (Int × Int)) : Nat → List Ver
  | 0 => []
  | k + 1 => sortR ltS (l.filter fun v => decide (legV p v = k)) ++ legsV l p k

theorem ltS_iff (a b : Ver) : ltS a b = decide (a.e < b.e ∨ a.e = b.e ∧ (a.s < b.s ∨ a.s = b.s ∧ a.sp.1 < b.sp.1)) := by
  unfold ltS
  by_cases h1 : a.e = b.e
  · rw [if_neg (by simpa using h1)]
    by_cases h2 : a.s = b.s
    · rw [if_neg (by simpa using h2), decide_eq_decide]; omega
    · rw [if_pos h2, decide_eq_decide]; omega
  · rw [if_pos h1, decide_eq_decide]; omega
theorem ltS_ahead : Ahead ltS where
  asymm a b h := by
    rw [ltS_iff, decide_eq_true_eq] at h
    rw [ltS_iff, decide_eq_false_iff_not]; omega
  negtrans a b c h k := by
    rw [ltS_iff, decide_eq_false_iff_not] at h k ⊢; omega
theorem ltP_ahead (p : List (Int × Int)) : Ahead (ltP p) where
  asymm a b := by
    unfold ltP
    by_cases h : legV p a = legV p b
    · rw [if_neg (by simpa using h), if_neg (by simpa using h.symm)]; exact ltS_ahead.asymm a b
    · rw [if_pos h, if_pos (Ne.symm h)]; simp; omega
  negtrans a b c := by
    unfold ltP
    by_cases h1 : legV p a = legV p b <;> by_cases h2 : legV p b = legV p c
    · have h3 := h1.trans h2
      rw [if_neg (by simpa using h1), if_neg (by simpa using h2), if_neg (by simpa using h3)]
      exact ltS_ahead.negtrans a b c
    · have h3 : legV p a ≠ legV p c := by rw [h1]; exact h2
      rw [if_neg (by simpa using h1), if_pos h2, if_pos h3]; simp; intro _; omega
    · have h3 : legV p a ≠ legV p c := by rw [← h2]; exact h1
      rw [if_pos h1, if_neg (by simpa using h2), if_pos h3]; simp; intro _ _; omega
    · rw [if_pos h1, if_pos h2]
      by_cases h3 : legV p a = legV p c
      · simp; intro _ _; omega
      · rw [if_pos h3]; simp; omega
theorem legI_lt (p : List (Int × Int)) (b e : Int) : legI p b e < p.length := by
  unfold legI
  split
  · rename_i i h
    have := (List.findIdx?_eq_some_iff_getElem.1 h).1
    omega
  · omega
theorem legI_ge (p : List (Int × Int)) (b e : Int) : -1 ≤ legI p b e := by
  unfold legI; split <;> omega
theorem legI_at {p : List (Int × Int)} {b e : Int} {i : Nat} (h : legI p b e = i) : ∃ g, p[i]? = some g ∧ g.1 = b := by
  unfold legI at h
  split at h
  · rename_i j hj
    obtain ⟨h1, h2, -⟩ := List.findIdx?_eq_some_iff_getElem.1 hj
    obtain rfl : j = i := by omega
    refine ⟨p[j], List.getElem?_eq_getElem h1, ?_⟩
    rw [Bool.and_eq_true, beq_iff_eq] at h2
    exact h2.1
  · omega
theorem legsV_eq (l : List Ver) (p : List (Int × Int)) : ∀ (k : Nat), legsV l p k = sortR (ltP p) (l.filter fun v => decide (0 ≤ legV p v) && decide (legV p v < k))
  | 0 => by
    rw [show (l.filter fun v => decide (0 ≤ legV p v) && decide (legV p v < ((0 : Nat) : Int))) = [] from List.filter_eq_nil_iff.2 fun v _ => by simp]
    rfl
  | k + 1 => by
    unfold legsV
    rw [legsV_eq l p k, sortR_halves (lt := ltP p) (fun v => decide (legV p v = k)) (l.filter fun v => decide (0 ≤ legV p v) && decide (legV p v < ((k + 1 : Nat) : Int)))]
    · rw [List.filter_filter, List.filter_filter]
      have e1 : (l.filter fun v => decide (legV p v = k) && (decide (0 ≤ legV p v) && decide (legV p v < ((k + 1 : Nat) : Int)))) = l.filter fun v => decide (legV p v = k) := by
        refine List.filter_congr fun v _ => ?_
        rw [Bool.eq_iff_iff]; simp; omega
      have e2 : (l.filter fun v => (!decide (legV p v = k)) && (decide (0 ≤ legV p v) && decide (legV p v < ((k + 1 : Nat) : Int)))) = l.filter fun v => decide (0 ≤ legV p v) && decide (legV p v < (k : Int)) := by
        refine List.filter_congr fun v _ => ?_
        rw [Bool.eq_iff_iff]; simp; omega
      rw [e1, e2]
      congr 1
      refine sortR_congr fun a ha b hb => ?_
      have h1 := (List.mem_filter.1 ha).2
      have h2 := (List.mem_filter.1 hb).2
      simp only [decide_eq_true_eq] at h1 h2
      unfold ltP
      rw [if_neg (by rw [h1, h2]; simp)]
    · intro a ha b hb h1 h2
      have h3 := (List.mem_filter.1 ha).2
      have h4 := (List.mem_filter.1 hb).2
      simp only [decide_eq_true_eq, decide_eq_false_iff_not, Bool.and_eq_true] at h1 h2 h3 h4
      unfold ltP
      rw [if_pos (by omega), if_pos (by omega)]
      simp; omega
theorem legsV_all (l : List Ver) (p : List (Int × Int)) : legsV l p p.length = orderV l p := by
  rw [legsV_eq]
  unfold orderV
  congr 1
  refine List.filter_congr fun v _ => ?_
  have : legV p v < p.length := legI_lt p v.b v.e
  rw [Bool.eq_iff_iff]; simp only [Bool.and_eq_true, decide_eq_true_eq]; omega
/-- What is in order already. -/
theorem order_again (l : List Ver) (p : List (Int × Int)) : orderV (orderV l p) p = orderV l p := by
  have h : (orderV l p).filter (fun v => decide (0 ≤ legV p v)) = orderV l p := List.filter_eq_self.2 fun v hv => (List.mem_filter.1 (sortR_mem.1 (show v ∈ sortR _ _ from hv))).2
  show sortR (ltP p) ((orderV l p).filter fun v => decide (0 ≤ legV p v)) = orderV l p
  rw [h]
  exact sortR_id (sortR_asc (ltP_ahead p) _)
theorem order_len (l : List Ver) (p : List (Int × Int)) : (orderV l p).length ≤ l.length := by
  unfold orderV; rw [sortR_len]; exact List.length_filter_le _ _
theorem order_mem {l : List Ver} {p : List (Int × Int)} {v : Ver} (h : v ∈ orderV l p) : v ∈ l := (List.mem_filter.1 (sortR_mem.1 (show v ∈ sortR _ _ from h))).1
/-- The row does not matter, if no two of a branch are alike. -/
theorem order_row {l m : List Ver} (p : List (Int × Int)) (hp : l.Perm m) (hu : ∀ a ∈ l, ∀ b ∈ l, a.b = b.b → ltS a b = false → ltS b a = false → a = b) : orderV l p = orderV m p := by
  unfold orderV
  refine sortR_unique (ltP_ahead p) (hp.filter _) fun a ha b hb h1 h2 => ?_
  obtain ⟨ha, ha2⟩ := List.mem_filter.1 ha
  obtain ⟨hb, hb2⟩ := List.mem_filter.1 hb
  simp only [decide_eq_true_eq] at ha2 hb2
  have e : legV p a = legV p b := by
    unfold ltP at h1 h2
    by_cases h : legV p a = legV p b
    · exact h
    · rw [if_pos h] at h1; rw [if_pos (Ne.symm h)] at h2; simp at h1 h2; omega
  unfold ltP at h1 h2
  rw [if_neg (by simpa using e)] at h1
  rw [if_neg (by simpa using e.symm)] at h2
  obtain ⟨i, hi⟩ : ∃ i : Nat, legV p a = i := ⟨(legV p a).toNat, by omega⟩
  obtain ⟨g, h3, h4⟩ := legI_at hi
  obtain ⟨g', h5, h6⟩ := legI_at (e.symm.trans hi)
  rw [h3] at h5
  obtain rfl := Option.some.inj h5
  exact hu a ha b hb (h4.symm.trans h6) h1 h2
end Go.Proofs.Ytlpakooogbaclaa
/- Layer 14, plain: lists of pieces that are in order and have no two that could be one are told apart by what they tell; what stands at a time of versions in order; pieces put one over the other, and pieces between all ends: the same, as least pieces. -/
namespace Go.Proofs.Ytlpakooogbaclaa
open Go.RowKit
set_option linter.unusedVariables false

theorem at_ahead {l : List Pc} {t : Int} (h : ∀ x ∈ l, t < x.1.1) : atF l t = (⟨#[]⟩, false) :=
  atF_none fun p hp => hasB_false.2 fun _ h1 => absurd (h p hp) (by omega)
theorem at_head {q : Pc} {l : List Pc} {t : Int} (hm : mayB q.1 = true) (h1 : q.1.1 ≤ t) (h2 : t < q.1.2) : atF (q :: l) t = (q.2, true) := by
  rw [atF_cons, if_pos (hasB_iff.2 ⟨hm, h1, h2⟩)]
theorem at_past {q : Pc} {l : List Pc} {t : Int} (h2 : q.1.2 ≤ t) : atF (q :: l) t = atF l t := by
  rw [atF_cons, if_neg]
  rw [hasB_iff]; omega
/-- No one ends later. -/
theorem ends_le {q p : Pc} {l m : List Pc} (hl : ordB (q :: l) = true) (hm : ordB (p :: m) = true) (ht : tight (q :: l)) (h1 : q.1.1 = p.1.1) (h2 : q.2 = p.2)
    (h : ∀ t, atF (q :: l) t = atF (p :: m) t) : ¬ q.1.2 < p.1.2 := by
  intro hlt
  obtain ⟨a1, a2⟩ := (ordB_iff _).1 hl
  obtain ⟨b1, b2⟩ := (ordB_iff _).1 hm
  have hq := mayB_iff.1 (a1 q List.mem_cons_self)
  have e := h q.1.2
  rw [at_past (Int.le_refl _), at_head (b1 p List.mem_cons_self) (by omega) hlt] at e
  cases l with
  | nil => exact absurd (congrArg Prod.snd e) (by simp [atF_nil])
  | cons x r =>
    have hx := (List.pairwise_cons.1 a2).1 x List.mem_cons_self
    have hmx := a1 x (List.mem_cons_of_mem _ List.mem_cons_self)
    by_cases hxt : x.1.1 ≤ q.1.2
    · have hmx' := mayB_iff.1 hmx
      rw [at_head hmx hxt (by omega)] at e
      exact ht.1 ⟨by omega, by rw [h2]; exact (congrArg Prod.fst e).symm⟩
    · rw [at_ahead] at e
      · exact absurd (congrArg Prod.snd e) (by simp)
      · intro y hy
        rcases List.mem_cons.1 hy with rfl | hy
        · omega
        · have := (List.pairwise_cons.1 (List.pairwise_cons.1 a2).2).1 y hy
          have := mayB_iff.1 hmx
          omega
theorem starts_le {q p : Pc} {l m : List Pc} (hl : ordB (q :: l) = true) (hm : ordB (p :: m) = true) (h : ∀ t, atF (q :: l) t = atF (p :: m) t) : ¬ q.1.1 < p.1.1 := by
  intro hlt
  obtain ⟨a1, a2⟩ := (ordB_iff _).1 hl
  obtain ⟨b1, b2⟩ := (ordB_iff _).1 hm
  have hq := mayB_iff.1 (a1 q List.mem_cons_self)
  have hp := mayB_iff.1 (b1 p List.mem_cons_self)
  have e := h q.1.1
  rw [at_head (a1 q List.mem_cons_self) (Int.le_refl _) hq.2.1, at_ahead] at e
  · exact absurd (congrArg Prod.snd e) (by simp)
  · intro y hy
    rcases List.mem_cons.1 hy with rfl | hy
    · exact hlt
    · have := (List.pairwise_cons.1 b2).1 y hy
      omega
/-- What they tell tells them apart. -/
theorem least_unique : ∀ {l m : List Pc}, ordB l = true → ordB m = true → tight l → tight m → (∀ t, atF l t = atF m t) → l = m
  | [], [], _, _, _, _, _ => rfl
  | [], p :: m, _, hm, _, _, h => by
    obtain ⟨b1, -⟩ := (ordB_iff _).1 hm
    have e := h p.1.1
    rw [at_head (b1 p List.mem_cons_self) (Int.le_refl _) (mayB_iff.1 (b1 p List.mem_cons_self)).2.1] at e
    exact absurd (congrArg Prod.snd e) (by simp [atF_nil])
  | q :: l, [], hl, _, _, _, h => by
    obtain ⟨b1, -⟩ := (ordB_iff _).1 hl
    have e := h q.1.1
    rw [at_head (b1 q List.mem_cons_self) (Int.le_refl _) (mayB_iff.1 (b1 q List.mem_cons_self)).2.1] at e
    exact absurd (congrArg Prod.snd e) (by simp [atF_nil])
  | q :: l, p :: m, hl, hm, tl, tm, h => by
    obtain ⟨a1, a2⟩ := (ordB_iff _).1 hl
    obtain ⟨b1, b2⟩ := (ordB_iff _).1 hm
    have e1 : q.1.1 = p.1.1 := by
      have := starts_le hl hm h
      have := starts_le hm hl fun t => (h t).symm
      omega
    have hq := mayB_iff.1 (a1 q List.mem_cons_self)
    have hp := mayB_iff.1 (b1 p List.mem_cons_self)
    have e2 : q.2 = p.2 := by
      have e := h q.1.1
      rw [at_head (a1 q List.mem_cons_self) (Int.le_refl _) hq.2.1, at_head (b1 p List.mem_cons_self) (by omega) (by omega)] at e
      exact congrArg Prod.fst e
    have e3 : q.1.2 = p.1.2 := by
      have := ends_le hl hm tl e1 e2 h
      have := ends_le hm hl tm e1.symm e2.symm fun t => (h t).symm
      omega
    have e : q = p := Prod.ext (Prod.ext e1 e3) e2
    subst e
    have ol : ordB l = true := (ordB_iff _).2 ⟨fun x hx => a1 x (List.mem_cons_of_mem _ hx), (List.pairwise_cons.1 a2).2⟩
    have om : ordB m = true := (ordB_iff _).2 ⟨fun x hx => b1 x (List.mem_cons_of_mem _ hx), (List.pairwise_cons.1 b2).2⟩
    have tt : ∀ {r : List Pc}, tight (q :: r) → tight r := fun {r} k => by cases r with
      | nil => trivial
      | cons x r => exact k.2
    rw [least_unique ol om (tt tl) (tt tm) fun t => ?_]
    by_cases ht : t < q.1.2
    · rw [at_ahead fun x hx => by have := (List.pairwise_cons.1 a2).1 x hx; omega, at_ahead fun x hx => by have := (List.pairwise_cons.1 b2).1 x hx; omega]
    · have := h t
      rwa [at_past (by omega), at_past (by omega)] at this

/-- What stands at a time: of versions in order the last one in whose span it lies. -/
def tellV (v : Ver) : ByteArray × Bool := if v.gone = true then (⟨#[]⟩, false) else (v.val, true)
def getV (o : List Ver) (t : Int) : ByteArray × Bool := match o.reverse.find? fun v => hasB v.sp t with | some v => tellV v | none => (⟨#[]⟩, false)
theorem getV_nil (t : Int) : getV [] t = (⟨#[]⟩, false) := rfl
theorem getV_snoc (o : List Ver) (v : Ver) (t : Int) : getV (o ++ [v]) t = if hasB v.sp t = true then tellV v else getV o t := by
  unfold getV
  rw [List.reverse_append, List.reverse_singleton, List.singleton_append, List.find?_cons]
  cases hasB v.sp t <;> rfl
/-- Pieces, a version more. -/
def putV (l : List Pc) (v : Ver) : List Pc := if v.gone = true then withoutF l v.sp else overF l (v.sp, v.val)
def stackV (o : List Ver) : List Pc := o.foldl putV []
def stateV (o : List Ver) : List Pc := leastF (stackV o)
theorem stack_snoc (o : List Ver) (v : Ver) : stackV (o ++ [v]) = putV (stackV o) v := by simp [stackV]
theorem ord_put {l : List Pc} (v : Ver) (h : ordB l = true) : ordB (putV l v) = true := by
  unfold putV; split
  · exact ord_without _ h
  · exact ord_over _ h
theorem at_put (l : List Pc) (v : Ver) (t : Int) : atF (putV l v) t = if hasB v.sp t = true then tellV v else atF l t := by
  unfold putV tellV; split
  · rw [at_without]
  · rw [at_over]
theorem snoc_ind {α : Type} {P : List α → Prop} (h0 : P []) (h1 : ∀ l a, P l → P (l ++ [a])) (l : List α) : P l := by
  have key : ∀ n ≤ l.length, P (l.take n) := by
    intro n
    induction n with
    | zero => intro _; exact h0
    | succ n ih => intro hn; rw [List.take_succ_eq_append_getElem (by omega)]; exact h1 _ _ (ih (by omega))
  have := key l.length (Nat.le_refl _)
  rwa [List.take_length] at this
theorem ord_stack (o : List Ver) : ordB (stackV o) = true := snoc_ind (P := fun o => ordB (stackV o) = true) rfl (fun l a h => by rw [stack_snoc]; exact ord_put a h) o
theorem at_stack (o : List Ver) (t : Int) : atF (stackV o) t = getV o t :=
  snoc_ind (P := fun o => atF (stackV o) t = getV o t) rfl (fun l a h => by rw [stack_snoc, at_put, getV_snoc, h]) o
theorem at_state (o : List Ver) (t : Int) : atF (stateV o) t = getV o t := (at_least (ord_stack o) t).trans (at_stack o t)
theorem ord_state (o : List Ver) : ordB (stateV o) = true := ord_least (ord_stack o)
theorem state_again (o : List Ver) : leastF (stateV o) = stateV o := least_again _
/-- Whatever is in order and tells the same: its least pieces are these. -/
theorem state_unique (o : List Ver) {l : List Pc} (h : ordB l = true) (ht : ∀ t, atF l t = getV o t) : leastF l = stateV o :=
  least_unique (ord_least h) (ord_state o) (tight_least l) (tight_least _) fun t => by rw [at_least h, ht, at_state]

/-- The document's way: between ends. -/
def betweenV (o : List Ver) : List Int → List Pc
  | x :: y :: r => (if (getV o x).2 = true then [((x, y), (getV o x).1)] else []) ++ betweenV o (y :: r)
  | _ => []
def endsV (o : List Ver) : List Int := endsF ((o.map Ver.sp).filter mayB)
theorem find_congr {α : Type} {f g : α → Bool} : ∀ {l : List α}, (∀ a ∈ l, f a = g a) → l.find? f = l.find? g
  | [], _ => rfl
  | a :: l, h => by rw [List.find?_cons, List.find?_cons, h a List.mem_cons_self, find_congr fun b hb => h b (List.mem_cons_of_mem _ hb)]
theorem get_congr {o : List Ver} {t u : Int} (h : ∀ v ∈ o, hasB v.sp t = hasB v.sp u) : getV o t = getV o u := by
  unfold getV; rw [find_congr fun v hv => h v (List.mem_reverse.1 hv)]
theorem get_none {o : List Ver} {t : Int} (h : ∀ v ∈ o, hasB v.sp t = false) : getV o t = (⟨#[]⟩, false) := by
  unfold getV
  rw [List.find?_eq_none.2 fun v hv => by rw [h v (List.mem_reverse.1 hv)]; simp]
theorem get_false {o : List Ver} {t : Int} (h : (getV o t).2 = false) : getV o t = (⟨#[]⟩, false) := by
  unfold getV at h ⊢
  split at h
  · unfold tellV at h ⊢; split at h
    · rename_i e; rw [if_pos e]
    · cases h
  · rfl
/-- Ends in order, of spans that may be, that have each end of each span from the first one on. -/
theorem between_ok (o : List Ver) : ∀ (e : List Int), e.Pairwise (· < ·) → (∀ x ∈ e, 0 ≤ x ∧ x ≤ 1099511627776) →
    (∀ v ∈ o, mayB v.sp = true → ∀ t, hasB v.sp t = true → (∀ x, e.head? = some x → x ≤ t) → (v.sp.1 ∈ e ∨ ∀ x ∈ e, v.sp.1 ≤ x) ∧ v.sp.2 ∈ e) →
    ordB (betweenV o e) = true ∧ (∀ p ∈ betweenV o e, ∀ x, e.head? = some x → x ≤ p.1.1) ∧ ∀ t, (∀ x, e.head? = some x → x ≤ t) → e ≠ [] → atF (betweenV o e) t = getV o t
  | [], _, _, _ => ⟨rfl, fun p hp => (by cases hp), fun t _ h => absurd rfl h⟩
  | [x], _, _, hv => by
    refine ⟨rfl, fun p hp => (by cases hp), fun t ht _ => ?_⟩
    show (_, _) = _
    refine (get_none fun v hvo => ?_).symm
    cases e : hasB v.sp t
    · rfl
    · exfalso
      obtain ⟨h0, h1, h2⟩ := hasB_iff.1 e
      have := (hv v hvo h0 t e ht).2
      rw [List.mem_singleton] at this
      have := ht x rfl
      omega
  | x :: y :: r, hp, hr, hv => by
    have hp' := List.pairwise_cons.1 hp
    have hxy := hp'.1 y List.mem_cons_self
    obtain ⟨i1, i2, i3⟩ := between_ok o (y :: r) hp'.2 (fun z hz => hr z (List.mem_cons_of_mem _ hz)) fun v hvo hm t ht hy => by
      have hyt := hy y rfl
      obtain ⟨j1, j2⟩ := hv v hvo hm t ht fun z hz => by injection hz with hz; omega
      obtain ⟨k0, k1, k2⟩ := hasB_iff.1 ht
      refine ⟨?_, ?_⟩
      · rcases j1 with j1 | j1
        · rcases List.mem_cons.1 j1 with j1 | j1
          · refine .inr fun z hz => ?_
            rcases List.mem_cons.1 hz with rfl | hz
            · omega
            · have := hp'.1 z (List.mem_cons_of_mem _ hz); omega
          · exact .inl j1
        · exact .inr fun z hz => j1 z (List.mem_cons_of_mem _ hz)
      · rcases List.mem_cons.1 j2 with j2 | j2
        · omega
        · exact j2
    have hmid : ∀ t, x ≤ t → t < y → getV o t = getV o x := fun t h1 h2 => get_congr fun v hvo => by
      rw [Bool.eq_iff_iff]
      constructor
      · intro h
        obtain ⟨k0, k1, k2⟩ := hasB_iff.1 h
        obtain ⟨j1, j2⟩ := hv v hvo k0 t h fun z hz => by injection hz with hz; omega
        refine hasB_iff.2 ⟨k0, ?_, by omega⟩
        rcases j1 with j1 | j1
        · rcases List.mem_cons.1 j1 with j1 | j1
          · omega
          · rcases List.mem_cons.1 j1 with j1 | j1
            · omega
            · have := (List.pairwise_cons.1 hp'.2).1 _ j1; omega
        · exact j1 x List.mem_cons_self
      · intro h
        obtain ⟨k0, k1, k2⟩ := hasB_iff.1 h
        obtain ⟨j1, j2⟩ := hv v hvo k0 x h fun z hz => by injection hz with hz; omega
        refine hasB_iff.2 ⟨k0, by omega, ?_⟩
        rcases List.mem_cons.1 j2 with j2 | j2
        · omega
        · rcases List.mem_cons.1 j2 with j2 | j2
          · omega
          · have := (List.pairwise_cons.1 hp'.2).1 _ j2; omega
    have hx := hr x List.mem_cons_self
    have hy := hr y (List.mem_cons_of_mem _ List.mem_cons_self)
    have hmay : mayB (x, y) = true := mayB_iff.2 ⟨hx.1, hxy, hy.2⟩
    have hfar : ∀ p ∈ betweenV o (y :: r), y ≤ p.1.1 := fun p hp => i2 p hp y rfl
    unfold betweenV
    by_cases hg : (getV o x).2 = true
    · rw [if_pos hg, List.singleton_append]
      refine ⟨(ordB_iff _).2 ⟨fun p hp => ?_, List.pairwise_cons.2 ⟨fun p hp => hfar p hp, ((ordB_iff _).1 i1).2⟩⟩, fun p hp z hz => ?_, fun t ht _ => ?_⟩
      · rcases List.mem_cons.1 hp with rfl | hp
        · exact hmay
        · exact ((ordB_iff _).1 i1).1 p hp
      · injection hz with hz
        rcases List.mem_cons.1 hp with rfl | hp
        · exact Int.le_of_eq hz.symm
        · have := hfar p hp; omega
      · have hxt := ht x rfl
        by_cases hty : t < y
        · rw [at_head hmay hxt hty, hmid t hxt hty]
          exact Prod.ext rfl hg.symm
        · rw [at_past (show y ≤ t by omega)]
          exact i3 t (fun z hz => by injection hz with hz; omega) (by simp)
    · rw [if_neg hg, List.nil_append]
      refine ⟨i1, fun p hp z hz => ?_, fun t ht _ => ?_⟩
      · injection hz with hz
        have := hfar p hp; omega
      · have hxt := ht x rfl
        by_cases hty : t < y
        · rw [at_ahead fun p hp => by have := hfar p hp; omega, hmid t hxt hty]
          exact (get_false (by simpa using hg)).symm
        · exact i3 t (fun z hz => by injection hz with hz; omega) (by simp)
theorem ends_fold (s : List Sp) : ∀ (o : List Int), o.Pairwise (· < ·) → (s.foldl (fun o s => putL (putL o s.1) s.2) o).Pairwise (· < ·) ∧ ∀ x, x ∈ s.foldl (fun o s => putL (putL o s.1) s.2) o ↔ x ∈ o ∨ ∃ a ∈ s, x = a.1 ∨ x = a.2 := by
  induction s with
  | nil => intro o h; exact ⟨h, fun x => by simp⟩
  | cons a s ih =>
    intro o h
    obtain ⟨h1, h2⟩ := ih (putL (putL o a.1) a.2) (put_order _ _ (put_order _ _ h))
    refine ⟨h1, fun x => ?_⟩
    rw [List.foldl_cons, h2, put_mem, put_mem]
    constructor
    · rintro ((h | h | h) | ⟨b, hb, h⟩)
      · exact .inr ⟨a, List.mem_cons_self, .inr h⟩
      · exact .inr ⟨a, List.mem_cons_self, .inl h⟩
      · exact .inl h
      · exact .inr ⟨b, List.mem_cons_of_mem _ hb, h⟩
    · rintro (h | ⟨b, hb, h⟩)
      · exact .inl (.inr (.inr h))
      · rcases List.mem_cons.1 hb with rfl | hb
        · rcases h with h | h
          · exact .inl (.inr (.inl h))
          · exact .inl (.inl h)
        · exact .inr ⟨b, hb, h⟩
theorem endsV_order (o : List Ver) : (endsV o).Pairwise (· < ·) := (ends_fold _ [] List.Pairwise.nil).1
theorem endsV_mem (o : List Ver) (x : Int) : x ∈ endsV o ↔ ∃ v ∈ o, mayB v.sp = true ∧ (x = v.sp.1 ∨ x = v.sp.2) := by
  unfold endsV endsF
  rw [(ends_fold _ [] List.Pairwise.nil).2]
  constructor
  · rintro (h | ⟨a, ha, h⟩)
    · cases h
    · obtain ⟨h1, h2⟩ := List.mem_filter.1 ha
      obtain ⟨v, hv, rfl⟩ := List.mem_map.1 h1
      exact ⟨v, hv, h2, h⟩
  · rintro ⟨v, hv, h1, h2⟩
    exact .inr ⟨v.sp, List.mem_filter.2 ⟨List.mem_map.2 ⟨v, hv, rfl⟩, h1⟩, h2⟩
/-- The document's pieces are the project's. -/
theorem between_state (o : List Ver) : leastF (betweenV o (endsV o)) = stateV o := by
  obtain ⟨h1, h2, h3⟩ := between_ok o (endsV o) (endsV_order o) (fun x hx => by
    obtain ⟨v, -, hm, h⟩ := (endsV_mem o x).1 hx
    have := mayB_iff.1 hm
    omega) fun v hv hm t ht _ => ⟨.inl ((endsV_mem o _).2 ⟨v, hv, hm, .inl rfl⟩), (endsV_mem o _).2 ⟨v, hv, hm, .inr rfl⟩⟩
  refine state_unique o h1 fun t => ?_
  rcases he : endsV o with _ | ⟨x, r⟩
  · refine (get_none fun v hv => ?_).symm
    cases e : hasB v.sp t
    · rfl
    · have := (endsV_mem o v.sp.1).2 ⟨v, hv, (hasB_iff.1 e).1, .inl rfl⟩
      rw [he] at this; cases this
  · rw [he] at h2 h3
    by_cases hx : x ≤ t
    · exact h3 t (fun z hz => by injection hz with hz; omega) (by simp)
    · rw [at_ahead fun p hp => by have := h2 p hp x rfl; omega]
      refine (get_none fun v hv => ?_).symm
      cases e : hasB v.sp t
      · rfl
      · exfalso
        obtain ⟨k0, k1, k2⟩ := hasB_iff.1 e
        have hm := (endsV_mem o v.sp.1).2 ⟨v, hv, k0, .inl rfl⟩
        have ho := endsV_order o
        rw [he] at hm ho
        rcases List.mem_cons.1 hm with h | h
        · omega
        · have := (List.pairwise_cons.1 ho).1 _ h; omega
end Go.Proofs.Ytlpakooogbaclaa
/- Layer 14, plain: a version put where it belongs among those of its leg; what least pieces tell at their first time, their last one, and right behind; rows of versions that are turned. -/
namespace Go.Proofs.Ytlpakooogbaclaa
open Go.RowKit
set_option linter.unusedVariables false

/-- Those of a leg among the first i, sorted. -/
def segV (l : List Ver) (p : List (Int × Int)) (k : Nat) (i : Nat) : List Ver := sortR ltS ((l.take i).filter fun v => decide (legV p v = k))
theorem seg_zero (l : List Ver) (p : List (Int × Int)) (k : Nat) : segV l p k 0 = [] := rfl
theorem seg_step {l : List Ver} (p : List (Int × Int)) (k : Nat) {i : Nat} (h : i < l.length) : segV l p k (i + 1) = if legV p l[i] = k then insR ltS l[i] (segV l p k i) else segV l p k i := by
  unfold segV
  rw [List.take_succ_eq_append_getElem h, List.filter_append]
  by_cases e : legV p l[i] = k
  · rw [if_pos e, List.filter_cons_of_pos (by simpa using e), List.filter_nil, sortR_snoc]
  · rw [if_neg e, List.filter_cons_of_neg (by simpa using e), List.filter_nil, List.append_nil]
theorem seg_len (l : List Ver) (p : List (Int × Int)) (k i : Nat) : (segV l p k i).length ≤ i := by
  unfold segV
  rw [sortR_len]
  have := List.length_filter_le (fun v => decide (legV p v = k)) (l.take i)
  rw [List.length_take] at this
  omega
/-- All of a leg, and the legs ahead of it. -/
theorem legs_step {l : List Ver} {p : List (Int × Int)} {k : Nat} {out : List Ver} (h : out ++ legsV l p (k + 1) = orderV l p) : (out ++ segV l p k l.length) ++ legsV l p k = orderV l p := by
  rw [← h, List.append_assoc]
  unfold segV
  rw [List.take_length]
  rfl
theorem legs_start (l : List Ver) (p : List (Int × Int)) : [] ++ legsV l p p.length = orderV l p := legsV_all l p
theorem legs_end {l : List Ver} {p : List (Int × Int)} {out : List Ver} (h : out ++ legsV l p 0 = orderV l p) : out = orderV l p := by
  rw [← h]; exact (List.append_nil out).symm
/-- Behind what stands ahead of from. -/
theorem seg_ins {pre s : List Ver} {v : Ver} {j : Nat} (h1 : pre.length ≤ j) (h2 : j ≤ (pre ++ s).length) (ha : ∀ (i : Nat) (h : i < (pre ++ s).length), j ≤ i → ltS v (pre ++ s)[i] = true)
    (hb : ∀ (h : j - 1 < (pre ++ s).length), pre.length < j → ltS v (pre ++ s)[j - 1] = false) : (pre ++ s).take j ++ v :: (pre ++ s).drop j = pre ++ insR ltS v s := by
  have hl : (pre ++ s).length = pre.length + s.length := List.length_append
  rw [List.take_append, List.drop_append, List.take_of_length_le h1, List.drop_of_length_le h1, List.nil_append, List.append_assoc]
  congr 1
  refine insR_at v s (j - pre.length) (by omega) (fun i h hi => ?_) fun h hj => ?_
  · have := ha (pre.length + i) (by omega) (by omega)
    rw [List.getElem_append_right (by omega)] at this
    rw [← this]
    congr 2
    omega
  · have := hb (by omega) (by omega)
    rw [List.getElem_append_right (by omega)] at this
    rw [← this]
    congr 2
    omega

/-- At its first time, its last one, and right behind. -/
theorem least_piece : ∀ {l : List Pc}, ordB l = true → tight l → ∀ (i : Nat) (h : i < l.length),
    atF l l[i].1.1 = (l[i].2, true) ∧ atF l (l[i].1.2 - 1) = (l[i].2, true) ∧ ¬ ((atF l l[i].1.2).2 = true ∧ (atF l l[i].1.2).1 = l[i].2)
  | [], _, _, i, h => absurd h (by simp)
  | q :: l, ho, ht, 0, h => by
    obtain ⟨a1, a2⟩ := (ordB_iff _).1 ho
    have hm := a1 q List.mem_cons_self
    have hq := mayB_iff.1 hm
    simp only [List.getElem_cons_zero]
    refine ⟨at_head hm (Int.le_refl _) hq.2.1, at_head hm (by omega) (by omega), ?_⟩
    rw [at_past (Int.le_refl _)]
    rintro ⟨h1, h2⟩
    cases l with
    | nil => rw [atF_nil] at h1; cases h1
    | cons x r =>
      have hx := (List.pairwise_cons.1 a2).1 x List.mem_cons_self
      have hmx := a1 x (List.mem_cons_of_mem _ List.mem_cons_self)
      have hmx' := mayB_iff.1 hmx
      by_cases hxt : x.1.1 ≤ q.1.2
      · rw [at_head hmx hxt (by omega)] at h2
        exact ht.1 ⟨by omega, h2.symm⟩
      · rw [at_ahead] at h1
        · cases h1
        · intro y hy
          rcases List.mem_cons.1 hy with rfl | hy
          · omega
          · have := (List.pairwise_cons.1 (List.pairwise_cons.1 a2).2).1 y hy
            omega
  | q :: l, ho, ht, i + 1, h => by
    obtain ⟨a1, a2⟩ := (ordB_iff _).1 ho
    have hi : i < l.length := by simpa using h
    have ol : ordB l = true := (ordB_iff _).2 ⟨fun x hx => a1 x (List.mem_cons_of_mem _ hx), (List.pairwise_cons.1 a2).2⟩
    have tl : tight l := by cases l with
      | nil => trivial
      | cons x r => exact ht.2
    have ih := least_piece ol tl i hi
    have hx := (List.pairwise_cons.1 a2).1 l[i] (List.getElem_mem hi)
    have hm := mayB_iff.1 (a1 l[i] (List.mem_cons_of_mem _ (List.getElem_mem hi)))
    simp only [List.getElem_cons_succ]
    rw [at_past hx, at_past (by omega), at_past (by omega)]
    exact ih
theorem state_piece (o : List Ver) (i : Nat) (h : i < (stateV o).length) :
    getV o (stateV o)[i].1.1 = ((stateV o)[i].2, true) ∧ getV o ((stateV o)[i].1.2 - 1) = ((stateV o)[i].2, true) ∧ ¬ ((getV o (stateV o)[i].1.2).2 = true ∧ (getV o (stateV o)[i].1.2).1 = (stateV o)[i].2) := by
  have := least_piece (ord_state o) (tight_least _) i h
  rwa [at_state, at_state, at_state] at this
/-- How many pieces there are at most. -/
theorem between_len (o : List Ver) : ∀ (e : List Int), (betweenV o e).length ≤ e.length
  | [] => Nat.le_refl _
  | [_] => Nat.zero_le _
  | x :: y :: r => by
    have := between_len o (y :: r)
    unfold betweenV
    rw [List.length_append]
    simp only [List.length_cons] at this ⊢
    split <;> simp <;> omega
theorem endsV_len (o : List Ver) : (endsV o).length ≤ 2 * o.length := by
  have h1 := ends_len ((o.map Ver.sp).filter mayB)
  have h2 := List.length_filter_le mayB (o.map Ver.sp)
  rw [List.length_map] at h2
  unfold endsV
  omega
theorem state_len (o : List Ver) : (stateV o).length ≤ 2 * o.length := by
  rw [← between_state]
  exact Nat.le_trans (least_len _) (Nat.le_trans (between_len o _) (endsV_len o))
end Go.Proofs.Ytlpakooogbaclaa
/- Layer 14, plain: sorting by putting each where it belongs, two neighbours turned at a time: a row as it stands inside the two loops. -/
namespace Go.Proofs.Ytlpakooogbaclaa
open Go.RowKit
set_option linter.unusedVariables false
section
variable {α : Type} {lt : α → α → Bool}
/-- v on its way down through what is sorted, at place j; r stands behind. -/
def wayR (s : List α) (v : α) (r : List α) (j : Nat) : List α := s.take j ++ v :: (s.drop j ++ r)
theorem way_start (s : List α) (v : α) (r : List α) : wayR s v r s.length = s ++ v :: r := by simp [wayR]
theorem way_len (s : List α) (v : α) (r : List α) {j : Nat} (h : j ≤ s.length) : (wayR s v r j).length = s.length + 1 + r.length := by
  unfold wayR
  rw [List.length_append, List.length_cons, List.length_append, List.length_take, List.length_drop]
  omega
theorem way_at (s : List α) (v : α) (r : List α) {j : Nat} (h : j ≤ s.length) : (wayR s v r j)[j]? = some v := by
  unfold wayR
  rw [List.getElem?_append_right (by rw [List.length_take]; omega), List.length_take, show j - min j s.length = 0 from by omega]
  rfl
theorem way_ahead (s : List α) (v : α) (r : List α) {j : Nat} (h : j ≤ s.length) (h0 : 0 < j) : (wayR s v r j)[j - 1]? = s[j - 1]? := by
  unfold wayR
  rw [List.getElem?_append_left (by rw [List.length_take]; omega), List.getElem?_take, if_pos (by omega)]
/-- Two neighbours turned. -/
theorem way_swap (s : List α) (v : α) (r : List α) {j : Nat} (h : j < s.length) : ((wayR s v r (j + 1)).set (j + 1) s[j]).set j v = wayR s v r j := by
  refine List.ext_getElem? fun i => ?_
  have hl := way_len s v r (show j + 1 ≤ s.length by omega)
  rw [List.getElem?_set, List.getElem?_set, List.length_set, hl]
  unfold wayR
  by_cases h1 : j = i
  · subst h1
    rw [if_pos rfl, if_pos (by omega), List.getElem?_append_right (by rw [List.length_take]; omega), List.length_take, show j - min j s.length = 0 from by omega]
    rfl
  rw [if_neg h1]
  by_cases h2 : j + 1 = i
  · subst h2
    rw [if_pos rfl, if_pos (by omega), List.getElem?_append_right (by rw [List.length_take]; omega), List.length_take, show j + 1 - min j s.length = 1 from by omega, List.drop_eq_getElem_cons h]
    rfl
  rw [if_neg h2]
  rcases Nat.lt_trichotomy i j with h3 | h3 | h3
  · rw [List.getElem?_append_left (by rw [List.length_take]; omega), List.getElem?_append_left (by rw [List.length_take]; omega), List.getElem?_take, List.getElem?_take, if_pos (by omega), if_pos h3]
  · omega
  · obtain ⟨m, rfl⟩ : ∃ m, i = j + 2 + m := ⟨i - (j + 2), by omega⟩
    rw [List.getElem?_append_right (by rw [List.length_take]; omega), List.getElem?_append_right (by rw [List.length_take]; omega), List.length_take, List.length_take,
      show j + 2 + m - min (j + 1) s.length = m + 1 from by omega, show j + 2 + m - min j s.length = m + 2 from by omega, List.getElem?_cons_succ, List.getElem?_cons_succ, List.drop_eq_getElem_cons h, List.cons_append, List.getElem?_cons_succ]
/-- It stands where it belongs. -/
theorem way_end {s : List α} {v : α} (r : List α) {j : Nat} (h : j ≤ s.length) (ha : ∀ (i : Nat) (hi : i < s.length), j ≤ i → lt v s[i] = true) (hb : ∀ (hi : j - 1 < s.length), 0 < j → lt v s[j - 1] = false) : wayR s v r j = insR lt v s ++ r := by
  rw [← insR_at v s j h ha hb]
  unfold wayR
  rw [List.append_assoc]; rfl
/-- The row in the outer loop: the first i sorted. -/
def sortedR (lt : α → α → Bool) (l : List α) (i : Nat) : List α := sortR lt (l.take i) ++ l.drop i
theorem sorted_one (l : List α) : sortedR lt l 1 = l := by
  cases l with
  | nil => rfl
  | cons a r => rfl
theorem sorted_all (l : List α) {i : Nat} (h : l.length ≤ i) : sortedR lt l i = sortR lt l := by
  unfold sortedR; rw [List.take_of_length_le h, List.drop_of_length_le h, List.append_nil]
theorem sorted_way {l : List α} {i : Nat} (h : i < l.length) : sortedR lt l i = wayR (sortR lt (l.take i)) l[i] (l.drop (i + 1)) (sortR lt (l.take i)).length := by
  rw [way_start]; unfold sortedR; rw [List.drop_eq_getElem_cons h]
theorem sorted_step {l : List α} {i : Nat} (h : i < l.length) : insR lt l[i] (sortR lt (l.take i)) ++ l.drop (i + 1) = sortedR lt l (i + 1) := by
  unfold sortedR; rw [List.take_succ_eq_append_getElem h, sortR_snoc]
theorem sorted_len (l : List α) (i : Nat) : (sortedR lt l i).length = l.length := by
  unfold sortedR
  rw [List.length_append, sortR_len, ← List.length_append, List.take_append_drop]
end
end Go.Proofs.Ytlpakooogbaclaa
