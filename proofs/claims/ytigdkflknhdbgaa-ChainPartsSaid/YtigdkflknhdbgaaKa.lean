/- Layer 13 (the list of layer 12, of slices of versions), plain: rows of a list that leave some out: whom a node points to in a row (V: the nodes' levels by their places, the head's first; B: their blocks; C i r: what node i has in row r). -/
import Derived.Test.YtigdkflknhdbgaaKp
namespace Go.Proofs.Ytigdkflknhdbgaa.Skp
open Go.RowKit
set_option linter.unusedVariables false

/-- The next one behind i in row r. -/
def NextIs (V : Nat → Nat) (r i : Nat) : Option Nat → Prop
  | some j => i < j ∧ r < V j ∧ ∀ t, i < t → t < j → V t ≤ r
  | none => ∀ t, i < t → V t ≤ r
def ptrO (B : Nat → Nat) : Option Nat → Value
  | some j => .pointer (some ⟨B j, 0, none⟩)
  | none => .pointer none
def LinkedK (V B : Nat → Nat) (C : Nat → Nat → Value) : Prop := ∀ i r, r < V i → ∃ o, NextIs V r i o ∧ C i r = ptrO B o
/-- The last one ahead of K in row r. -/
structure PredIs (V : Nat → Nat) (K r i : Nat) : Prop where
  lt : i < K
  lev : r < V i
  none : ∀ t, i < t → t < K → V t ≤ r
theorem PredIs.same {V : Nat → Nat} {K r i j : Nat} (h : PredIs V K r i) (k : PredIs V K r j) : i = j := by
  rcases Nat.lt_trichotomy i j with e | e | e
  · have h1 := h.none j e k.lt; have h2 := k.lev; omega
  · exact e
  · have h1 := k.none i e h.lt; have h2 := h.lev; omega
theorem PredIs.next {V : Nat → Nat} {K r i : Nat} (h : PredIs V K r i) {o : Option Nat} (ho : NextIs V r i o) : ∀ j, o = some j → K ≤ j := by
  rintro j rfl
  rcases Nat.lt_or_ge j K with hj | hj
  · have h1 := h.none j ho.1 hj; have h2 := ho.2.1; omega
  · exact hj
def insV (f : Nat → Nat) (K m i : Nat) : Nat := if i < K then f i else if i = K then m else f (i - 1)
theorem insV_lt {f : Nat → Nat} {K m i : Nat} (h : i < K) : insV f K m i = f i := if_pos h
theorem insV_at (f : Nat → Nat) (K m : Nat) : insV f K m K = m := by unfold insV; rw [if_neg (by omega), if_pos rfl]
theorem insV_gt {f : Nat → Nat} {K m i : Nat} (h : K ≤ i) : insV f K m (i + 1) = f i := by unfold insV; rw [if_neg (by omega), if_neg (by omega)]; rfl
/-- A node of level m put in at K. -/
theorem linked_put {V B : Nat → Nat} {C C' : Nat → Nat → Value} {K m b : Nat} (h : LinkedK V B C)
    (h1 : ∀ i r, i < K → r < V i → r < m → PredIs V K r i → C' i r = .pointer (some ⟨b, 0, none⟩))
    (h2 : ∀ i r, i < K → r < V i → ¬ (r < m ∧ PredIs V K r i) → C' i r = C i r)
    (h3 : ∀ r, r < m → ∃ p, PredIs V K r p ∧ C' K r = C p r)
    (h4 : ∀ i r, K ≤ i → r < V i → C' (i + 1) r = C i r) : LinkedK (insV V K m) (insV B K b) C' := by
  intro i r hr
  rcases Nat.lt_trichotomy i K with hi | hi | hi
  · rw [insV_lt hi] at hr
    obtain ⟨o, ho, hc⟩ := h i r hr
    by_cases hp : r < m ∧ PredIs V K r i
    · refine ⟨some K, ⟨hi, by rw [insV_at]; exact hp.1, fun t ht hk => by rw [insV_lt hk]; exact hp.2.none t ht hk⟩, ?_⟩
      rw [h1 i r hi hr hp.1 hp.2, ptrO, insV_at]
    · rw [h2 i r hi hr hp, hc]
      cases o with
      | none =>
        have hm : m ≤ r := by
          rcases Nat.lt_or_ge r m with hm | hm
          · exact absurd ⟨hm, hi, hr, fun t ht _ => ho t ht⟩ hp
          · exact hm
        refine ⟨none, fun t ht => ?_, rfl⟩
        rcases Nat.lt_trichotomy t K with h5 | h5 | h5
        · rw [insV_lt h5]; exact ho t ht
        · subst h5; rw [insV_at]; exact hm
        · obtain ⟨t, rfl⟩ : ∃ t', t = t' + 1 := ⟨t - 1, by omega⟩
          rw [insV_gt (by omega)]; exact ho t (by omega)
      | some j =>
        obtain ⟨o1, o2, o3⟩ := ho
        rcases Nat.lt_or_ge j K with hj | hj
        · refine ⟨some j, ⟨o1, by rw [insV_lt hj]; exact o2, fun t ht hk => by rw [insV_lt (by omega)]; exact o3 t ht hk⟩, ?_⟩
          simp only [ptrO]
          rw [insV_lt hj]
        · have hm : m ≤ r := by
            rcases Nat.lt_or_ge r m with hm | hm
            · exact absurd ⟨hm, hi, hr, fun t ht hk => o3 t ht (by omega)⟩ hp
            · exact hm
          refine ⟨some (j + 1), ⟨by omega, by rw [insV_gt hj]; exact o2, fun t ht hk => ?_⟩, ?_⟩
          · rcases Nat.lt_trichotomy t K with h5 | h5 | h5
            · rw [insV_lt h5]; exact o3 t ht (by omega)
            · subst h5; rw [insV_at]; exact hm
            · obtain ⟨t, rfl⟩ : ∃ t', t = t' + 1 := ⟨t - 1, by omega⟩
              rw [insV_gt (by omega)]; exact o3 t (by omega) (by omega)
          · simp only [ptrO]
            rw [insV_gt hj]
  · subst hi
    rw [insV_at] at hr
    obtain ⟨p, hp, hc⟩ := h3 r hr
    obtain ⟨o, ho, ho2⟩ := h p r hp.lev
    have hk := hp.next ho
    rw [hc, ho2]
    have hpl := hp.lt
    cases o with
    | none =>
      refine ⟨none, fun t ht => ?_, rfl⟩
      obtain ⟨t, rfl⟩ : ∃ t', t = t' + 1 := ⟨t - 1, by omega⟩
      rw [insV_gt (by omega)]; exact ho t (by omega)
    | some j =>
      have hj := hk j rfl
      obtain ⟨o1, o2, o3⟩ := ho
      refine ⟨some (j + 1), ⟨by omega, by rw [insV_gt hj]; exact o2, fun t ht hk => ?_⟩, ?_⟩
      · obtain ⟨t, rfl⟩ : ∃ t', t = t' + 1 := ⟨t - 1, by omega⟩
        rw [insV_gt (by omega)]; exact o3 t (by omega) (by omega)
      · simp only [ptrO]
        rw [insV_gt hj]
  · obtain ⟨i, rfl⟩ : ∃ i', i = i' + 1 := ⟨i - 1, by omega⟩
    rw [insV_gt (by omega)] at hr
    obtain ⟨o, ho, hc⟩ := h i r hr
    rw [h4 i r (by omega) hr, hc]
    cases o with
    | none =>
      refine ⟨none, fun t ht => ?_, rfl⟩
      obtain ⟨t, rfl⟩ : ∃ t', t = t' + 1 := ⟨t - 1, by omega⟩
      rw [insV_gt (by omega)]; exact ho t (by omega)
    | some j =>
      obtain ⟨o1, o2, o3⟩ := ho
      refine ⟨some (j + 1), ⟨by omega, by rw [insV_gt (by omega)]; exact o2, fun t ht hk => ?_⟩, ?_⟩
      · obtain ⟨t, rfl⟩ : ∃ t', t = t' + 1 := ⟨t - 1, by omega⟩
        rw [insV_gt (by omega)]; exact o3 t (by omega) (by omega)
      · simp only [ptrO]
        rw [insV_gt (by omega)]
def delV (f : Nat → Nat) (K i : Nat) : Nat := if i < K then f i else f (i + 1)
theorem delV_lt {f : Nat → Nat} {K i : Nat} (h : i < K) : delV f K i = f i := if_pos h
theorem delV_ge {f : Nat → Nat} {K i : Nat} (h : K ≤ i) : delV f K i = f (i + 1) := if_neg (by omega)
/-- The node at K taken out. -/
theorem linked_drop {V B : Nat → Nat} {C C' : Nat → Nat → Value} {K : Nat} (h : LinkedK V B C)
    (h1 : ∀ i r, i < K → r < V i → r < V K → PredIs V K r i → C' i r = C K r)
    (h2 : ∀ i r, i < K → r < V i → ¬ (r < V K ∧ PredIs V K r i) → C' i r = C i r)
    (h4 : ∀ i r, K ≤ i → r < V (i + 1) → C' i r = C (i + 1) r) : LinkedK (delV V K) (delV B K) C' := by
  intro i r hr
  rcases Nat.lt_or_ge i K with hi | hi
  · rw [delV_lt hi] at hr
    by_cases hp : r < V K ∧ PredIs V K r i
    · obtain ⟨o, ho, hc⟩ := h K r hp.1
      rw [h1 i r hi hr hp.1 hp.2, hc]
      cases o with
      | none =>
        refine ⟨none, fun t ht => ?_, rfl⟩
        rcases Nat.lt_or_ge t K with h5 | h5
        · rw [delV_lt h5]; exact hp.2.none t ht h5
        · rw [delV_ge h5]; exact ho _ (by omega)
      | some j =>
        obtain ⟨o1, o2, o3⟩ := ho
        obtain ⟨j, rfl⟩ : ∃ j', j = j' + 1 := ⟨j - 1, by omega⟩
        refine ⟨some j, ⟨by omega, by rw [delV_ge (by omega)]; exact o2, fun t ht hk => ?_⟩, ?_⟩
        · rcases Nat.lt_or_ge t K with h5 | h5
          · rw [delV_lt h5]; exact hp.2.none t ht h5
          · rw [delV_ge h5]; exact o3 _ (by omega) (by omega)
        · simp only [ptrO]
          rw [delV_ge (by omega)]
    · obtain ⟨o, ho, hc⟩ := h i r hr
      rw [h2 i r hi hr hp, hc]
      cases o with
      | none =>
        refine ⟨none, fun t ht => ?_, rfl⟩
        rcases Nat.lt_or_ge t K with h5 | h5
        · rw [delV_lt h5]; exact ho t ht
        · rw [delV_ge h5]; exact ho _ (by omega)
      | some j =>
        obtain ⟨o1, o2, o3⟩ := ho
        have hjk : j ≠ K := by
          rintro rfl
          exact hp ⟨o2, hi, hr, o3⟩
        rcases Nat.lt_or_ge j K with hj | hj
        · refine ⟨some j, ⟨o1, by rw [delV_lt hj]; exact o2, fun t ht hk => by rw [delV_lt (by omega)]; exact o3 t ht hk⟩, ?_⟩
          simp only [ptrO]
          rw [delV_lt hj]
        · obtain ⟨j, rfl⟩ : ∃ j', j = j' + 1 := ⟨j - 1, by omega⟩
          refine ⟨some j, ⟨by omega, by rw [delV_ge (by omega)]; exact o2, fun t ht hk => ?_⟩, ?_⟩
          · rcases Nat.lt_or_ge t K with h5 | h5
            · rw [delV_lt h5]; exact o3 t ht (by omega)
            · rw [delV_ge h5]; exact o3 _ (by omega) (by omega)
          · simp only [ptrO]
            rw [delV_ge (by omega)]
  · rw [delV_ge hi] at hr
    obtain ⟨o, ho, hc⟩ := h (i + 1) r hr
    rw [h4 i r hi hr, hc]
    cases o with
    | none => exact ⟨none, fun t ht => by rw [delV_ge (by omega)]; exact ho _ (by omega), rfl⟩
    | some j =>
      obtain ⟨o1, o2, o3⟩ := ho
      obtain ⟨j, rfl⟩ : ∃ j', j = j' + 1 := ⟨j - 1, by omega⟩
      refine ⟨some j, ⟨by omega, by rw [delV_ge (by omega)]; exact o2, fun t ht hk => by rw [delV_ge (by omega)]; exact o3 _ (by omega) (by omega)⟩, ?_⟩
      simp only [ptrO]
      rw [delV_ge (by omega)]

/-- A node: its block, its rows' block, its key, its thing, what it has in its rows. -/
structure Nd where
  b : Nat
  n : Nat
  key : ByteArray
  val : Value
  cells : List Value
def lvO : Option Nd → Nat
  | some x => x.cells.length
  | none => 0
def bO : Option Nd → Nat
  | some x => x.b
  | none => 0
def cO (r : Nat) : Option Nd → Value
  | some x => x.cells.getD r undef
  | none => undef
def lvN (M : List Nd) (i : Nat) : Nat := lvO M[i]?
def bN (M : List Nd) (i : Nat) : Nat := bO M[i]?
def cN (M : List Nd) (i r : Nat) : Value := cO r M[i]?
theorem lvN_at {M : List Nd} {i : Nat} (h : i < M.length) : lvN M i = M[i].cells.length := by unfold lvN; rw [List.getElem?_eq_getElem h]; rfl
theorem bN_at {M : List Nd} {i : Nat} (h : i < M.length) : bN M i = M[i].b := by unfold bN; rw [List.getElem?_eq_getElem h]; rfl
theorem lvN_pos {M : List Nd} {i r : Nat} (h : r < lvN M i) : i < M.length := by
  rcases Nat.lt_or_ge i M.length with hi | hi
  · exact hi
  · unfold lvN at h; rw [List.getElem?_eq_none hi] at h; simp [lvO] at h
theorem cN_at {M : List Nd} {i r : Nat} (h : i < M.length) (hr : r < M[i].cells.length) : M[i].cells[r] = cN M i r := by
  unfold cN; rw [List.getElem?_eq_getElem h]; simp [cO, List.getD_eq_getElem?_getD, List.getElem?_eq_getElem hr]
/-- Node i with another one in row r. -/
def setN (M : List Nd) (i r : Nat) (u : Value) : List Nd := M.modify i fun x => { x with cells := x.cells.set r u }
theorem setN_get (M : List Nd) (i r : Nat) (u : Value) (j : Nat) : (setN M i r u)[j]? = if i = j then M[j]?.map (fun x => { x with cells := x.cells.set r u }) else M[j]? := by
  unfold setN
  rw [List.getElem?_modify]
  split <;> simp
theorem setN_len (M : List Nd) (i r : Nat) (u : Value) : (setN M i r u).length = M.length := by unfold setN; rw [List.length_modify]
theorem lvN_set (M : List Nd) (i r : Nat) (u : Value) : lvN (setN M i r u) = lvN M := by
  funext j
  unfold lvN
  rw [setN_get]
  split
  · cases M[j]? <;> simp [lvO]
  · rfl
theorem bN_set (M : List Nd) (i r : Nat) (u : Value) : bN (setN M i r u) = bN M := by
  funext j
  unfold bN
  rw [setN_get]
  split
  · cases M[j]? <;> simp [bO]
  · rfl
theorem cN_set {M : List Nd} {i r : Nat} (u : Value) (h : r < lvN M i) (j t : Nat) : cN (setN M i r u) j t = if i = j ∧ r = t then u else cN M j t := by
  have hi := lvN_pos h
  rw [lvN_at hi] at h
  unfold cN
  rw [setN_get]
  by_cases hij : i = j
  · subst hij
    rw [if_pos rfl, List.getElem?_eq_getElem hi]
    simp only [Option.map_some, true_and, cO]
    by_cases hrt : r = t
    · subst hrt
      simp [List.getD_eq_getElem?_getD, h]
    · rw [if_neg hrt]
      simp [List.getD_eq_getElem?_getD, List.getElem?_set_ne hrt]
  · rw [if_neg hij, if_neg (fun h => hij h.1)]
/-- A node put in at K. -/
def insN (M : List Nd) (K : Nat) (x : Nd) : List Nd := M.take K ++ x :: M.drop K
theorem insN_get {M : List Nd} {K : Nat} (x : Nd) (h : K ≤ M.length) (j : Nat) : (insN M K x)[j]? = if j < K then M[j]? else if j = K then some x else M[j - 1]? := by
  unfold insN
  have hl : (M.take K).length = K := by rw [List.length_take]; omega
  rcases Nat.lt_trichotomy j K with hj | hj | hj
  · rw [List.getElem?_append_left (by omega), List.getElem?_take, if_pos hj, if_pos hj]
  · subst hj
    rw [List.getElem?_append_right (by omega), hl, Nat.sub_self, if_neg (by omega), if_pos rfl]; rfl
  · rw [List.getElem?_append_right (by omega), hl, if_neg (by omega), if_neg (by omega)]
    obtain ⟨t, rfl⟩ : ∃ t, j = K + 1 + t := ⟨j - (K + 1), by omega⟩
    rw [show K + 1 + t - K = t + 1 by omega, List.getElem?_cons_succ, List.getElem?_drop]
    congr 1
    omega
theorem lvN_ins {M : List Nd} {K : Nat} (x : Nd) (h : K ≤ M.length) : lvN (insN M K x) = insV (lvN M) K x.cells.length := by
  funext j
  unfold lvN insV
  rw [insN_get x h]
  split
  · rfl
  · split <;> rfl
theorem bN_ins {M : List Nd} {K : Nat} (x : Nd) (h : K ≤ M.length) : bN (insN M K x) = insV (bN M) K x.b := by
  funext j
  unfold bN insV
  rw [insN_get x h]
  split
  · rfl
  · split <;> rfl
theorem cN_ins_lt {M : List Nd} {K : Nat} (x : Nd) (h : K ≤ M.length) {j : Nat} (hj : j < K) (r : Nat) : cN (insN M K x) j r = cN M j r := by
  unfold cN; rw [insN_get x h, if_pos hj]
theorem cN_ins_at {M : List Nd} {K : Nat} (x : Nd) (h : K ≤ M.length) (r : Nat) : cN (insN M K x) K r = x.cells.getD r undef := by
  unfold cN; rw [insN_get x h, if_neg (by omega), if_pos rfl]; rfl
theorem cN_ins_gt {M : List Nd} {K : Nat} (x : Nd) (h : K ≤ M.length) {j : Nat} (hj : K ≤ j) (r : Nat) : cN (insN M K x) (j + 1) r = cN M j r := by
  unfold cN; rw [insN_get x h, if_neg (by omega), if_neg (by omega)]; rfl
/-- The node at K taken out. -/
def delN (M : List Nd) (K : Nat) : List Nd := M.take K ++ M.drop (K + 1)
theorem delN_get {M : List Nd} {K : Nat} (h : K ≤ M.length) (j : Nat) : (delN M K)[j]? = if j < K then M[j]? else M[j + 1]? := by
  unfold delN
  have hl : (M.take K).length = K := by rw [List.length_take]; omega
  rcases Nat.lt_or_ge j K with hj | hj
  · rw [List.getElem?_append_left (by omega), List.getElem?_take, if_pos hj, if_pos hj]
  · rw [List.getElem?_append_right (by omega), hl, if_neg (by omega), List.getElem?_drop]
    congr 1
    omega
theorem lvN_del {M : List Nd} {K : Nat} (h : K ≤ M.length) : lvN (delN M K) = delV (lvN M) K := by
  funext j
  unfold lvN delV
  rw [delN_get h]
  split <;> rfl
theorem bN_del {M : List Nd} {K : Nat} (h : K ≤ M.length) : bN (delN M K) = delV (bN M) K := by
  funext j
  unfold bN delV
  rw [delN_get h]
  split <;> rfl
theorem cN_del {M : List Nd} {K : Nat} (h : K ≤ M.length) (j r : Nat) : cN (delN M K) j r = if j < K then cN M j r else cN M (j + 1) r := by
  unfold cN
  rw [delN_get h]
  split <;> rfl
end Go.Proofs.Ytigdkflknhdbgaa.Skp
