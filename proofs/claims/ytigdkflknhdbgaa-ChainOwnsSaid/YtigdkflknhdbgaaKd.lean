/- Layer 13 (the list of layer 12, of slices of versions), the project's: a cell of a node turned, a node put in, a node taken out: what the list is then. -/
import Derived.Test.YtigdkflknhdbgaaKe
namespace Go.Proofs.Ytigdkflknhdbgaa.Skp
open Go.RowKit
set_option linter.unusedVariables false

/-- All of a node but whom it points to. -/
def shapeN (x : Nd) : Nat × Nat × ByteArray × Value × Nat := (x.b, x.n, x.key, x.val, x.cells.length)
def SameN (M M2 : List Nd) : Prop := M2.map shapeN = M.map shapeN
theorem SameN.refl (M : List Nd) : SameN M M := rfl
theorem SameN.trans {A B C : List Nd} (h : SameN A B) (k : SameN B C) : SameN A C := Eq.trans k h
theorem SameN.len {M M2 : List Nd} (h : SameN M M2) : M2.length = M.length := by have := congrArg List.length h; simpa using this
theorem SameN.get {M M2 : List Nd} (h : SameN M M2) {i : Nat} {x : Nd} (hx : M[i]? = some x) : ∃ y, M2[i]? = some y ∧ shapeN y = shapeN x := by
  have e : (M2.map shapeN)[i]? = (M.map shapeN)[i]? := by rw [h]
  rw [List.getElem?_map, List.getElem?_map, hx] at e
  obtain ⟨y, hy, he⟩ := Option.map_eq_some_iff.1 e
  exact ⟨y, hy, he⟩
theorem SameN.lv {M M2 : List Nd} (h : SameN M M2) : lvN M2 = lvN M := by
  funext i
  unfold lvN
  have e : (M2.map shapeN)[i]? = (M.map shapeN)[i]? := by rw [h]
  rw [List.getElem?_map, List.getElem?_map] at e
  cases h1 : M[i]? <;> cases h2 : M2[i]? <;> rw [h1, h2] at e <;> simp [lvO, shapeN] at e ⊢
  exact e.2.2.2.2
theorem SameN.bb {M M2 : List Nd} (h : SameN M M2) : bN M2 = bN M := by
  funext i
  unfold bN
  have e : (M2.map shapeN)[i]? = (M.map shapeN)[i]? := by rw [h]
  rw [List.getElem?_map, List.getElem?_map] at e
  cases h1 : M[i]? <;> cases h2 : M2[i]? <;> rw [h1, h2] at e <;> simp [bO, shapeN] at e ⊢
  exact e.1
theorem same_set (M : List Nd) (i r : Nat) (u : Value) : SameN M (setN M i r u) := by
  refine List.ext_getElem? fun j => ?_
  rw [List.getElem?_map, List.getElem?_map, setN_get]
  split
  · cases M[j]? <;> simp [shapeN]
  · rfl
theorem cells_len {k mk : Int} {i : Nat} {x : Nd} (h : x.cells.length ≤ 8) : 12 ≤ (cellsN k mk i x).length := by
  unfold cellsN
  simp only [List.length_append, List.length_cons, List.length_nil, List.length_replicate]
  omega
theorem cells_set (k mk : Int) (i : Nat) (x : Nd) {r : Nat} (u : Value) (hr : r < x.cells.length) : (cellsN k mk i x).set (4 + r) u = cellsN k mk i { x with cells := x.cells.set r u } := by
  have hl : lvlN { x with cells := x.cells.set r u } i = lvlN x i := by cases i <;> simp [lvlN]
  unfold cellsN
  rw [hl, show 4 + r = r + 4 by omega]
  simp only [List.cons_append, List.nil_append, List.set_cons_succ, List.length_set]
  rw [List.set_append_left _ _ hr]
theorem ty_next (i : Nat) : tyN (i + 1) = 87 := rfl
theorem cells_next (k mk k' mk' : Int) (i j : Nat) (x : Nd) : cellsN k mk (i + 1) x = cellsN k' mk' (j + 1) x := rfl
/-- Blocks of nodes stay, but for one. -/
theorem Nodes.map {k mk k' mk' : Int} {w w' : World} {M M2 : List Nd} (h : Nodes k mk w M) (hb : ∀ i : Nat, bO M2[i]? = bO M[i]?) (hlen : M2.length = M.length)
    (hat : ∀ (i : Nat) (x y : Nd), M[i]? = some x → M2[i]? = some y → Box w' y.b (cellsN k' mk' i y).toArray (tyN i)) : Nodes k' mk' w' M2 := by
  have key : ∀ (i : Nat) (y : Nd), M2[i]? = some y → ∃ x, M[i]? = some x ∧ y.b = x.b := fun i y hy => by
    have hi : i < M.length := by rw [← hlen]; exact (List.getElem?_eq_some_iff.1 hy).1
    have := hb i
    rw [hy, List.getElem?_eq_getElem hi] at this
    exact ⟨_, List.getElem?_eq_getElem hi, this⟩
  refine ⟨fun i y hy => ?_, fun i j y z hy hz e => ?_⟩
  · obtain ⟨x, hx, -⟩ := key i y hy
    exact hat i x y hx hy
  · obtain ⟨x, hx, e1⟩ := key i y hy
    obtain ⟨x2, hx2, e2⟩ := key j z hz
    exact h.bs i j x x2 hx hx2 (by rw [← e1, ← e2]; exact e)
/-- A store into a node's rows. -/
theorem Nodes.set {k mk : Int} {w : World} {M : List Nd} (h : Nodes k mk w M) {i r : Nat} (hr : r < lvN M i) (u : Value) : Nodes k mk (w.setCell ⟨bN M i, 4 + r, none⟩ u) (setN M i r u) := by
  have hi := lvN_pos hr
  have hr2 := hr
  rw [lvN_at hi] at hr2
  refine h.map (fun j => ?_) (setN_len _ _ _ _) fun j x y hx hy => ?_
  · exact congrFun (bN_set M i r u) j
  · rw [setN_get] at hy
    by_cases hij : i = j
    · subst hij
      rw [if_pos rfl, hx, Option.map_some, Option.some.injEq] at hy
      subst hy
      have e : M[i] = x := by rw [List.getElem?_eq_getElem hi] at hx; exact Option.some.inj hx
      rw [e] at hr2
      have hb := (h.at' i x hx).set (4 + r) u
      rw [bN_at hi, e]
      rw [List.setIfInBounds_toArray, cells_set k mk i x u hr2] at hb
      exact hb
    · rw [if_neg hij, hx, Option.some.injEq] at hy
      subst hy
      refine (h.at' j x hx).other _ _ fun e => hij ?_
      rw [bN_at hi] at e
      exact h.bs i j _ x (List.getElem?_eq_getElem hi) hx e.symm
/-- Another thing in a node. -/
def valN (M : List Nd) (i : Nat) (u : Value) : List Nd := M.modify i fun x => { x with val := u }
theorem valN_get (M : List Nd) (i : Nat) (u : Value) (j : Nat) : (valN M i u)[j]? = if i = j then M[j]?.map (fun x => { x with val := u }) else M[j]? := by
  unfold valN
  rw [List.getElem?_modify]
  split <;> simp
theorem valN_len (M : List Nd) (i : Nat) (u : Value) : (valN M i u).length = M.length := by unfold valN; rw [List.length_modify]
theorem lvN_val (M : List Nd) (i : Nat) (u : Value) : lvN (valN M i u) = lvN M := by
  funext j
  unfold lvN
  rw [valN_get]
  split
  · cases M[j]? <;> simp [lvO]
  · rfl
theorem bN_val (M : List Nd) (i : Nat) (u : Value) : bN (valN M i u) = bN M := by
  funext j
  unfold bN
  rw [valN_get]
  split
  · cases M[j]? <;> simp [bO]
  · rfl
theorem cN_val (M : List Nd) (i : Nat) (u : Value) : cN (valN M i u) = cN M := by
  funext j r
  unfold cN
  rw [valN_get]
  split
  · cases M[j]? <;> simp [cO]
  · rfl
theorem Nodes.val {k mk : Int} {w : World} {M : List Nd} (h : Nodes k mk w M) {i : Nat} (hi : i < M.length) (u : Value) : Nodes k mk (w.setCell ⟨bN M i, 1, none⟩ u) (valN M i u) := by
  refine h.map (fun j => ?_) (valN_len _ _ _) fun j x y hx hy => ?_
  · exact congrFun (bN_val M i u) j
  · rw [valN_get] at hy
    by_cases hij : i = j
    · subst hij
      rw [if_pos rfl, hx, Option.map_some, Option.some.injEq] at hy
      subst hy
      have e : M[i] = x := by rw [List.getElem?_eq_getElem hi] at hx; exact Option.some.inj hx
      have hb := (h.at' i x hx).set 1 u
      rw [bN_at hi, e]
      rw [List.setIfInBounds_toArray] at hb
      have e2 : (cellsN k mk i x).set 1 u = cellsN k mk i { x with val := u } := by cases i <;> rfl
      rw [e2] at hb
      exact hb
    · rw [if_neg hij, hx, Option.some.injEq] at hy
      subst hy
      refine (h.at' j x hx).other _ _ fun e => hij ?_
      rw [bN_at hi] at e
      exact h.bs i j _ x (List.getElem?_eq_getElem hi) hx e.symm
theorem cells_keys (k mk k' : Int) (x : Nd) (h : x.cells.length = 8) : (cellsN k mk 0 x).set 12 (.int .i64 k') = cellsN k' mk 0 x := by
  unfold cellsN
  simp only [List.cons_append, List.nil_append, List.set_cons_succ, h, Nat.sub_self, List.replicate_zero, tailN]
  rw [List.set_append_right _ _ (by omega), h]
  rfl
theorem cells_made (k mk mk' : Int) (x : Nd) (h : x.cells.length = 8) : (cellsN k mk 0 x).set 13 (.int .i64 mk') = cellsN k mk' 0 x := by
  unfold cellsN
  simp only [List.cons_append, List.nil_append, List.set_cons_succ, h, Nat.sub_self, List.replicate_zero, tailN]
  rw [List.set_append_right _ _ (by omega), h]
  rfl
/-- How many keys there are, and were made, counted anew. -/
theorem Nodes.keys {k mk : Int} {w : World} {M : List Nd} (h : Nodes k mk w M) (h0 : lvN M 0 = 8) (k' : Int) : Nodes k' mk (w.setCell ⟨bN M 0, 12, none⟩ (.int .i64 k')) M := by
  have hi : 0 < M.length := lvN_pos (r := 0) (by omega)
  rw [lvN_at hi] at h0
  refine h.map (fun _ => rfl) rfl fun j x y hx hy => ?_
  rw [hx, Option.some.injEq] at hy
  subst hy
  cases j with
  | zero =>
    have e : M[0] = x := by rw [List.getElem?_eq_getElem hi] at hx; exact Option.some.inj hx
    have hb := (h.at' 0 x hx).set 12 (.int .i64 k')
    rw [List.setIfInBounds_toArray, cells_keys k mk k' x (by rw [← e]; exact h0)] at hb
    rw [bN_at hi, e]
    exact hb
  | succ j =>
    refine Box.other (h.at' (j + 1) x hx) _ _ fun e => ?_
    rw [bN_at hi] at e
    have := h.bs 0 (j + 1) _ x (List.getElem?_eq_getElem hi) hx e.symm
    omega
theorem Nodes.made {k mk : Int} {w : World} {M : List Nd} (h : Nodes k mk w M) (h0 : lvN M 0 = 8) (mk' : Int) : Nodes k mk' (w.setCell ⟨bN M 0, 13, none⟩ (.int .i64 mk')) M := by
  have hi : 0 < M.length := lvN_pos (r := 0) (by omega)
  rw [lvN_at hi] at h0
  refine h.map (fun _ => rfl) rfl fun j x y hx hy => ?_
  rw [hx, Option.some.injEq] at hy
  subst hy
  cases j with
  | zero =>
    have e : M[0] = x := by rw [List.getElem?_eq_getElem hi] at hx; exact Option.some.inj hx
    have hb := (h.at' 0 x hx).set 13 (.int .i64 mk')
    rw [List.setIfInBounds_toArray, cells_made k mk mk' x (by rw [← e]; exact h0)] at hb
    rw [bN_at hi, e]
    exact hb
  | succ j =>
    refine Box.other (h.at' (j + 1) x hx) _ _ fun e => ?_
    rw [bN_at hi] at e
    have := h.bs 0 (j + 1) _ x (List.getElem?_eq_getElem hi) hx e.symm
    omega
/-- A node of a new block put in. -/
theorem Nodes.ins {k mk : Int} {w : World} {M : List Nd} (h : Nodes k mk w M) {K : Nat} (hK : K < M.length) {x : Nd} (hx : Box w x.b (cellsN k mk 1 x).toArray 87) (hb : ∀ (i : Nat) (y : Nd), M[i]? = some y → y.b ≠ x.b) : Nodes k mk w (insN M (K + 1) x) := by
  have key : ∀ (j : Nat) (y : Nd), (insN M (K + 1) x)[j]? = some y → (j = K + 1 ∧ y = x) ∨ (∃ i, M[i]? = some y ∧ ((j < K + 1 ∧ i = j) ∨ (K + 1 < j ∧ i + 1 = j))) := fun j y hy => by
    rw [insN_get x hK] at hy
    rcases Nat.lt_trichotomy j (K + 1) with hj | hj | hj
    · rw [if_pos hj] at hy; exact .inr ⟨j, hy, .inl ⟨hj, rfl⟩⟩
    · rw [if_neg (by omega), if_pos hj] at hy; exact .inl ⟨hj, (Option.some.inj hy).symm⟩
    · rw [if_neg (by omega), if_neg (by omega)] at hy; exact .inr ⟨j - 1, hy, .inr ⟨hj, by omega⟩⟩
  refine ⟨fun j y hy => ?_, fun j m y z hy hz e => ?_⟩
  · rcases key j y hy with ⟨rfl, rfl⟩ | ⟨i, hi, ⟨hj, rfl⟩ | ⟨hj, rfl⟩⟩
    · exact hx
    · exact h.at' _ y hi
    · obtain ⟨i, rfl⟩ : ∃ i', i = i' + 1 := ⟨i - 1, by omega⟩
      have q := h.at' _ y hi
      exact q
  · rcases key j y hy with ⟨h1, rfl⟩ | ⟨i, hi, h2⟩
    · rcases key m z hz with ⟨h3, rfl⟩ | ⟨i, hi, h2⟩
      · omega
      · exact absurd e.symm (hb i z hi)
    · rcases key m z hz with ⟨h3, rfl⟩ | ⟨i', hi', h2'⟩
      · exact absurd e (hb i y hi)
      · have := h.bs i i' y z hi hi' e; omega
/-- A node taken out. -/
theorem Nodes.del {k mk : Int} {w : World} {M : List Nd} (h : Nodes k mk w M) {K : Nat} (hK : K + 1 ≤ M.length) : Nodes k mk w (delN M (K + 1)) := by
  have key : ∀ (j : Nat) (y : Nd), (delN M (K + 1))[j]? = some y → ∃ i, M[i]? = some y ∧ ((j < K + 1 ∧ i = j) ∨ (K + 1 ≤ j ∧ i = j + 1)) := fun j y hy => by
    rw [delN_get hK] at hy
    rcases Nat.lt_or_ge j (K + 1) with hj | hj
    · rw [if_pos hj] at hy; exact ⟨j, hy, .inl ⟨hj, rfl⟩⟩
    · rw [if_neg (by omega)] at hy; exact ⟨j + 1, hy, .inr ⟨hj, rfl⟩⟩
  refine ⟨fun j y hy => ?_, fun j m y z hy hz e => ?_⟩
  · obtain ⟨i, hi, ⟨hj, rfl⟩ | ⟨hj, rfl⟩⟩ := key j y hy
    · exact h.at' _ y hi
    · obtain ⟨j, rfl⟩ : ∃ j', j = j' + 1 := ⟨j - 1, by omega⟩
      have q := h.at' _ y hi
      exact q
  · obtain ⟨i, hi, h2⟩ := key j y hy
    obtain ⟨i', hi', h2'⟩ := key m z hz
    have := h.bs i i' y z hi hi' e; omega
/-- The rows, when a node has been put in: M2 the nodes as they stand then, x the new one. -/
theorem put_link {M M2 : List Nd} {K : Nat} {x : Nd} (h : LinkedK (lvN M) (bN M) (cN M)) (hs : SameN M M2) (hK : K ≤ M.length)
    (h1 : ∀ i r, i < K → r < lvN M i → r < x.cells.length → PredIs (lvN M) K r i → cN M2 i r = .pointer (some ⟨x.b, 0, none⟩))
    (h2 : ∀ i r, r < lvN M i → ¬ (r < x.cells.length ∧ PredIs (lvN M) K r i) → cN M2 i r = cN M i r)
    (h3 : ∀ r, r < x.cells.length → ∃ p, PredIs (lvN M) K r p ∧ x.cells.getD r undef = cN M p r) :
    LinkedK (lvN (insN M2 K x)) (bN (insN M2 K x)) (cN (insN M2 K x)) := by
  have hl := hs.len
  rw [lvN_ins x (by omega), bN_ins x (by omega), hs.lv, hs.bb]
  refine linked_put h (fun i r hi hr hm hp => ?_) (fun i r hi hr hp => ?_) (fun r hr => ?_) (fun i r hi hr => ?_)
  · rw [cN_ins_lt x (by omega) hi]; exact h1 i r hi hr hm hp
  · rw [cN_ins_lt x (by omega) hi]; exact h2 i r hr hp
  · obtain ⟨p, hp, e⟩ := h3 r hr
    exact ⟨p, hp, by rw [cN_ins_at x (by omega)]; exact e⟩
  · rw [cN_ins_gt x (by omega) hi]
    exact h2 i r hr fun hp => by have := hp.2.lt; omega
/-- The rows, when the node at K has been taken out. -/
theorem drop_link {M M2 : List Nd} {K : Nat} (h : LinkedK (lvN M) (bN M) (cN M)) (hs : SameN M M2) (hK : K ≤ M.length)
    (h1 : ∀ i r, i < K → r < lvN M i → r < lvN M K → PredIs (lvN M) K r i → cN M2 i r = cN M K r)
    (h2 : ∀ i r, r < lvN M i → ¬ (r < lvN M K ∧ PredIs (lvN M) K r i) → cN M2 i r = cN M i r) :
    LinkedK (lvN (delN M2 K)) (bN (delN M2 K)) (cN (delN M2 K)) := by
  have hl := hs.len
  rw [lvN_del (by omega), bN_del (by omega), hs.lv, hs.bb]
  refine linked_drop h (fun i r hi hr hm hp => ?_) (fun i r hi hr hp => ?_) (fun i r hi hr => ?_)
  · rw [cN_del (by omega), if_pos hi]; exact h1 i r hi hr hm hp
  · rw [cN_del (by omega), if_pos hi]; exact h2 i r hr hp
  · rw [cN_del (by omega), if_neg (by omega)]
    exact h2 (i + 1) r hr fun hp => by have := hp.2.lt; omega
end Go.Proofs.Ytigdkflknhdbgaa.Skp
