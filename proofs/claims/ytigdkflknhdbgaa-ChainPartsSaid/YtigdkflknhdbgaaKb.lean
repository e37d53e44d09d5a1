/- Layer 13 (the list of layer 12, of slices of versions), the project's: what its list is made of: nodes of one block each (key, thing, level, age, eight rows), the first one within the list's own block, whose last two cells are how many keys there are, and how many were ever made. -/
import Derived.Test.YtigdkflknhdbgaaKa
import Derived.Test.YtigdkflknhdbgaaKp
namespace Go.Proofs.Ytigdkflknhdbgaa.Skp
open Go.RowKit
set_option linter.unusedVariables false

def tyN : Nat → TypeId
  | 0 => 90
  | _ + 1 => 87
def tailN (k mk : Int) : Nat → List Value
  | 0 => [.int .i64 k, .int .i64 mk]
  | _ + 1 => []
def lvlN (x : Nd) : Nat → Int
  | 0 => 0
  | _ + 1 => x.cells.length
def nilP : Value := .pointer none
/-- The cells of node i (its age is x.n). -/
def cellsN (k mk : Int) (i : Nat) (x : Nd) : List Value := [.string x.key, x.val, .int .i64 (lvlN x i), .int .i64 x.n] ++ (x.cells ++ (List.replicate (8 - x.cells.length) nilP ++ tailN k mk i))
structure Nodes (k mk : Int) (w : World) (M : List Nd) : Prop where
  at' : ∀ (i : Nat) (x : Nd), M[i]? = some x → Box w x.b (cellsN k mk i x).toArray (tyN i)
  bs : ∀ (i j : Nat) (x y : Nd), M[i]? = some x → M[j]? = some y → x.b = y.b → i = j
structure SkM (mk : Nat) (w : World) (M : List Nd) (l : List It) : Prop where
  nodes : Nodes l.length mk w M
  len : M.length = l.length + 1
  head : ∀ x, M[0]? = some x → x.cells.length = 8 ∧ x.key = ⟨#[]⟩
  items : ∀ (t : Nat) (x : It), l[t]? = some x → ∃ y, M[t + 1]? = some y ∧ y.key = x.key ∧ y.val = .slice x.v.a x.v.n x.v.c ∧ (y.cells.length : Int) = x.level ∧ y.n ≤ mk
  link : LinkedK (lvN M) (bN M) (cN M)
  levs : ∀ (i : Nat) (x : Nd), M[i]? = some x → 1 ≤ x.cells.length ∧ x.cells.length ≤ 8
  asc : AscK l
def OwnK (M : List Nd) (i : Nat) : Prop := ∃ x ∈ M, i = x.b
def SkI (n : Nat) (w : World) (S : Nat → Prop) (p : Value) (l : List It) : Prop := ∃ (mk : Nat) (M : List Nd), mk ≤ n ∧ p = .pointer (some ⟨bN M 0, 0, none⟩) ∧ SkM mk w M l ∧ ∀ i, S i ↔ OwnK M i
def listO : Obj → Bool
  | .cells _ t _ => t == 90 || t == 87
  | _ => false

theorem Nodes.on {k mk : Int} {w w' : World} {M : List Nd} (h : Nodes k mk w M) (hb : Below w.heap.size w w') : Nodes k mk w' M := ⟨fun i x hi => (h.at' i x hi).later hb, h.bs⟩
theorem SkM.on {mk : Nat} {w w' : World} {M : List Nd} {l : List It} (h : SkM mk w M l) (hb : Below w.heap.size w w') : SkM mk w' M l :=
  ⟨h.nodes.on hb, h.len, h.head, h.items, h.link, h.levs, h.asc⟩
theorem SkM.has0 {mk : Nat} {w : World} {M : List Nd} {l : List It} (h : SkM mk w M l) : ∃ x, M[0]? = some x ∧ x.b = bN M 0 ∧ x.cells.length = 8 ∧ x.key = ⟨#[]⟩ := by
  have h0 : 0 < M.length := by rw [h.len]; omega
  exact ⟨M[0], List.getElem?_eq_getElem h0, (bN_at h0).symm, h.head _ (List.getElem?_eq_getElem h0)⟩
theorem SkM.lv0 {mk : Nat} {w : World} {M : List Nd} {l : List It} (h : SkM mk w M l) : lvN M 0 = 8 := by
  obtain ⟨x, hx, -, h8, -⟩ := h.has0
  unfold lvN; rw [hx]; exact h8
theorem cells_row (k mk : Int) (i : Nat) (x : Nd) {r : Nat} (hr : r < x.cells.length) : (cellsN k mk i x)[4 + r]? = some (x.cells.getD r undef) := by
  unfold cellsN
  rw [show 4 + r = r + 4 by omega]
  simp only [List.cons_append, List.nil_append, List.getElem?_cons_succ]
  rw [List.getElem?_append_left hr, List.getD_eq_getElem?_getD, List.getElem?_eq_getElem hr]
  rfl
/-- What a node has in a row. -/
theorem Nodes.reads {k mk : Int} {w : World} {M : List Nd} (h : Nodes k mk w M) {i r : Nat} (hr : r < lvN M i) : w.cell? ⟨bN M i, 4 + r, none⟩ = some (cN M i r) := by
  have hi := lvN_pos hr
  rw [lvN_at hi] at hr
  have hb := h.at' i _ (List.getElem?_eq_getElem hi)
  rw [bN_at hi]
  refine hb.cell (4 + r) _ ?_
  rw [List.getElem?_toArray, cells_row k mk i _ hr]
  unfold cN
  rw [List.getElem?_eq_getElem hi]
  rfl
theorem Nodes.frozen {k mk : Int} {w : World} {M : List Nd} (h : Nodes k mk w M) {i : Nat} (hi : i < M.length) (j : Nat) : w.frozen? ⟨bN M i, j, none⟩ = false := by
  rw [bN_at hi]
  exact (h.at' i _ (List.getElem?_eq_getElem hi)).frozen j
/-- The two cells behind the first node. -/
theorem Nodes.tail {k mk : Int} {w : World} {M : List Nd} (h : Nodes k mk w M) (h0 : lvN M 0 = 8) : w.cell? ⟨bN M 0, 12, none⟩ = some (.int .i64 k) ∧ w.cell? ⟨bN M 0, 13, none⟩ = some (.int .i64 mk) := by
  have hi : 0 < M.length := lvN_pos (r := 0) (by omega)
  rw [lvN_at hi] at h0
  have hb := h.at' 0 _ (List.getElem?_eq_getElem hi)
  rw [bN_at hi]
  constructor
  · refine hb.cell 12 _ ?_
    rw [List.getElem?_toArray]
    unfold cellsN
    simp only [List.cons_append, List.nil_append, List.getElem?_cons_succ]
    rw [h0, List.getElem?_append_right (by omega), h0]
    rfl
  · refine hb.cell 13 _ ?_
    rw [List.getElem?_toArray]
    unfold cellsN
    simp only [List.cons_append, List.nil_append, List.getElem?_cons_succ]
    rw [h0, List.getElem?_append_right (by omega), h0]
    rfl
/-- The key of a node, its thing, its level, its age. -/
theorem SkM.key {mk : Nat} {w : World} {M : List Nd} {l : List It} (h : SkM mk w M l) {t : Nat} (ht : t < l.length) : w.cell? ⟨bN M (t + 1), 0, none⟩ = some (.string l[t].key) ∧ w.cell? ⟨bN M (t + 1), 1, none⟩ = some (.slice l[t].v.a l[t].v.n l[t].v.c) ∧
    w.cell? ⟨bN M (t + 1), 2, none⟩ = some (.int .i64 l[t].level) ∧ ∃ a : Nat, w.cell? ⟨bN M (t + 1), 3, none⟩ = some (.int .i64 a) ∧ a ≤ mk := by
  obtain ⟨y, hy, h1, h2, h3, h4⟩ := h.items t _ (List.getElem?_eq_getElem ht)
  have hb := h.nodes.at' _ _ hy
  have : bN M (t + 1) = y.b := by unfold bN; rw [hy]; rfl
  rw [this, ← h1, ← h2, ← h3]
  exact ⟨hb.cell 0 _ rfl, hb.cell 1 _ rfl, hb.cell 2 _ rfl, y.n, hb.cell 3 _ rfl, h4⟩
theorem SkM.key0 {mk : Nat} {w : World} {M : List Nd} {l : List It} (h : SkM mk w M l) : w.cell? ⟨bN M 0, 0, none⟩ = some (.string ⟨#[]⟩) := by
  obtain ⟨x, hx, hb, -, hk⟩ := h.has0
  have hc := (h.nodes.at' _ _ hx).cell 0 (.string x.key) rfl
  rw [hk, hb] at hc
  exact hc
theorem SkM.lev {mk : Nat} {w : World} {M : List Nd} {l : List It} (h : SkM mk w M l) {t : Nat} (ht : t < l.length) : (lvN M (t + 1) : Int) = l[t].level ∧ 1 ≤ lvN M (t + 1) ∧ lvN M (t + 1) ≤ 8 := by
  obtain ⟨y, hy, -, -, h3, -⟩ := h.items t _ (List.getElem?_eq_getElem ht)
  have : lvN M (t + 1) = y.cells.length := by unfold lvN; rw [hy]; rfl
  rw [this]
  exact ⟨h3, h.levs _ _ hy⟩
/-- Keys ahead of the place of a key are less, the others are not. -/
theorem key_less {l : List It} (ha : AscK l) (key : ByteArray) {t : Nat} (ht : t < l.length) : Op.bytesLess l[t].key.toList key.toList = decide (t < atI key l) := by
  rcases Nat.lt_or_ge t (atI key l) with h | h
  · rw [decide_eq_true h]
    have := at_before (key := key) (l := l) (k := t) ht h
    unfold geK at this
    simpa using this
  · rw [decide_eq_false (by omega)]
    have hlt : atI key l < l.length := by omega
    have h1 := at_at hlt
    have h0 : Op.bytesLess (l[atI key l]).key.toList key.toList = false := by unfold geK at h1; simpa using h1
    rcases Nat.eq_or_lt_of_le h with e | e
    · simp only [← e]; exact h0
    · rw [Bool.eq_false_iff]
      intro h3
      unfold AscK at ha
      have h4 := List.pairwise_iff_getElem.1 ha (atI key l) t (by simpa using hlt) (by simpa using ht) e
      simp only [List.getElem_map] at h4
      have := less_transK _ _ _ h4 h3
      rw [h0] at this
      cases this
theorem SkM.next_lt {mk : Nat} {w : World} {M : List Nd} {l : List It} (h : SkM mk w M l) {r i j : Nat} (ho : NextIs (lvN M) r i (some j)) : ∃ t, j = t + 1 ∧ t < l.length := by
  have h1 := lvN_pos ho.2.1
  have h2 := h.len
  have h3 := ho.1
  exact ⟨j - 1, by omega, by omega⟩
/-- In the first row stand all. -/
theorem SkM.next0 {mk : Nat} {w : World} {M : List Nd} {l : List It} (h : SkM mk w M l) {i : Nat} (hi : i ≤ l.length) : cN M i 0 = if i < l.length then .pointer (some ⟨bN M (i + 1), 0, none⟩) else .pointer none := by
  have hv : 0 < lvN M i := by
    rcases Nat.eq_zero_or_pos i with rfl | h0
    · rw [h.lv0]; decide
    · obtain ⟨t, rfl⟩ : ∃ t, i = t + 1 := ⟨i - 1, by omega⟩
      exact (h.lev (t := t) (by omega)).2.1
  obtain ⟨o, ho, hc⟩ := h.link i 0 hv
  rw [hc]
  split
  · rename_i hlt
    have h1 := (h.lev (t := i) hlt).2.1
    cases o with
    | none => have := ho (i + 1) (by omega); omega
    | some j =>
      obtain ⟨a, b, c⟩ := ho
      have : j = i + 1 := by
        rcases Nat.lt_or_ge (i + 1) j with h2 | h2
        · have := c (i + 1) (by omega) h2; omega
        · omega
      rw [this]; rfl
  · rename_i hlt
    cases o with
    | none => rfl
    | some j =>
      obtain ⟨t, rfl, ht⟩ := h.next_lt ho
      have := ho.1
      omega
/-- The last one of all ahead of K. -/
theorem SkM.pred0 {mk : Nat} {w : World} {M : List Nd} {l : List It} (h : SkM mk w M l) {K j : Nat} (hK : K ≤ l.length + 1) (hp : PredIs (lvN M) K 0 j) : j + 1 = K := by
  have h1 := hp.lt
  rcases Nat.lt_or_ge (j + 1) K with h2 | h2
  · have h3 := hp.none (j + 1) (by omega) h2
    have := (h.lev (t := j) (by omega)).2.1
    omega
  · omega
end Go.Proofs.Ytigdkflknhdbgaa.Skp
