/- Layer 13, plain: the list of layer 12, its things slices (Sl). -/
import Derived.Test.YtigdkflknhdbgaaBtu
import Derived.Test.YtigdkflknhdbgaaBE
import Derived.Test.YtigdkflknhdbgaaBxx
namespace Go.Proofs.Ytigdkflknhdbgaa.Skp
open Go.RowKit
set_option linter.unusedVariables false

structure Sl where
  a : Option Addr
  n : Nat
  c : Nat
structure It where
  key : ByteArray
  level : Int
  v : Sl

theorem bytes_eqK (a b : ByteArray) : a.toList = b.toList ↔ a = b := by
  constructor
  · intro h
    rw [ByteArray.toList_eq, ByteArray.toList_eq] at h
    exact ByteArray.ext (Array.toList_inj.1 h)
  · intro h; rw [h]

/-- Is a key not ahead of another? -/
def geK (a b : ByteArray) : Bool := !(Op.bytesLess a.toList b.toList)

def atI (key : ByteArray) : List It → Nat
  | [] => 0
  | x :: r => if geK x.key key = true then 0 else atI key r + 1
def hereI (l : List It) (key : ByteArray) : Bool := match l[atI key l]? with | some x => x.key.toList == key.toList | none => false

theorem at_le (key : ByteArray) : ∀ l : List It, atI key l ≤ l.length
  | [] => Nat.le_refl _
  | x :: r => by
    have := at_le key r
    rw [atI, List.length_cons]
    split <;> omega

theorem at_drop (key : ByteArray) {l : List It} {k : Nat} (hk : k < l.length) : atI key (l.drop k) = if geK l[k].key key = true then 0 else atI key (l.drop (k + 1)) + 1 := by
  rw [List.drop_eq_getElem_cons hk, atI]

theorem here_at {l : List It} {key : ByteArray} {k : Nat} (h : atI key l = k) (hk : k < l.length) : hereI l key = (l[k].key.toList == key.toList) := by
  unfold hereI
  rw [h, List.getElem?_eq_getElem hk]

theorem here_none {l : List It} {key : ByteArray} (h : atI key l = l.length) : hereI l key = false := by
  unfold hereI
  rw [h, List.getElem?_eq_none (Nat.le_refl _)]

theorem here_lt {l : List It} {key : ByteArray} (h : hereI l key = true) : ∃ hk : atI key l < l.length, l[atI key l].key = key := by
  rcases Nat.lt_or_ge (atI key l) l.length with hk | hk
  · refine ⟨hk, ?_⟩
    rw [here_at rfl hk, beq_iff_eq] at h
    exact (bytes_eqK _ _).1 h
  · rw [here_none (Nat.le_antisymm (at_le _ _) hk)] at h; cases h

def heightGo (n : Int) : List It → Int
  | [] => n
  | x :: r => heightGo (if n < x.level then x.level else n) r

def heightI (l : List It) : Int := heightGo 0 l

theorem height_drop (n : Int) {l : List It} {k : Nat} (hk : k < l.length) : heightGo n (l.drop k) = heightGo (if n < l[k].level then l[k].level else n) (l.drop (k + 1)) := by
  rw [List.drop_eq_getElem_cons hk, heightGo]

def rowB (lv : Int) (x : It) : Bool := decide (1 ≤ lv) && decide (lv ≤ 8) && decide (lv ≤ x.level)

def rowI (l : List It) (lv : Int) : List ByteArray := (l.filter (rowB lv)).map (·.key)

theorem row_drop (lv : Int) {l : List It} {k : Nat} (hk : k < l.length) : rowI (l.drop k) lv = (if rowB lv l[k] = true then [l[k].key] else []) ++ rowI (l.drop (k + 1)) lv := by
  rw [List.drop_eq_getElem_cons hk, rowI, List.filter_cons]
  split <;> rfl

def fromI (l : List It) (key : ByteArray) : List It := l.drop (atI key l)

def floorI (l : List It) (key : ByteArray) : ByteArray × Bool :=
  if hereI l key = true then (key, true) else match l.take (atI key l) |>.getLast? with | some x => (x.key, true) | none => (⟨#[]⟩, false)

def dropI (l : List It) (key : ByteArray) : List It × Bool := if hereI l key = true then (l.take (atI key l) ++ l.drop (atI key l + 1), true) else (l, false)

def clampI (n : Int) : Int := if n < 1 then 1 else if 8 < n then 8 else n

def levI (l : List It) (k : Nat) : Int := match l[k]? with | some x => x.level | none => 0

def putI (l : List It) (key : ByteArray) (lv : Int) (v : Sl) : List It × Bool :=
  if hereI l key = true then (l.take (atI key l) ++ [⟨key, levI l (atI key l), v⟩] ++ l.drop (atI key l + 1), false)
  else (l.take (atI key l) ++ [⟨key, clampI lv, v⟩] ++ l.drop (atI key l), true)

theorem take_len {α : Type} (l : List α) (k : Nat) : (l.take k).length ≤ l.length := by rw [List.length_take]; omega

theorem drop_len {α : Type} (l : List α) (k : Nat) : (l.drop k).length ≤ l.length := by rw [List.length_drop]; omega

theorem put_len (l : List It) (key : ByteArray) (lv : Int) (v : Sl) : (putI l key lv v).1.length ≤ l.length + 1 := by
  have h0 := at_le key l
  unfold putI
  split
  · rename_i h
    obtain ⟨h1, -⟩ := here_lt h
    simp only [List.length_append, List.length_take, List.length_drop, List.length_singleton]; omega
  · simp only [List.length_append, List.length_take, List.length_drop, List.length_singleton]; omega

theorem drop_lenI (l : List It) (key : ByteArray) : (dropI l key).1.length ≤ l.length := by
  unfold dropI
  split
  · simp only [List.length_append, List.length_take, List.length_drop]; omega
  · exact Nat.le_refl _

theorem less_irreflK (a : List UInt8) : Op.bytesLess a a = false := by
  induction a with
  | nil => rfl
  | cons x r ih => simp [Op.bytesLess, ih]

theorem at_before {key : ByteArray} : ∀ {l : List It} {k : Nat} (hk : k < l.length), k < atI key l → geK l[k].key key = false
  | [], k, hk, _ => absurd hk (by simp)
  | x :: r, k, hk, h => by
    rw [atI] at h
    split at h
    · omega
    · rename_i hx
      cases k with
      | zero => simpa using hx
      | succ k => exact at_before (l := r) (by simpa using hk) (by omega)

def inK (n : Int) : Prop := -9223372036854775808 ≤ n ∧ n ≤ 9223372036854775807

def kvI (l : List It) : List (ByteArray × Sl) := l.map fun x => (x.key, x.v)

def encKV (x : ByteArray × Sl) : Array Value := #[.string x.1, .slice x.2.a x.2.n x.2.c]

theorem less_totalK (a b : List UInt8) (h : Op.bytesLess a b = false) (hne : a ≠ b) : Op.bytesLess b a = true := by
  induction a generalizing b with
  | nil => cases b <;> simp [Op.bytesLess] at h hne ⊢
  | cons x l ih =>
    cases b with
    | nil => simp [Op.bytesLess]
    | cons y m =>
      simp only [Op.bytesLess, Bool.or_eq_false_iff, decide_eq_false_iff_not, Bool.and_eq_false_imp, beq_iff_eq] at h
      obtain ⟨h1, h2⟩ := h
      by_cases hxy : x = y
      · subst hxy
        simp [Op.bytesLess, ih m (h2 rfl) (fun e => hne (by rw [e]))]
      · have : y < x := by
          rw [UInt8.lt_iff_toNat_lt] at h1 ⊢
          have : x.toNat ≠ y.toNat := fun e => hxy (UInt8.toNat_inj.1 e)
          omega
        simp [Op.bytesLess, this]

theorem less_transK (a b c : List UInt8) (h : Op.bytesLess a b = true) (k : Op.bytesLess b c = true) : Op.bytesLess a c = true := by
  induction a generalizing b c with
  | nil =>
    cases c with
    | nil => cases b <;> simp [Op.bytesLess] at k
    | cons z n => simp [Op.bytesLess]
  | cons x l ih =>
    cases b with
    | nil => simp [Op.bytesLess] at h
    | cons y m =>
      cases c with
      | nil => simp [Op.bytesLess] at k
      | cons z n =>
        simp only [Op.bytesLess, Bool.or_eq_true, decide_eq_true_eq, Bool.and_eq_true, beq_iff_eq] at h k ⊢
        rcases h with h | ⟨rfl, h⟩ <;> rcases k with k | ⟨rfl, k⟩
        · left; rw [UInt8.lt_iff_toNat_lt] at *; omega
        · left; exact h
        · left; exact k
        · right; exact ⟨rfl, ih _ _ h k⟩

theorem less_asymmK (a b : List UInt8) (h : Op.bytesLess a b = true) : Op.bytesLess b a = false := by
  rw [Bool.eq_false_iff]
  intro h2
  have := less_transK _ _ _ h h2
  rw [less_irreflK] at this; cases this

def AscK (l : List It) : Prop := (l.map (·.key)).Pairwise fun a b => Op.bytesLess a.toList b.toList = true

theorem at_at {key : ByteArray} : ∀ {l : List It} (h : atI key l < l.length), geK (l[atI key l]).key key = true
  | [], h => absurd h (by simp)
  | x :: r, h => by
    by_cases hx : geK x.key key = true
    · have : atI key (x :: r) = 0 := by rw [atI, if_pos hx]
      simp only [this, List.getElem_cons_zero]; exact hx
    · have e : atI key (x :: r) = atI key r + 1 := by rw [atI, if_neg hx]
      have h2 : atI key r < r.length := by rw [e, List.length_cons] at h; omega
      simp only [e, List.getElem_cons_succ]
      exact at_at h2

theorem before_less {l : List It} {key : ByteArray} {x : It} (hx : x ∈ l.take (atI key l)) : Op.bytesLess x.key.toList key.toList = true := by
  obtain ⟨i, hi, rfl⟩ := List.mem_iff_getElem.1 hx
  rw [List.length_take] at hi
  have := at_before (key := key) (l := l) (k := i) (by omega) (by omega)
  rw [List.getElem_take]
  unfold geK at this
  simpa using this

theorem behind_less {l : List It} {key : ByteArray} (ha : AscK l) (hh : hereI l key = false) {x : It} (hx : x ∈ l.drop (atI key l)) : Op.bytesLess key.toList x.key.toList = true := by
  have hlt : atI key l < l.length := by
    rcases Nat.lt_or_ge (atI key l) l.length with h | h
    · exact h
    · rw [List.drop_eq_nil_of_le h] at hx; cases hx
  have h1 := at_at hlt
  have h0 : Op.bytesLess key.toList (l[atI key l]).key.toList = true := by
    refine less_totalK _ _ (by unfold geK at h1; simpa using h1) fun e => ?_
    rw [here_at rfl hlt, beq_eq_false_iff_ne] at hh
    exact hh e
  rw [List.drop_eq_getElem_cons hlt, List.mem_cons] at hx
  rcases hx with rfl | hx
  · exact h0
  · refine less_transK _ _ _ h0 ?_
    have := ha
    unfold AscK at this
    rw [← List.take_append_drop (atI key l) l, List.map_append, List.pairwise_append] at this
    have h2 := this.2.1
    rw [List.drop_eq_getElem_cons hlt, List.map_cons, List.pairwise_cons] at h2
    exact h2.1 _ (List.mem_map_of_mem hx)

theorem asc_put {l : List It} (ha : AscK l) (key : ByteArray) (lv : Int) (v : Sl) : AscK (putI l key lv v).1 := by
  unfold putI
  cases hh : hereI l key
  · rw [if_neg (by decide)]
    have := ha
    unfold AscK at this ⊢
    rw [← List.take_append_drop (atI key l) l, List.map_append, List.pairwise_append] at this
    obtain ⟨h1, h2, h3⟩ := this
    simp only [List.map_append, List.map_cons, List.append_assoc, List.cons_append, List.nil_append]
    rw [List.pairwise_append, List.pairwise_cons]
    refine ⟨h1, ⟨fun b hb => ?_, h2⟩, fun a ha2 b hb => ?_⟩
    · obtain ⟨x, hx, rfl⟩ := List.mem_map.1 hb
      exact behind_less ha hh hx
    · rcases List.mem_cons.1 hb with rfl | hb
      · obtain ⟨x, hx, rfl⟩ := List.mem_map.1 ha2
        exact before_less hx
      · exact h3 a ha2 b hb
  · rw [if_pos rfl]
    obtain ⟨hlt, hk⟩ := here_lt hh
    unfold AscK at ha ⊢
    have : (l.take (atI key l) ++ [(⟨key, levI l (atI key l), v⟩ : It)] ++ l.drop (atI key l + 1)).map (fun x : It => x.key) = l.map (fun x : It => x.key) := by
      have e := congrArg (List.map fun x : It => x.key) (List.take_append_drop (atI key l) l)
      rw [List.drop_eq_getElem_cons hlt, List.map_append, List.map_cons] at e
      simp only [hk] at e
      rw [← e]
      simp only [List.map_append, List.map_cons, List.append_assoc, List.cons_append, List.nil_append]
    rw [this]
    exact ha

theorem asc_drop {l : List It} (ha : AscK l) (key : ByteArray) : AscK (dropI l key).1 := by
  unfold dropI
  split
  · unfold AscK at ha ⊢
    refine ha.sublist (List.Sublist.map _ ?_)
    conv => rhs; rw [← List.take_append_drop (atI key l) l]
    exact List.Sublist.append (List.Sublist.refl _) (by rw [show atI key l + 1 = atI key l + 1 from rfl, ← List.drop_drop]; exact List.drop_sublist _ _)
  · exact ha

def getI (l : List It) (key : ByteArray) : Sl := if hereI l key = true then (match l[atI key l]? with | some x => x.v | none => ⟨none, 0, 0⟩) else ⟨none, 0, 0⟩
/-- From w to w' nothing has turned but blocks of S, and what is new. -/
structure KeptF (S : Nat → Prop) (w w' : World) : Prop where
  below : Below 0 w w'
  other : ∀ i, i < w.heap.size → ¬ S i → w'.heap[i]? = w.heap[i]?
/-- What From promises: an iterator of these, whose rounds may turn cells of the types T, but no blocks Kp. -/
def FromI (T : TypeId → Bool) (Kp : World → World → Nat → Prop) (fs : List It) (w : World) (z : Ending) (w' : World) : Prop :=
  ∃ g lb, z = .returned (.func (.func g) #[] lb) ∧ (∀ args w, (callFunc g args).run Try.prog w = .ok (.enter g args) w) ∧ Below w.heap.size w w' ∧
    ∀ (Z : Prop) (n₀ : Nat), n₀ ≤ w'.heap.size → Tells10 Try.prog Z T (Kp w w') n₀ g lb encKV (fun xs => xs = kvI fs) (fun pre => pre ≠ [] ∧ ∃ r, kvI fs = pre ++ r) 1000 w'

end Go.Proofs.Ytigdkflknhdbgaa.Skp
