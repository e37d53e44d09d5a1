/- Layer 12: what the project's list must answer, as hypotheses (Sk w B p l: p is a list with these keys, all of it from block B on; P: what its memory is made of); deeds; few. -/
import Derived.Test.YtlihiojdjcmggaaSc
import Derived.Test.YtlihiojdjcmggaaBtu
namespace Go.Proofs.Ytlihiojdjcmggaa
open Go.RowKit
set_option linter.unusedVariables false

theorem less_irreflK (a : List UInt8) : Op.bytesLess a a = false := by
  induction a with
  | nil => rfl
  | cons x r ih => simp [Op.bytesLess, ih]
theorem at_before {key : ByteArray} : ∀ {l : List It} {k : Nat} (hk : k < l.length), k < atI key l → geK l[k].key key = false
  | [], k, hk, _ => absurd hk (by simp)
  | x :: r, k, hk, h => by
    rw [atI] at h
    split at h
    · omega
    · rename_i hx
      cases k with
      | zero => simpa using hx
      | succ k => exact at_before (l := r) (by simpa using hk) (by omega)
/-- The last key up to one is it only where it is there. -/
theorem floor_is (l : List It) (key : ByteArray) : ((floorI l key).2 && ((floorI l key).1.toList == key.toList)) = hereI l key := by
  cases h : hereI l key
  · rw [floorI, h, if_neg (by decide)]
    rcases hg : (l.take (atI key l)).getLast? with _ | x
    · rfl
    · have hp : 0 < atI key l := by
        rcases Nat.eq_zero_or_pos (atI key l) with h0 | h0
        · rw [h0] at hg; cases hg
        · exact h0
      have hle := at_le key l
      rw [List.getLast?_eq_getElem?, List.length_take, Nat.min_eq_left hle, List.getElem?_take, if_pos (by omega), List.getElem?_eq_getElem (by omega)] at hg
      injection hg with hg
      have hb := at_before (key := key) (l := l) (k := atI key l - 1) (by omega) (by omega)
      rw [hg] at hb
      simp only [Bool.true_and]
      rw [beq_eq_false_iff_ne]
      intro e
      unfold geK at hb
      rw [e, less_irreflK] at hb
      cases hb
  · rw [floorI, h, if_pos rfl]
    simp
def getI (l : List It) (key : ByteArray) : Int := if hereI l key = true then (match l[atI key l]? with | some x => x.v | none => 0) else 0
def inK (n : Int) : Prop := -9223372036854775808 ≤ n ∧ n ≤ 9223372036854775807

/-- Cells that the rounds of a range may turn. -/
def TI (t : TypeId) : Bool := t == 3 || t == 4
def kvI (l : List It) : List (ByteArray × Int) := l.map fun x => (x.key, x.v)
def encKV (x : ByteArray × Int) : Array Value := #[.string x.1, .int .i64 x.2]
/-- Blocks that no round may turn: the list's own, and those that From made. -/
def KpF (P : Obj → Bool) (B : Nat) (w w' : World) (k : Nat) : Prop := (B ≤ k ∧ ∃ o, w.heap[k]? = some o ∧ P o = true) ∨ (w.heap.size ≤ k ∧ k < w'.heap.size)
/-- What From promises: an iterator of these. -/
def FromI (Kp : World → World → Nat → Prop) (fs : List It) (w : World) (z : Ending) (w' : World) : Prop :=
  ∃ g lb, z = .returned (.func (.func g) #[] lb) ∧ (∀ args w, (callFunc g args).run Try.prog w = .ok (.enter g args) w) ∧ Below w.heap.size w w' ∧
    ∀ (Z : Prop) (n₀ : Nat), n₀ ≤ w'.heap.size → Tells10 Try.prog Z TI (Kp w w') n₀ g lb encKV (fun xs => xs = kvI fs) (fun pre => pre ≠ [] ∧ ∃ r, kvI fs = pre ++ r) 1000 w'

/-- What a list answers (n: at most so many keys have been put in, dropped ones among them). -/
structure SkOps (Sk : Nat → World → Nat → Value → List It → Prop) (P : Obj → Bool) : Prop where
  item : ∀ cs, P (.cells cs 46 (0, 0)) = false
  deed : ∀ cs, P (.cells cs 30 (0, 0)) = false
  num : ∀ cs, P (.cells cs 3 (0, 0)) = false
  bol : ∀ cs, P (.cells cs 4 (0, 0)) = false
  cellsO : ∀ o, P o = true → o.isCells = true
  stay : ∀ {n : Nat} {w w' : World} {B : Nat} {p : Value} {l : List It}, Sk n w B p l → (∀ k o, B ≤ k → w.heap[k]? = some o → P o = true → w'.heap[k]? = some o) → Sk n w' B p l
  more : ∀ {n m : Nat} {w : World} {B : Nat} {p : Value} {l : List It}, Sk n w B p l → n ≤ m → Sk m w B p l
  ptr : ∀ {n : Nat} {w : World} {B : Nat} {p : Value} {l : List It}, Sk n w B p l → ∃ g, p = .pointer (some ⟨g, 0, none⟩)
  put : ∀ {n : Nat} (w : World) (B : Nat) (p : Value) (l : List It) (key : ByteArray) (lv v : Int), Sk n w B p l → B ≤ w.heap.size → n ≤ 100000 → l.length ≤ 1000 → key.size ≤ 1000 → inK lv → inK v →
    Calls Try.prog 22 #[p, .string key, .int .i64 lv, .int .i64 v] w fun z w' => z = .returned (.bool (putI l key lv v).2) ∧ Sk (n + 1) w' B p (putI l key lv v).1 ∧ Keeps B P w w'
  drop : ∀ {n : Nat} (w : World) (B : Nat) (p : Value) (l : List It) (key : ByteArray), Sk n w B p l → B ≤ w.heap.size → l.length ≤ 1000 → key.size ≤ 1000 →
    Calls Try.prog 24 #[p, .string key] w fun z w' => z = .returned (.bool (dropI l key).2) ∧ Sk n w' B p (dropI l key).1 ∧ Keeps B P w w'
  get : ∀ {n : Nat} (w : World) (B : Nat) (p : Value) (l : List It) (key : ByteArray), Sk n w B p l → B ≤ w.heap.size → l.length ≤ 1000 → key.size ≤ 1000 →
    Calls Try.prog 20 #[p, .string key] w fun z w' => z = .returned (.tuple #[.int .i64 (getI l key), .bool (hereI l key)]) ∧ Below w.heap.size w w'
  len : ∀ {n : Nat} (w : World) (B : Nat) (p : Value) (l : List It), Sk n w B p l → B ≤ w.heap.size → l.length ≤ 1000 →
    Calls Try.prog 14 #[p] w fun z w' => z = .returned (.int .i64 (l.length : Int)) ∧ Below w.heap.size w w'
  height : ∀ {n : Nat} (w : World) (B : Nat) (p : Value) (l : List It), Sk n w B p l → B ≤ w.heap.size → l.length ≤ 1000 →
    Calls Try.prog 17 #[p] w fun z w' => z = .returned (.int .i64 (heightI l)) ∧ Below w.heap.size w w'
  row : ∀ {n : Nat} (w : World) (B : Nat) (p : Value) (l : List It) (lv : Int), Sk n w B p l → B ≤ w.heap.size → l.length ≤ 1000 → inK lv →
    Calls Try.prog 13 #[p, .int .i64 lv] w fun z w' => ∃ v', z = .returned v' ∧ OwnX strL 9 w' w.heap.size v' (rowI l lv) ∧ Below w.heap.size w w'
  floor : ∀ {n : Nat} (w : World) (B : Nat) (p : Value) (l : List It) (key : ByteArray), Sk n w B p l → B ≤ w.heap.size → l.length ≤ 1000 → key.size ≤ 1000 →
    Calls Try.prog 15 #[p, .string key] w fun z w' => z = .returned (.tuple #[.string (floorI l key).1, .bool (floorI l key).2]) ∧ Below w.heap.size w w'
  from' : ∀ {n : Nat} (w : World) (B : Nat) (p : Value) (l : List It) (key : ByteArray), Sk n w B p l → B ≤ w.heap.size → l.length ≤ 1000 → key.size ≤ 1000 →
    Calls Try.prog 19 #[p, .string key] w (FromI (KpF P B) (fromI l key) w)
theorem SkOps.on {Sk : Nat → World → Nat → Value → List It → Prop} {P : Obj → Bool} (K : SkOps Sk P) {n : Nat} {w w' : World} {B : Nat} {p : Value} {l : List It} (h : Sk n w B p l) (hb : Below w.heap.size w w') : Sk n w' B p l :=
  K.stay h fun k o _ hk _ => (hb.block k (Array.getElem?_eq_some_iff.1 hk).1).trans hk
/-- And New. -/
structure SkK (Sk : Nat → World → Nat → Value → List It → Prop) (P : Obj → Bool) : Prop where
  ops : SkOps Sk P
  new : ∀ w, Calls Try.prog 8 #[] w fun z w' => ∃ p, z = .returned p ∧ Sk 0 w' w.heap.size p [] ∧ Below w.heap.size w w'

theorem keepsOf {B : Nat} {P : Obj → Bool} {w w' : World} (h : Below w.heap.size w w') (hB : B ≤ w.heap.size) : Keeps B P w w' := ⟨h.mono hB, fun i o hi _ => (h.block i (Array.getElem?_eq_some_iff.1 hi).1).trans hi⟩
/-- From w to w' nothing has turned but blocks of S, and what is new. -/
structure KeptF (S : Nat → Prop) (w w' : World) : Prop where
  below : Below 0 w w'
  other : ∀ i, i < w.heap.size → ¬ S i → w'.heap[i]? = w.heap[i]?
/-- The same, by the list's own blocks S: what the project owes. -/
structure SkF (Sk : Nat → World → (Nat → Prop) → Value → List It → Prop) (P : Obj → Bool) : Prop where
  item : ∀ cs, P (.cells cs 46 (0, 0)) = false
  deed : ∀ cs, P (.cells cs 30 (0, 0)) = false
  num : ∀ cs, P (.cells cs 3 (0, 0)) = false
  bol : ∀ cs, P (.cells cs 4 (0, 0)) = false
  cellsO : ∀ o, P o = true → o.isCells = true
  typed : ∀ {n : Nat} {w : World} {S : Nat → Prop} {p : Value} {l : List It}, Sk n w S p l → ∀ i, S i → ∃ o, w.heap[i]? = some o ∧ P o = true
  stay : ∀ {n : Nat} {w w' : World} {S : Nat → Prop} {p : Value} {l : List It}, Sk n w S p l → (∀ i, S i → w'.heap[i]? = w.heap[i]?) → Sk n w' S p l
  more : ∀ {n m : Nat} {w : World} {S : Nat → Prop} {p : Value} {l : List It}, Sk n w S p l → n ≤ m → Sk m w S p l
  ptr : ∀ {n : Nat} {w : World} {S : Nat → Prop} {p : Value} {l : List It}, Sk n w S p l → ∃ g, p = .pointer (some ⟨g, 0, none⟩)
  new : ∀ w, Calls Try.prog 8 #[] w fun z w' => ∃ p S, z = .returned p ∧ Sk 0 w' S p [] ∧ (∀ i, S i → w.heap.size ≤ i) ∧ Below w.heap.size w w'
  put : ∀ {n : Nat} (w : World) (S : Nat → Prop) (p : Value) (l : List It) (key : ByteArray) (lv v : Int), Sk n w S p l → n ≤ 100000 → l.length ≤ 1000 → key.size ≤ 1000 → inK lv → inK v →
    Calls Try.prog 22 #[p, .string key, .int .i64 lv, .int .i64 v] w fun z w' => z = .returned (.bool (putI l key lv v).2) ∧ ∃ S', Sk (n + 1) w' S' p (putI l key lv v).1 ∧ (∀ i, S' i → S i ∨ w.heap.size ≤ i) ∧ KeptF S w w'
  drop : ∀ {n : Nat} (w : World) (S : Nat → Prop) (p : Value) (l : List It) (key : ByteArray), Sk n w S p l → l.length ≤ 1000 → key.size ≤ 1000 →
    Calls Try.prog 24 #[p, .string key] w fun z w' => z = .returned (.bool (dropI l key).2) ∧ ∃ S', Sk n w' S' p (dropI l key).1 ∧ (∀ i, S' i → S i ∨ w.heap.size ≤ i) ∧ KeptF S w w'
  get : ∀ {n : Nat} (w : World) (S : Nat → Prop) (p : Value) (l : List It) (key : ByteArray), Sk n w S p l → l.length ≤ 1000 → key.size ≤ 1000 →
    Calls Try.prog 20 #[p, .string key] w fun z w' => z = .returned (.tuple #[.int .i64 (getI l key), .bool (hereI l key)]) ∧ Below w.heap.size w w'
  len : ∀ {n : Nat} (w : World) (S : Nat → Prop) (p : Value) (l : List It), Sk n w S p l → l.length ≤ 1000 →
    Calls Try.prog 14 #[p] w fun z w' => z = .returned (.int .i64 (l.length : Int)) ∧ Below w.heap.size w w'
  height : ∀ {n : Nat} (w : World) (S : Nat → Prop) (p : Value) (l : List It), Sk n w S p l → l.length ≤ 1000 →
    Calls Try.prog 17 #[p] w fun z w' => z = .returned (.int .i64 (heightI l)) ∧ Below w.heap.size w w'
  row : ∀ {n : Nat} (w : World) (S : Nat → Prop) (p : Value) (l : List It) (lv : Int), Sk n w S p l → l.length ≤ 1000 → inK lv →
    Calls Try.prog 13 #[p, .int .i64 lv] w fun z w' => ∃ v', z = .returned v' ∧ OwnX strL 9 w' w.heap.size v' (rowI l lv) ∧ Below w.heap.size w w'
  floor : ∀ {n : Nat} (w : World) (S : Nat → Prop) (p : Value) (l : List It) (key : ByteArray), Sk n w S p l → l.length ≤ 1000 → key.size ≤ 1000 →
    Calls Try.prog 15 #[p, .string key] w fun z w' => z = .returned (.tuple #[.string (floorI l key).1, .bool (floorI l key).2]) ∧ Below w.heap.size w w'
  from' : ∀ {n : Nat} (w : World) (S : Nat → Prop) (p : Value) (l : List It) (key : ByteArray), Sk n w S p l → l.length ≤ 1000 → key.size ≤ 1000 →
    Calls Try.prog 19 #[p, .string key] w (FromI (fun w w' k => S k ∨ (w.heap.size ≤ k ∧ k < w'.heap.size)) (fromI l key) w)

theorem tells_more {Z : Prop} {T : TypeId → Bool} {Kp Kq : Nat → Prop} {n₀ : Nat} {g : Nat} {lb : Array Value} {α : Type} {encs : α → Array Value} {S Sp : List α → Prop} {N : Nat} {w : World} (h : Tells10 Try.prog Z T Kp n₀ g lb encs S Sp N w) (hK : ∀ k, Kp k → Kq k) : Tells10 Try.prog Z T Kq n₀ g lb encs S Sp N w := by
  intro l J Jx W hW hJ hJx hy h0
  refine h l J Jx W hW hJ hJx (fun pre x W1 hj hp hs => ?_) h0
  obtain ⟨fn, tmps, assign, body, h1, h2⟩ := hy pre x W1 hj hp hs
  refine ⟨fn, tmps, assign, body, h1, RoundIn.mono h2 ?_⟩
  rintro e w' ⟨he, hk⟩
  exact ⟨he, hk.below, hk.cells, fun k hk2 => hk.kept k (hK k hk2), hk.others⟩
section
variable {Sk : Nat → World → (Nat → Prop) → Value → List It → Prop} {P : Obj → Bool}
/-- One list, from block B on, beside what F tells of others' blocks. -/
def SkB (Sk : Nat → World → (Nat → Prop) → Value → List It → Prop) (F : Nat → (Nat → Prop) → World → Prop) (n : Nat) (w : World) (B : Nat) (p : Value) (l : List It) : Prop := ∃ S, Sk n w S p l ∧ (∀ i, S i → B ≤ i) ∧ F B S w
theorem SkF.keeps (K : SkF Sk P) {w w' : World} {S : Nat → Prop} {p : Value} {l : List It} {B n : Nat} (h : Sk n w S p l) (hS : ∀ i, S i → B ≤ i) (hB : B ≤ w.heap.size) (hk : KeptF S w w') : Keeps B P w w' := by
  refine ⟨⟨hk.below.os, hk.below.tape, hk.below.output, hk.below.size, fun i hi => hk.other i (by omega) fun e => by have := hS i e; omega⟩, fun i o hi hp => (hk.other i (Array.getElem?_eq_some_iff.1 hi).1 fun e => ?_).trans hi⟩
  obtain ⟨o2, h2, h3⟩ := K.typed h i e
  rw [hi] at h2
  cases h2
  rw [hp] at h3
  cases h3
/-- F abides what the list's operations do. -/
structure FrF (P : Obj → Bool) (F : Nat → (Nat → Prop) → World → Prop) : Prop where
  stay : ∀ {w w' : World} {B : Nat} {S : Nat → Prop}, F B S w → (∀ k o, B ≤ k → w.heap[k]? = some o → P o = true → w'.heap[k]? = some o) → F B S w'
  turn : ∀ {w w' : World} {B : Nat} {S S' : Nat → Prop}, F B S w → (∀ i, S' i → S i ∨ w.heap.size ≤ i) → KeptF S w w' → F B S' w'
theorem SkF.opsF (K : SkF Sk P) {F : Nat → (Nat → Prop) → World → Prop} (hF : FrF P F) : SkOps (SkB Sk F) P where
  item := K.item
  deed := K.deed
  num := K.num
  bol := K.bol
  cellsO := K.cellsO
  stay := fun ⟨S, h1, h2, h3⟩ hk => ⟨S, K.stay h1 fun i hi => by
    obtain ⟨o, ho, hp⟩ := K.typed h1 i hi
    rw [ho]
    exact hk i o (h2 i hi) ho hp, h2, hF.stay h3 hk⟩
  more := fun ⟨S, h1, h2, h3⟩ hm => ⟨S, K.more h1 hm, h2, h3⟩
  ptr := fun ⟨S, h1, _⟩ => K.ptr h1
  put := fun w B p l key lv v ⟨S, h1, h2, h3⟩ hB hn hl hk hlv hv => (K.put w S p l key lv v h1 hn hl hk hlv hv).mono fun z w' ⟨hz, S', h4, h5, h6⟩ =>
    ⟨hz, ⟨S', h4, fun i hi => (h5 i hi).elim (h2 i) (Nat.le_trans hB), hF.turn h3 h5 h6⟩, K.keeps h1 h2 hB h6⟩
  drop := fun w B p l key ⟨S, h1, h2, h3⟩ hB hl hk => (K.drop w S p l key h1 hl hk).mono fun z w' ⟨hz, S', h4, h5, h6⟩ =>
    ⟨hz, ⟨S', h4, fun i hi => (h5 i hi).elim (h2 i) (Nat.le_trans hB), hF.turn h3 h5 h6⟩, K.keeps h1 h2 hB h6⟩
  get := fun w B p l key ⟨S, h1, _⟩ _ hl hk => K.get w S p l key h1 hl hk
  len := fun w B p l ⟨S, h1, _⟩ _ hl => K.len w S p l h1 hl
  height := fun w B p l ⟨S, h1, _⟩ _ hl => K.height w S p l h1 hl
  row := fun w B p l lv ⟨S, h1, _⟩ _ hl hv => K.row w S p l lv h1 hl hv
  floor := fun w B p l key ⟨S, h1, _⟩ _ hl hk => K.floor w S p l key h1 hl hk
  from' := fun w B p l key ⟨S, h1, h2, _⟩ _ hl hk => (K.from' w S p l key h1 hl hk).mono fun z w' ⟨g, lb, e1, e2, e3, e4⟩ =>
    ⟨g, lb, e1, e2, e3, fun Z n₀ hn => tells_more (e4 Z n₀ hn) fun k hk2 => by
      rcases hk2 with h | h
      · exact .inl ⟨h2 k h, K.typed h1 k h⟩
      · exact .inr h⟩
theorem SkF.one (K : SkF Sk P) : SkK (SkB Sk fun _ _ _ => True) P where
  ops := K.opsF ⟨fun _ _ => trivial, fun _ _ _ => trivial⟩
  new := fun w => (K.new w).mono fun z w' ⟨p, S, e, h1, h2, h3⟩ => ⟨p, e, ⟨S, h1, h2, trivial⟩, h3⟩
/-- Beside another list, with blocks of its own. -/
def Beside (Sk : Nat → World → (Nat → Prop) → Value → List It → Prop) (m : Nat) (p2 : Value) (l2 : List It) (B : Nat) (S : Nat → Prop) (w : World) : Prop := ∃ S2, Sk m w S2 p2 l2 ∧ (∀ i, S2 i → B ≤ i) ∧ ∀ i, S i → ¬ S2 i
theorem SkF.beside (K : SkF Sk P) {m : Nat} (p2 : Value) (l2 : List It) : FrF P (Beside Sk m p2 l2) where
  stay := fun ⟨S2, h1, h2, h3⟩ hk => ⟨S2, K.stay h1 fun i hi => by
    obtain ⟨o, ho, hp⟩ := K.typed h1 i hi
    rw [ho]
    exact hk i o (h2 i hi) ho hp, h2, h3⟩
  turn := fun ⟨S2, h1, h2, h3⟩ hS hk => by
    have hlt : ∀ i, S2 i → i < _ := fun i hi => by
      obtain ⟨o, ho, -⟩ := K.typed h1 i hi
      exact (Array.getElem?_eq_some_iff.1 ho).1
    refine ⟨S2, K.stay h1 fun i hi => hk.other i (hlt i hi) fun e => h3 i e hi, h2, fun i hi h => ?_⟩
    rcases hS i hi with h4 | h4
    · exact h3 i h4 h
    · exact absurd (hlt i h) (by omega)
/-- The other way round. -/
theorem SkB.turn {n m : Nat} {w : World} {B : Nat} {p p2 : Value} {l l2 : List It} (h : SkB Sk (Beside Sk m p2 l2) n w B p l) : SkB Sk (Beside Sk n p l) m w B p2 l2 := by
  obtain ⟨S, h1, h2, S2, h3, h4, h5⟩ := h
  exact ⟨S2, h3, h4, S, h1, h2, fun i hi h => h5 i h hi⟩
end
def fewK (s : ByteArray) : ByteArray := if 8 < s.size then s.extract 0 8 else s
set_option maxHeartbeats 400000 in
theorem law_fewK (s : ByteArray) (w : World) : Calls Try.prog 9 #[.string s] w fun e w' => e = .returned (.string (fewK s)) ∧ w = w' := by
  unfold fewK
  by_cases h : 8 < s.size
  · rw [if_pos h]
    go_enter Try.func9, Try.ntmps9
    go_wp2
    go_ret
    exact ⟨rfl, rfl⟩
  · rw [if_neg h]
    go_enter Try.func9, Try.ntmps9
    go_wp2
    go_ret
    exact ⟨rfl, rfl⟩
theorem fewK_size (s : ByteArray) : (fewK s).size ≤ 8 := by
  unfold fewK; split
  · rw [ByteArray.size_extract]; omega
  · omega
structure DeedK where
  kind : Int
  level : Int
  v : Int
  key : ByteArray
def deedKL : Lay DeedK := ⟨4, fun d => [.int .i64 d.kind, .int .i64 d.level, .int .i64 d.v, .string d.key], fun _ => rfl, fun x u hu => by simp at hu; rcases hu with rfl | rfl | rfl | rfl <;> rfl, by omega⟩
theorem RdX.deed {w : World} {B n c : Nat} {A : Option Addr} {l : List DeedK} (h : RdX deedKL w B (.slice A n c) l) (k : Nat) (hk : k < l.length) {a b d : Int} {s : ByteArray} (e : l[k] = ⟨a, b, d, s⟩) : ∃ g o, A = some ⟨g, o, none⟩ ∧ g < B ∧
    w.cell? ⟨g, o + k * 4, none⟩ = some (.int .i64 a) ∧ w.cell? ⟨g, o + k * 4 + 1, none⟩ = some (.int .i64 b) ∧ w.cell? ⟨g, o + k * 4 + 2, none⟩ = some (.int .i64 d) ∧ w.cell? ⟨g, o + k * 4 + 3, none⟩ = some (.string s) := by
  obtain ⟨g, o, rfl, hb, hc⟩ := h.at k hk
  rw [e] at hc
  exact ⟨g, o, rfl, hb, hc 0 _ rfl, hc 1 _ rfl, hc 2 _ rfl, hc 3 _ rfl⟩
structure OkDeedK (d : DeedK) : Prop where
  kind : inK d.kind
  level : inK d.level
  v : inK d.v
  key : d.key.size ≤ 9223372036854775807
def doI (l : List It) (d : DeedK) : List It := if d.kind = 0 then (putI l (fewK d.key) d.level d.v).1 else if d.kind = 1 then (dropI l (fewK d.key)).1 else l
theorem do_len (l : List It) (d : DeedK) : (doI l d).length ≤ l.length + 1 := by
  unfold doI
  split
  · exact put_len _ _ _ _
  · split
    · exact Nat.le_succ_of_le (drop_lenI _ _)
    · omega
end Go.Proofs.Ytlihiojdjcmggaa
