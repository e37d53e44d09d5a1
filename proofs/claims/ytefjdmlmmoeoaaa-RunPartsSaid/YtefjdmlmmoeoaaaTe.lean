/- Layer 8: a block's bytes: plain facts. -/
import Derived.Test.YtefjdmlmmoeoaaaTa
import Derived.Test.YtefjdmlmmoeoaaaRR
namespace Go.Proofs.Ytefjdmlmmoeoaaa
open Go.RowKit
set_option linter.unusedVariables false

/-- How many bytes two texts have in common, from the first on. -/
def comN : List UInt8 → List UInt8 → Nat
  | a :: x, b :: y => if a = b then comN x y + 1 else 0
  | _, _ => 0
theorem comN_le : ∀ a b : List UInt8, comN a b ≤ a.length ∧ comN a b ≤ b.length
  | [], b => by simp [comN]
  | a :: x, [] => by simp [comN]
  | a :: x, b :: y => by
    have := comN_le x y
    unfold comN
    split
    · simp only [List.length_cons]; omega
    · omega
theorem comN_lt : ∀ (a b : List UInt8) (n : Nat), n < comN a b → a[n]? = b[n]?
  | [], b, n, h => by simp [comN] at h
  | a :: x, [], n, h => by simp [comN] at h
  | a :: x, b :: y, n, h => by
    unfold comN at h
    split at h
    · rename_i e
      cases n with
      | zero => simp [e]
      | succ n => simpa using comN_lt x y n (by omega)
    · omega
theorem comN_end : ∀ a b : List UInt8, comN a b < a.length → comN a b < b.length → a[comN a b]? ≠ b[comN a b]?
  | [], b, h, _ => by simp at h
  | a :: x, [], _, h => by simp at h
  | a :: x, b :: y, h1, h2 => by
    by_cases e : a = b
    · have hc : comN (a :: x) (b :: y) = comN x y + 1 := by rw [comN, if_pos e]
      rw [hc] at h1 h2 ⊢
      simpa using comN_end x y (by simpa using h1) (by simpa using h2)
    · have hc : comN (a :: x) (b :: y) = 0 := by rw [comN, if_neg e]
      rw [hc]
      simpa using e
theorem comN_take : ∀ a b : List UInt8, a.take (comN a b) = b.take (comN a b)
  | [], b => by simp [comN]
  | a :: x, [] => by simp [comN]
  | a :: x, b :: y => by
    by_cases e : a = b
    · rw [comN, if_pos e, List.take_succ_cons, List.take_succ_cons, e, comN_take x y]
    · rw [comN, if_neg e]; rfl
def com (a b : ByteArray) : Nat := comN a.data.toList b.data.toList
theorem com_le (a b : ByteArray) : com a b ≤ a.size ∧ com a b ≤ b.size := by
  have := comN_le a.data.toList b.data.toList
  have h1 : a.data.toList.length = a.size := by simp
  have h2 : b.data.toList.length = b.size := by simp
  unfold com; omega
theorem com_lt {a b : ByteArray} {n : Nat} (h : n < com a b) (h1 : n < a.size) (h2 : n < b.size) : a[n] = b[n] := by
  have := comN_lt _ _ n h
  rw [List.getElem?_eq_getElem (by simpa using h1), List.getElem?_eq_getElem (by simpa using h2)] at this
  injection this
theorem com_end {a b : ByteArray} {n : Nat} (h : n = com a b) (h1 : n < a.size) (h2 : n < b.size) : a[n] ≠ b[n] := by
  subst h
  have l1 : a.data.toList.length = a.size := by simp
  have l2 : b.data.toList.length = b.size := by simp
  have k1 : comN a.data.toList b.data.toList < a.data.toList.length := by unfold com at h1; omega
  have k2 : comN a.data.toList b.data.toList < b.data.toList.length := by unfold com at h2; omega
  have := comN_end a.data.toList b.data.toList k1 k2
  rw [List.getElem?_eq_getElem k1, List.getElem?_eq_getElem k2] at this
  exact fun e => this (congrArg some e)

/-- The rest of a key, behind what it has in common with the one ahead. -/
def restK (key : ByteArray) (v : Ver) : ByteArray := v.key.extract (com key v.key) v.key.size
def encRest (key : ByteArray) (v : Ver) : List UInt8 := encN (com key v.key) ++ encT (restK key v) ++ encNs (numsV v) ++ encT v.val
def encGo : ByteArray → List Ver → List UInt8
  | _, [] => []
  | key, v :: l => encRest key v ++ encGo v.key l
def lastKey : ByteArray → List Ver → ByteArray
  | key, [] => key
  | _, v :: l => lastKey v.key l
def encBlk (l : List Ver) : List UInt8 := encN l.length ++ encGo ⟨#[]⟩ l
theorem encGo_snoc (v : Ver) : ∀ (l : List Ver) (key : ByteArray), encGo key (l ++ [v]) = encGo key l ++ encRest (lastKey key l) v
  | [], key => by simp [encGo, lastKey]
  | x :: l, key => by simp only [List.cons_append, encGo, lastKey, encGo_snoc v l, List.append_assoc]
theorem lastKey_snoc (v : Ver) : ∀ (l : List Ver) (key : ByteArray), lastKey key (l ++ [v]) = v.key
  | [], key => by simp [lastKey]
  | x :: l, key => by simp only [List.cons_append, lastKey, lastKey_snoc v l]
theorem lastKey_mem : ∀ (l : List Ver) (key : ByteArray), lastKey key l = key ∨ ∃ v ∈ l, lastKey key l = v.key
  | [], key => .inl rfl
  | x :: l, key => by
    right
    rcases lastKey_mem l x.key with h | ⟨v, hv, h⟩
    · exact ⟨x, by simp, h⟩
    · exact ⟨v, by simp [hv], h⟩
theorem restK_size (key : ByteArray) (v : Ver) : (restK key v).size = v.key.size - com key v.key := by
  unfold restK; rw [ByteArray.size_extract]; have := (com_le key v.key).2; omega
theorem encRest_len (key : ByteArray) {v : Ver} (h : mayV v = true) : (encRest key v).length ≤ 400 := by
  have hk := may_key h
  have hc := (com_le key v.key).2
  have h0 := encN_nine (com key v.key) (by omega)
  have h1 := encNs_len (numsV v) (fun n hn => Int.le_trans (numsV_bd h n hn).2 (by omega))
  have h2 := encT_len (restK key v) (by rw [restK_size]; omega)
  have h3 := (mayV_iff h).2.2.1
  have h4 := encT_len v.val (by omega)
  have h5 : (numsV v).length = 6 := rfl
  rw [restK_size] at h2
  unfold encRest
  rw [List.length_append, List.length_append, List.length_append]
  omega
theorem encGo_len : ∀ (l : List Ver) (key : ByteArray), (∀ v ∈ l, mayV v = true) → (encGo key l).length ≤ 400 * l.length
  | [], key, _ => by simp [encGo]
  | v :: l, key, h => by
    have h1 := encRest_len key (h v (by simp))
    have h2 := encGo_len l v.key (fun x hx => h x (by simp [hx]))
    simp only [encGo, List.length_append, List.length_cons]
    omega
/-- Bytes behind an owned row: boxes of other things stay. -/
theorem OwnB.notBox {w : World} {base : Nat} {v : Value} {l : List UInt8} (h : OwnB w base v l) {n : Nat} {cs : Array Value} {t : TypeId} (hb : Box w n cs t) (hne : t ≠ 5) : v.ownBlock ≠ some n := by
  rcases h.2 with ⟨rfl, _⟩ | ⟨g, cap, cur, rfl, hg, hc, h3⟩
  · simp [Value.ownBlock]
  · intro e2
    simp only [Value.ownBlock, Option.some.injEq] at e2
    subst e2
    rw [show w.heap[g]? = _ from hb] at hc
    injection hc with hc
    injection hc with _ ht
    exact hne ht
theorem wpl_app_box {W : World} {ops : Array Oper} {rest : List Oper} {o : Oper} {a : Act} {Q : Exit → Act → World → Prop} (hgd : o.guard = none) (s x : Operand)
    (ho : o.op = .call { callee := .builtin .append, args := #[s, x], argTypes := #[24, 24] })
    (base B : Nat) (v u : Value) (l r : List UInt8) (hs : a.eval s = v) (hx : a.eval x = u) (hown : OwnB W base v l) (hrd : RdB W B u r) (hb : base ≤ W.heap.size) (hlen : l.length + r.length ≤ 1099511627776)
    (h : ∀ v' w', OwnB w' base v' (l ++ r) → Below base W w' → (∀ (n : Nat) (cs : Array Value) (t : TypeId), t ≠ 5 → Box W n cs t → Box w' n cs t) → wpList Try.prog ops Q rest (a.put o.dst v') w') :
    wpList Try.prog ops Q (o :: rest) a W := by
  refine wpl_app_bytes hgd s x ho base B v u l r hs hx hown hrd hb hlen ?_
  intro v' w' ho' hg hs'
  exact h v' w' ho' (hg.below hb hown.base) (fun n cs t ht hB => hB.keep hg.grown (fun e => OwnB.notBox hown hB ht e.symm))
end Go.Proofs.Ytefjdmlmmoeoaaa
