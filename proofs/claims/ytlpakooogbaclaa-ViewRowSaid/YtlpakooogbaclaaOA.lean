/- Plain facts on lists of bytes: their order. -/
import Derived.Test.YtlpakooogbaclaaRows
import Derived.Test.YtlpakooogbaclaaBA
import Derived.WalkKit
import Derived.ProofKit
import Derived.Lib.Hide
import Derived.WalkLawsBesides
import Derived.Deep.QuietTactic
import Derived.BigQuiet
import Derived.Handy
import Derived.Laws.BitsAllLaws
import Derived.Deep.RegionWith
import Derived.Deep.DeepCutAuto
import Derived.Deep.RegionLaw
import Derived.Laws.BytesArg
namespace Go.Proofs.Ytlpakooogbaclaa.Ord
open Go.RowKit

theorem ret_int {k : IntKind} {a b : Int} (h : a = b) : Ending.returned (.int k a) = .returned (.int k b) := by rw [h]
theorem ret_bool {a b : Bool} (h : a = b) : Ending.returned (.bool a) = .returned (.bool b) := by rw [h]

theorem less_irrefl (a : List UInt8) : Op.bytesLess a a = false := by
  induction a with
  | nil => rfl
  | cons x l ih => simp [Op.bytesLess, ih]
end Go.Proofs.Ytlpakooogbaclaa.Ord
/- Contracts of the leaf functions of layer 1: cmp.Compare at int and at string, the comparing of two parts, which tables there are. -/
namespace Go.Proofs.Ytlpakooogbaclaa.Ord
open Go.RowKit
set_option linter.unusedVariables false

theorem nan_int (a : Int) (w : World) : Calls Try.prog 57 #[.int .i64 a] w fun e w' => e = .returned (.bool false) ∧ w = w' := by
  go_enter Try.func57, Try.ntmps57
  go_wp2
  go_ret
  exact ⟨rfl, rfl⟩

theorem nan_str (s : ByteArray) (w : World) : Calls Try.prog 102 #[.string s] w fun e w' => e = .returned (.bool false) ∧ w = w' := by
  go_enter Try.func102, Try.ntmps102
  go_wp2
  go_ret
  exact ⟨by simp, rfl⟩

def cmpInt (a b : Int) : Int := if a < b then -1 else if b < a then 1 else 0
def cmpStr (a b : List UInt8) : Int := if Op.bytesLess a b = true then -1 else if a = b then 0 else 1

set_option maxHeartbeats 400000 in
theorem cmp_int (a b : Int) (w : World) : Calls Try.prog 34 #[.int .i64 a, .int .i64 b] w fun e w' => e = .returned (.int .i64 (cmpInt a b)) ∧ w = w' := by
  go_enter Try.func34, Try.ntmps34
  go_wp2_with (first | (go_at_call 57; refine (nan_int _ _).mono ?_; rintro e w' ⟨rfl, rfl⟩))
  all_goals go_ret
  · exact ⟨ret_int (by unfold cmpInt; rw [if_pos (by omega)]), rfl⟩
  · exact ⟨ret_int (by unfold cmpInt; rw [if_neg (by omega), if_pos (by omega)]), rfl⟩
  · exact ⟨ret_int (by unfold cmpInt; rw [if_neg (by omega), if_neg (by omega)]), rfl⟩



/-- A part, as its value. -/
structure PartD where
  isText : Bool
  num : Int
  text : ByteArray

def PartD.v (p : PartD) : Value := .agg #[.bool p.isText, .int .i64 p.num, .string p.text]
def PartD.cells (p : PartD) : List Value := [.bool p.isText, .int .i64 p.num, .string p.text]

end Go.Proofs.Ytlpakooogbaclaa.Ord
/- Layer 1: rows of bytes that a call owns, and what append does to them. -/
namespace Go.Proofs.Ytlpakooogbaclaa.Ord
open Go.RowKit
set_option linter.unusedVariables false

/-- Bytes as values. -/
def bv (l : List UInt8) : List Value := l.map fun c => .int .u8 (c.toNat : Int)
theorem bv_append (l r : List UInt8) : bv (l ++ r) = bv l ++ bv r := by simp [bv]

/-- v is a row of bytes, from block base on, that reads as l. -/
def OwnB (w : World) (base : Nat) (v : Value) (l : List UInt8) : Prop := w.ownsRow base 5 1 v l.length (bv l)

theorem OwnB.base {w : World} {base : Nat} {v : Value} {l : List UInt8} (h : OwnB w base v l) : ∀ k, v.ownBlock = some k → base ≤ k := fun k hk => (h.lt k hk).1
theorem OwnB.nil (w : World) (base : Nat) : OwnB w base (.slice none 0 0) [] := World.ownsRow_nil w base _ 1

theorem u8_info : (Try.prog.info? 5).map (fun i => (i.zero, i.size, i.bytes)) = some (some (.int .u8 0), 1, 1) := by kernel_rfl

/-- append of a literal's bytes to an owned row. -/
theorem wpl_app {w : World} {ops : Array Oper} {rest : List Oper} {o : Oper} {a : Act} {Q : Exit → Act → World → Prop} (hgd : o.guard = none) (s x : Operand)
    (ho : o.op = .call { callee := .builtin .append, args := #[s, x], argTypes := #[127, 127] })
    (base : Nat) (v : Value) (l r : List UInt8) (cs : Array Value) (m c : Nat) (hcs : cs = (bv r).toArray) (hs : a.eval s = v) (hx : a.eval x = .slice (some ⟨w.heap.size, 0, none⟩) m c) (hm : m = r.length)
    (hown : OwnB w base v l) (hb : base ≤ w.heap.size) (hlen : l.length + r.length ≤ 1099511627776)
    (h : ∀ v' w', OwnB w' base v' (l ++ r) → Grew w w' v v' → w.heap.size ≤ w'.heap.size → wpList Try.prog ops Q rest (a.put o.dst v') w') :
    wpList Try.prog ops Q (o :: rest) a (w.alloc (.cells cs 5)) := by
  obtain ⟨i, hi, hz, hsz, hby⟩ := info_parts u8_info
  subst hcs hm
  have hcell : ∀ j u, (bv r)[j]? = some u → (w.alloc (.cells (bv r).toArray 5)).cell? ((⟨w.heap.size, 0, none⟩ : Addr).add j) = some u := by
    intro j u hu
    have hadd : (⟨w.heap.size, 0, none⟩ : Addr).add j = ⟨w.heap.size, j, none⟩ := by unfold Addr.add; split <;> simp_all
    rw [hadd, cell_of_row _ _ j _ _ (0, 0) (heap_alloc_new w _)]
    simpa using hu
  obtain ⟨v', w', hrun, h2, h3, -, h4⟩ := run_append_own_at (P := Try.prog) (w.alloc (.cells (bv r).toArray 5)) base 127 o.type 5 i (.int .u8 0) 1 1 Try.underlying127 hi hz hsz hby rfl (by omega)
    v l.length (bv l) (hown.alloc _) ⟨w.heap.size, 0, none⟩ r.length c (bv r) (by simp [bv]) hcell (by simp [bv, Value.oneCell']) (by simp only [maxLen]; omega) (by omega) (by simp; omega)
  have hg : Grew w w' v v' := by
    refine ⟨⟨h3.os, h3.tape, h3.output, Nat.le_trans (by simp) h3.size, fun k hk hne => (h3.block k (by simp; omega) hne).trans (Below.heap_alloc w _ k hk)⟩, ?_⟩
    rcases h4 with e | e
    · exact .inl e
    · exact .inr ⟨_, e, by simp⟩
  refine wpList_plain hgd fun K hK => ?_
  unfold Oper.wp execOp
  simp only [ho, resolve, invoke, builtin, Sem.run_bind, Sem.run_pure, Result.andThen_ok, List.map_toArray, List.map_cons, List.map_nil, hs, hx, hrun]
  exact hK _ _ (h v' w' (by unfold OwnB; rw [bv_append, List.length_append]; exact h2) hg hg.grown.size)

theorem own_new (w : World) (cs : Array Value) (l : List UInt8) (n : Nat) (h : cs = (bv l).toArray) (hn : n = l.length) (hl : l.length ≤ 1099511627776) :
    OwnB (w.alloc (.cells cs 5)) w.heap.size (.slice (some ⟨w.heap.size, 0, none⟩) n n) l := by
  subst h hn
  exact ⟨by simp [bv], .inr ⟨w.heap.size, l.length, _, rfl, Nat.le_refl _, heap_alloc_new w _, Nat.le_refl _, by simp only [maxLen]; omega, by simp [bv], by rw [List.take_of_length_le (by simp [bv])]⟩⟩

def encText : List UInt8 → List UInt8
  | [] => []
  | c :: l => if c = 0 then 0 :: 255 :: encText l else c :: encText l
theorem encText_append (l m : List UInt8) : encText (l ++ m) = encText l ++ encText m := by
  induction l with
  | nil => rfl
  | cons c l ih => by_cases h : c = 0 <;> simp [encText, h, ih]
theorem encText_length (l : List UInt8) : (encText l).length ≤ 2 * l.length := by
  induction l with
  | nil => simp [encText]
  | cons c l ih => by_cases h : c = 0 <;> simp [encText, h] <;> omega

theorem take_snoc (s : ByteArray) (k : Nat) (h : k < s.size) : s.data.toList.take (k + 1) = s.data.toList.take k ++ [s[k]] := by
  rw [List.take_succ_eq_append_getElem (by simpa using h)]; rfl

end Go.Proofs.Ytlpakooogbaclaa.Ord
/- Plain facts on numbers' bytes: a number and 2^63 more, as 8 bytes, the highest first. -/
namespace Go.Proofs.Ytlpakooogbaclaa.Ord
open Go.RowKit

/-- A number and 2^63 more. -/
def up (n : Int) : Nat := (n + 9223372036854775808).toNat
def numByte (n : Int) (i : Nat) : UInt8 := UInt8.ofNat (up n / 256 ^ (7 - i))
def encNum (n : Int) : List UInt8 := (List.range 8).map (numByte n)

theorem xor_pow (p a : Nat) (h : a < 2 ^ p) : a ^^^ 2 ^ p = a + 2 ^ p := by
  have e : a + 2 ^ p = 2 ^ p * 1 ||| a := by rw [← Nat.two_pow_add_eq_or_of_lt h]; omega
  rw [e, Nat.mul_one]
  apply Nat.eq_of_testBit_eq
  intro i
  have h63 : a.testBit p = false := Nat.testBit_lt_two_pow h
  rw [Nat.testBit_xor, Nat.testBit_or]
  by_cases hi : p = i
  · subst hi; simp [h63]
  · simp [hi]
theorem xor_hi (a : Nat) (h : a < 2 ^ 63) : a ^^^ 2 ^ 63 = a + 2 ^ 63 := xor_pow 63 a h
theorem xor_lo (a : Nat) (h : a < 2 ^ 63) : (a + 2 ^ 63) ^^^ 2 ^ 63 = a := by
  rw [← xor_hi a h, Nat.xor_assoc, Nat.xor_self, Nat.xor_zero]

theorem xor_up (n : Int) (h1 : -9223372036854775808 ≤ n) (h2 : n ≤ 9223372036854775807) : bits .xor .u64 (IntKind.u64.wrap n) 9223372036854775808 = (up n : Int) := by
  have hw : IntKind.u64.wrap n = ((n % 18446744073709551616).toNat : Int) := by
    rw [IntKind.wrap_u64]; omega
  have hx : ((n % 18446744073709551616).toNat) ^^^ 9223372036854775808 = up n := by
    rw [show (9223372036854775808 : Nat) = 2 ^ 63 from rfl]
    unfold up
    by_cases h : 0 ≤ n
    · rw [show (n % 18446744073709551616).toNat = n.toNat from by omega, xor_hi _ (by omega)]; omega
    · rw [show (n % 18446744073709551616).toNat = (n + 9223372036854775808).toNat + 2 ^ 63 from by omega, xor_lo _ (by omega)]
  rw [hw, show (9223372036854775808 : Int) = ((9223372036854775808 : Nat) : Int) from rfl, u64_xor_nat _ _ (by omega) (by omega), hx]
theorem numByte_int (n : Int) (k : Nat) : ((numByte n k).toNat : Int) = ((n + 9223372036854775808).toNat / 256 ^ (7 - k) % 256 : Nat) := by
  unfold numByte up
  rw [UInt8.toNat_ofNat']
theorem encNum_length (n : Int) : (encNum n).length = 8 := by simp [encNum]
theorem encNum_eq (n : Int) : encNum n = [numByte n 0, numByte n 1, numByte n 2, numByte n 3, numByte n 4, numByte n 5, numByte n 6, numByte n 7] := rfl
theorem numByte_neg (n : Int) (h : n < 0) (h1 : -9223372036854775808 ≤ n) :
    ((n + 9223372036854775807 + 1) / 256 / 256 / 256 / 256 / 256 / 256 / 256 % 256 = ((numByte n 0).toNat : Int)) ∧ ((n + 9223372036854775807 + 1) / 256 / 256 / 256 / 256 / 256 / 256 % 256 = ((numByte n 1).toNat : Int)) ∧
    ((n + 9223372036854775807 + 1) / 256 / 256 / 256 / 256 / 256 % 256 = ((numByte n 2).toNat : Int)) ∧ ((n + 9223372036854775807 + 1) / 256 / 256 / 256 / 256 % 256 = ((numByte n 3).toNat : Int)) ∧
    ((n + 9223372036854775807 + 1) / 256 / 256 / 256 % 256 = ((numByte n 4).toNat : Int)) ∧ ((n + 9223372036854775807 + 1) / 256 / 256 % 256 = ((numByte n 5).toNat : Int)) ∧
    ((n + 9223372036854775807 + 1) / 256 % 256 = ((numByte n 6).toNat : Int)) ∧ ((n + 9223372036854775807 + 1) % 256 = ((numByte n 7).toNat : Int)) := by
  simp only [numByte_int]
  simp only [Nat.reduceSub, Nat.reducePow]
  refine ⟨?_, ?_, ?_, ?_, ?_, ?_, ?_, ?_⟩ <;> omega
theorem numByte_pos (n : Int) (h : 0 ≤ n) (h1 : n ≤ 9223372036854775807) :
    (n / 256 / 256 / 256 / 256 / 256 / 256 / 256 % 256 + 128 = ((numByte n 0).toNat : Int)) ∧ (n / 256 / 256 / 256 / 256 / 256 / 256 % 256 = ((numByte n 1).toNat : Int)) ∧
    (n / 256 / 256 / 256 / 256 / 256 % 256 = ((numByte n 2).toNat : Int)) ∧ (n / 256 / 256 / 256 / 256 % 256 = ((numByte n 3).toNat : Int)) ∧
    (n / 256 / 256 / 256 % 256 = ((numByte n 4).toNat : Int)) ∧ (n / 256 / 256 % 256 = ((numByte n 5).toNat : Int)) ∧
    (n / 256 % 256 = ((numByte n 6).toNat : Int)) ∧ (n % 256 = ((numByte n 7).toNat : Int)) := by
  simp only [numByte_int]
  simp only [Nat.reduceSub, Nat.reducePow]
  refine ⟨?_, ?_, ?_, ?_, ?_, ?_, ?_, ?_⟩ <;> omega
end Go.Proofs.Ytlpakooogbaclaa.Ord
/- Layer 1: a number's bytes, put. -/
namespace Go.Proofs.Ytlpakooogbaclaa.Ord
open Go.RowKit
set_option linter.unusedVariables false

end Go.Proofs.Ytlpakooogbaclaa.Ord
/- Layer 1: a number's bytes and a text's, as the document's answer makes them. -/
namespace Go.Proofs.Ytlpakooogbaclaa.Ord
open Go.RowKit
set_option linter.unusedVariables false


theorem mk_eight (W : World) : (Instr.makeSlice 127 (.int .i64 8) (.int .i64 8)).run Try.prog W = .ok (.slice (some ⟨W.heap.size, 0, none⟩) 8 8)
    (W.alloc (.cells #[.int .u8 0, .int .u8 0, .int .u8 0, .int .u8 0, .int .u8 0, .int .u8 0, .int .u8 0, .int .u8 0] 5)) := by kernel_rfl

end Go.Proofs.Ytlpakooogbaclaa.Ord
/- Contracts of layer 1: comparing parts (the document's answer), and tuples, the program's and the document's. -/
namespace Go.Proofs.Ytlpakooogbaclaa.Ord
open Go.RowKit
set_option linter.unusedVariables false

end Go.Proofs.Ytlpakooogbaclaa.Ord
/- Contracts of layer 1: tuples in memory; comparing tuples. -/
namespace Go.Proofs.Ytlpakooogbaclaa.Ord
open Go.RowKit
set_option linter.unusedVariables false

/-- The value v is a slice that reads as the parts ps, in blocks below B. -/
def RdParts (w : World) (B : Nat) (v : Value) (ps : List PartD) : Prop :=
  ∃ A c, v = .slice A ps.length c ∧ ps.length ≤ c ∧ c ≤ 9223372036854775807 ∧ (0 < ps.length → ∃ b o, A = some ⟨b, o, none⟩ ∧ b < B ∧
    ∀ k p, ps[k]? = some p → w.cell? ⟨b, o + k * 3, none⟩ = some (.bool p.isText) ∧ w.cell? ⟨b, o + k * 3 + 1, none⟩ = some (.int .i64 p.num) ∧ w.cell? ⟨b, o + k * 3 + 2, none⟩ = some (.string p.text))

theorem RdParts.below {w w' : World} {B : Nat} {v : Value} {ps : List PartD} (h : RdParts w B v ps) (hb : Below B w w') : RdParts w' B v ps := by
  obtain ⟨A, c, rfl, h1, h2, h3⟩ := h
  refine ⟨A, c, rfl, h1, h2, fun hp => ?_⟩
  obtain ⟨b, o, rfl, hB, hc⟩ := h3 hp
  exact ⟨b, o, rfl, hB, fun k p hk => ⟨(hb.cell (p := ⟨b, _, none⟩) hB).trans (hc k p hk).1, (hb.cell (p := ⟨b, _, none⟩) hB).trans (hc k p hk).2.1, (hb.cell (p := ⟨b, _, none⟩) hB).trans (hc k p hk).2.2⟩⟩

theorem RdParts.more {w : World} {B B' : Nat} {v : Value} {ps : List PartD} (h : RdParts w B v ps) (hB : B ≤ B') : RdParts w B' v ps := by
  obtain ⟨A, c, rfl, h1, h2, h3⟩ := h
  refine ⟨A, c, rfl, h1, h2, fun hp => ?_⟩
  obtain ⟨b, o, rfl, hb, hc⟩ := h3 hp
  exact ⟨b, o, rfl, by omega, hc⟩
theorem RdParts.on {w w' : World} {v : Value} {ps : List PartD} (h : RdParts w w.heap.size v ps) (hb : Below w.heap.size w w') : RdParts w' w'.heap.size v ps := (h.below hb).more hb.size

end Go.Proofs.Ytlpakooogbaclaa.Ord
/- Layer 1: steps of a region whose order is open: an append of a literal, a call by its contract. -/
namespace Go.Proofs.Ytlpakooogbaclaa.Ord
open Go.RowKit
set_option linter.unusedVariables false

def encPart (p : PartD) : List UInt8 := if p.isText then 2 :: (encText p.text.data.toList ++ [0, 1]) else 1 :: encNum p.num
def encParts (l : List PartD) : List UInt8 := l.flatMap encPart

/-- A part that can be: its number fits; its text is not too great. -/
def PartOk (p : PartD) : Prop := -9223372036854775808 ≤ p.num ∧ p.num ≤ 9223372036854775807 ∧ p.text.size ≤ 1000000

theorem encPart_length {p : PartD} (h : PartOk p) : (encPart p).length ≤ 2000003 := by
  obtain ⟨_, _, h⟩ := h
  unfold encPart
  split
  · have := encText_length p.text.data.toList
    have : p.text.data.toList.length = p.text.size := by simp
    simp; omega
  · simp [encNum]
theorem encParts_length {l : List PartD} (h : ∀ p ∈ l, PartOk p) : (encParts l).length ≤ 2000003 * l.length := by
  induction l with
  | nil => simp [encParts]
  | cons p l ih =>
    have h1 := encPart_length (h p (by simp))
    have h2 := ih (fun q hq => h q (by simp [hq]))
    simp only [encParts, List.flatMap_cons, List.length_append, List.length_cons] at *
    omega

theorem encParts_snoc {l : List PartD} {k : Nat} (h : k < l.length) : encParts (l.take (k + 1)) = encParts (l.take k) ++ encPart l[k] := by
  unfold encParts; rw [List.take_succ_eq_append_getElem h, List.flatMap_append, List.flatMap_singleton]

end Go.Proofs.Ytlpakooogbaclaa.Ord
/- Layer 1: reading (plain): what the document's reading of bytes is. -/
namespace Go.Proofs.Ytlpakooogbaclaa.Ord
open Go.RowKit

/-- A text's bytes: the error, the text, what stands behind it. -/
def rdText : List UInt8 → Int × List UInt8 × List UInt8
  | [] => (3, [], [])
  | c :: r =>
    if c = 0 then
      match r with
      | [] => (3, [], [])
      | d :: r' => if d = 255 then (if (rdText r').1 = 0 then (0, 0 :: (rdText r').2.1, (rdText r').2.2) else rdText r') else if d = 1 then (0, [], r') else (2, [], [])
    else if (rdText r).1 = 0 then (0, c :: (rdText r).2.1, (rdText r).2.2) else rdText r

/-- Bytes in front of what is read. -/
def preText (s : List UInt8) (x : Int × List UInt8 × List UInt8) : Int × List UInt8 × List UInt8 := if x.1 = 0 then (0, s ++ x.2.1, x.2.2) else x
theorem preText_nil (x : Int × List UInt8 × List UInt8) : preText [] x = x := by
  unfold preText; split
  · rename_i h; rw [← h]; rfl
  · rfl
theorem rdText_short : rdText [] = (3, [], []) := by unfold rdText; rfl
theorem rdText_zero : rdText [0] = (3, [], []) := by unfold rdText; rfl
theorem rdText_plain {c : UInt8} (h : c ≠ 0) (s r : List UInt8) : preText s (rdText (c :: r)) = preText (s ++ [c]) (rdText r) := by
  rw [rdText.eq_def (c :: r)]
  simp only [if_neg h]
  unfold preText
  by_cases h0 : (rdText r).1 = 0
  · simp [h0]
  · simp [h0]
theorem rdText_esc (s r : List UInt8) : preText s (rdText (0 :: 255 :: r)) = preText (s ++ [0]) (rdText r) := by
  rw [rdText.eq_def (0 :: 255 :: r)]
  simp only [if_true]
  unfold preText
  by_cases h0 : (rdText r).1 = 0
  · simp [h0]
  · simp [h0]
theorem rdText_end (s r : List UInt8) : preText s (rdText (0 :: 1 :: r)) = (0, s, r) := by
  rw [rdText.eq_def]
  simp [preText]
theorem rdText_bad {d : UInt8} (h1 : d ≠ 255) (h2 : d ≠ 1) (s r : List UInt8) : preText s (rdText (0 :: d :: r)) = (2, [], []) := by
  rw [rdText.eq_def]
  simp [preText, h1, h2]
/-- What stands behind a text is a part of the bytes. -/
theorem rdText_rest : ∀ (n : Nat) (b : List UInt8), b.length ≤ n → (rdText b).1 = 0 → ∃ k, 2 ≤ k ∧ k ≤ b.length ∧ (rdText b).2.2 = b.drop k ∧ (rdText b).2.1.length + 2 ≤ k := by
  intro n
  induction n with
  | zero => intro b hb h; have : b = [] := List.eq_nil_of_length_eq_zero (by omega); subst this; rw [rdText_short] at h; simp at h
  | succ n ih =>
    intro b hb h
    cases b with
    | nil => rw [rdText_short] at h; simp at h
    | cons c r =>
      simp only [List.length_cons] at hb
      by_cases hc : c = 0
      · subst hc
        cases r with
        | nil => rw [rdText_zero] at h; simp at h
        | cons d r =>
          simp only [List.length_cons] at hb
          by_cases h1 : d = 255
          · subst h1
            have e := rdText_esc [] r
            rw [preText_nil] at e
            rw [e] at h ⊢
            unfold preText at h ⊢
            by_cases h0 : (rdText r).1 = 0
            · obtain ⟨k, a1, a2, a3, a4⟩ := ih r (by omega) h0
              simp only [if_pos h0]
              exact ⟨k + 2, by omega, by simp only [List.length_cons]; omega, by rw [a3]; simp, by simp; omega⟩
            · simp [h0] at h
          · by_cases h2 : d = 1
            · subst h2
              have e := rdText_end [] r
              rw [preText_nil] at e
              rw [e]
              exact ⟨2, by omega, by simp, by simp, by simp⟩
            · have e := rdText_bad h1 h2 [] r
              rw [preText_nil] at e
              rw [e] at h; simp at h
      · have e := rdText_plain hc [] r
        rw [preText_nil] at e
        rw [e] at h ⊢
        unfold preText at h ⊢
        by_cases h0 : (rdText r).1 = 0
        · obtain ⟨k, a1, a2, a3, a4⟩ := ih r (by omega) h0
          simp only [if_pos h0]
          exact ⟨k + 1, by omega, by simp only [List.length_cons]; omega, by rw [a3]; simp, by simp; omega⟩
        · simp [h0] at h

/-- The number of 8 bytes, the highest first. -/
def decNum (l : List UInt8) : Int := (l.foldl (fun n c => 256 * n + c.toNat) 0 : Nat) - 9223372036854775808

/-- A part's bytes: the error, the part, what stands behind it. -/
def rdPart : List UInt8 → Int × PartD × List UInt8
  | [] => (2, ⟨false, 0, ⟨#[]⟩⟩, [])
  | c :: r =>
    if c = 1 then (if r.length < 8 then (3, ⟨false, 0, ⟨#[]⟩⟩, []) else (0, ⟨false, decNum (r.take 8), ⟨#[]⟩⟩, r.drop 8))
    else if c = 2 then ((rdText r).1, ⟨true, 0, ⟨(rdText r).2.1.toArray⟩⟩, (rdText r).2.2)
    else (2, ⟨false, 0, ⟨#[]⟩⟩, [])

def rdAllN : Nat → List UInt8 → Int × List PartD
  | 0, _ => (0, [])
  | n + 1, b =>
    if b = [] then (0, [])
    else if (rdPart b).1 = 0 then (if (rdAllN n (rdPart b).2.2).1 = 0 then (0, (rdPart b).2.1 :: (rdAllN n (rdPart b).2.2).2) else ((rdAllN n (rdPart b).2.2).1, []))
    else ((rdPart b).1, [])
def rdAll (b : List UInt8) : Int × List PartD := rdAllN b.length b

theorem rdPart_rest {b : List UInt8} (h : (rdPart b).1 = 0) : ∃ k, 1 ≤ k ∧ k ≤ b.length ∧ (rdPart b).2.2 = b.drop k := by
  cases b with
  | nil => simp [rdPart] at h
  | cons c r =>
    unfold rdPart at h ⊢
    by_cases h1 : c = 1
    · simp only [if_pos h1] at h ⊢
      by_cases h8 : r.length < 8
      · rw [if_pos h8] at h; simp at h
      · rw [if_neg h8]; exact ⟨9, by omega, by simp; omega, by simp⟩
    · simp only [if_neg h1] at h ⊢
      by_cases h2 : c = 2
      · simp only [if_pos h2] at h ⊢
        obtain ⟨k, a1, a2, a3, _⟩ := rdText_rest r.length r (Nat.le_refl _) h
        exact ⟨k + 1, by omega, by simp; omega, by rw [a3]; simp⟩
      · simp only [if_neg h2] at h; simp at h
theorem rdAllN_eq : ∀ (n m : Nat) (b : List UInt8), b.length ≤ n → b.length ≤ m → rdAllN n b = rdAllN m b := by
  intro n
  induction n with
  | zero =>
    intro m b hn _
    have : b = [] := List.eq_nil_of_length_eq_zero (by omega)
    subst this
    cases m <;> simp [rdAllN]
  | succ n ih =>
    intro m b hn hm
    by_cases hb : b = []
    · subst hb; cases m <;> simp [rdAllN]
    · cases m with
      | zero => exact absurd (List.eq_nil_of_length_eq_zero (by omega)) hb
      | succ m =>
        unfold rdAllN
        rw [if_neg hb, if_neg hb]
        by_cases h0 : (rdPart b).1 = 0
        · obtain ⟨k, a1, a2, a3⟩ := rdPart_rest h0
          have hl : (rdPart b).2.2.length ≤ n ∧ (rdPart b).2.2.length ≤ m := by rw [a3, List.length_drop]; omega
          rw [ih m _ hl.1 hl.2]
        · rw [if_neg h0, if_neg h0]

/-- Parts in front of what is read. -/
def preAll (s : List PartD) (x : Int × List PartD) : Int × List PartD := if x.1 = 0 then (0, s ++ x.2) else (x.1, [])
theorem rdAll_nil (s : List PartD) : preAll s (rdAll []) = (0, s) := by simp [preAll, rdAll, rdAllN]
theorem rdAllN_err : ∀ (n : Nat) (b : List UInt8), (rdAllN n b).1 ≠ 0 → (rdAllN n b).2 = [] := by
  intro n
  induction n with
  | zero => intro b h; exact absurd rfl h
  | succ n ih =>
    intro b h
    unfold rdAllN at h ⊢
    by_cases hb : b = []
    · simp [hb]
    · rw [if_neg hb] at h ⊢
      by_cases h0 : (rdPart b).1 = 0
      · rw [if_pos h0] at h ⊢
        by_cases h1 : (rdAllN n (rdPart b).2.2).1 = 0
        · rw [if_pos h1] at h; exact absurd rfl h
        · rw [if_neg h1]
      · rw [if_neg h0]
theorem preAll_nil (b : List UInt8) : preAll [] (rdAll b) = rdAll b := by
  unfold preAll
  split
  · rename_i h; rw [List.nil_append, ← h]
  · rename_i h
    have := rdAllN_err b.length b h
    unfold rdAll; rw [← this]
theorem rdAll_step {b : List UInt8} (hb : b ≠ []) (s : List PartD) : preAll s (rdAll b) = if (rdPart b).1 = 0 then preAll (s ++ [(rdPart b).2.1]) (rdAll (rdPart b).2.2) else ((rdPart b).1, []) := by
  have hl : 0 < b.length := by cases b with | nil => exact absurd rfl hb | cons _ _ => simp
  unfold rdAll
  obtain ⟨n, hn⟩ : ∃ n, b.length = n + 1 := ⟨b.length - 1, by omega⟩
  rw [hn]
  by_cases h0 : (rdPart b).1 = 0
  · obtain ⟨k, a1, a2, a3⟩ := rdPart_rest h0
    have hle : (rdPart b).2.2.length ≤ n := by rw [a3, List.length_drop]; omega
    rw [if_pos h0, ← rdAllN_eq n _ _ hle (Nat.le_refl _)]
    conv => lhs; unfold rdAllN
    rw [if_neg hb, if_pos h0]
    unfold preAll
    by_cases h1 : (rdAllN n (rdPart b).2.2).1 = 0
    · simp [h1]
    · simp [h1]
  · rw [if_neg h0]
    conv => lhs; unfold rdAllN
    rw [if_neg hb, if_neg h0]
    simp [preAll, h0]
end Go.Proofs.Ytlpakooogbaclaa.Ord
/- Contract of layer 1: the program's order of two tuples. -/
namespace Go.Proofs.Ytlpakooogbaclaa.Ord
open Go.RowKit
set_option linter.unusedVariables false

end Go.Proofs.Ytlpakooogbaclaa.Ord
/- Layer 1: bytes that are read; bytes as a text; Key. -/
namespace Go.Proofs.Ytlpakooogbaclaa.Ord
open Go.RowKit
set_option linter.unusedVariables false

/-- The value v is a slice of bytes that reads as l, in a block below B. -/
def RdB (w : World) (B : Nat) (v : Value) (l : List UInt8) : Prop :=
  ∃ A c, v = .slice A l.length c ∧ l.length ≤ c ∧ c ≤ 9223372036854775807 ∧ (0 < l.length → ∃ b o, A = some ⟨b, o, none⟩ ∧ b < B ∧
    ∀ (k : Nat) (u : UInt8), l[k]? = some u → w.cell? ⟨b, o + k, none⟩ = some (.int .u8 (u.toNat : Int)))

theorem RdB.below {w w' : World} {B : Nat} {v : Value} {l : List UInt8} (h : RdB w B v l) (hb : Below B w w') : RdB w' B v l := by
  obtain ⟨A, c, rfl, h1, h2, h3⟩ := h
  refine ⟨A, c, rfl, h1, h2, fun hp => ?_⟩
  obtain ⟨b, o, rfl, hB, hc⟩ := h3 hp
  exact ⟨b, o, rfl, hB, fun k p hk => (hb.cell (p := ⟨b, _, none⟩) hB).trans (hc k p hk)⟩
theorem RdB.more {w : World} {B B' : Nat} {v : Value} {l : List UInt8} (h : RdB w B v l) (hB : B ≤ B') : RdB w B' v l := by
  obtain ⟨A, c, rfl, h1, h2, h3⟩ := h
  refine ⟨A, c, rfl, h1, h2, fun hp => ?_⟩
  obtain ⟨b, o, rfl, hb, hc⟩ := h3 hp
  exact ⟨b, o, rfl, by omega, hc⟩
theorem RdB.on {w w' : World} {v : Value} {l : List UInt8} (h : RdB w w.heap.size v l) (hb : Below w.heap.size w w') : RdB w' w'.heap.size v l := (h.below hb).more hb.size
theorem RdB.nil (w : World) (B : Nat) : RdB w B (.slice none 0 0) [] := ⟨none, 0, rfl, by simp, by omega, fun h => absurd h (by simp)⟩

theorem own_cap {w : World} {base : Nat} {v : Value} {l : List UInt8} (h : OwnB w base v l) : ∃ A c, v = .slice A l.length c ∧ l.length ≤ c ∧ c ≤ maxLen ∧ (0 < l.length → ∃ b o, A = some ⟨b, o, none⟩ ∧ b < w.heap.size ∧
    ∀ (k : Nat) (u : UInt8), l[k]? = some u → w.cell? ⟨b, o + k, none⟩ = some (.int .u8 (u.toNat : Int))) := by
  rcases h.2 with ⟨rfl, hn⟩ | ⟨g, cap, cur, rfl, hb, hg, hnc, hcm, hcs, htake⟩
  · exact ⟨none, 0, by rw [hn], by omega, by simp [maxLen], by omega⟩
  · refine ⟨_, cap, rfl, hnc, hcm, fun hp => ⟨g, 0, rfl, (Array.getElem?_eq_some_iff.1 hg).1, fun k u hk => ?_⟩⟩
    have hkl : k < l.length := (List.getElem?_eq_some_iff.1 hk).1
    rw [cell_of_row _ _ _ _ _ (0, 0) hg]
    have : (bv l)[k]? = some (.int .u8 (u.toNat : Int)) := by simp [bv, hk]
    rw [← htake, List.getElem?_take, if_pos (by omega)] at this
    simpa using this

theorem OwnB.rd {w : World} {base : Nat} {v : Value} {l : List UInt8} (h : OwnB w base v l) : RdB w w.heap.size v l := by
  obtain ⟨A, c, e, h1, h2, h3⟩ := own_cap h
  exact ⟨A, c, e, h1, by simpa [maxLen] using h2, h3⟩

/-- Bytes as a text, in whatever world they read so. -/
theorem conv_str {w : World} {A : Option Addr} {c : Nat} {l : List UInt8} (h : 0 < l.length → ∃ b o, A = some ⟨b, o, none⟩ ∧ ∀ (k : Nat) (u : UInt8), l[k]? = some u → w.cell? ⟨b, o + k, none⟩ = some (.int .u8 (u.toNat : Int))) :
    (convert 127 9 (.slice A l.length c)).run Try.prog w = .ok (.string ⟨l.toArray⟩) w := by
  rcases Nat.eq_zero_or_pos l.length with h0 | h0
  · have hl : l = [] := List.eq_nil_of_length_eq_zero h0
    subst hl
    cases A with
    | none => exact run_convert_bytes_nil w _ 5 Try.underlying127 Try.underlying5 _ _ _ Try.underlying9
    | some a =>
      rw [run_convert_bytes_string w _ _ 5 _ _ _ Try.underlying127 Try.underlying5 Try.underlying9, run_bytesToString w a _ _ [] (by simp [loadCells, loadCellsFrom])]
      rfl
  · obtain ⟨b, o, rfl, hc⟩ := h h0
    have := run_convert_bytes_arg (P := Try.prog) w 127 5 Try.underlying127 Try.underlying5 b o l.length c (l.map fun u => (u.toNat : Int)) (by simp) (fun i hi => by
      rw [hc i l[i] (List.getElem?_eq_getElem hi)]
      simp [hi]) 9 Try.underlying9
    rw [this]
    simp [strOfNums, Function.comp_def]

theorem RdB.str {w : World} {B : Nat} {v : Value} {l : List UInt8} (h : RdB w B v l) : (convert 127 9 v).run Try.prog w = .ok (.string ⟨l.toArray⟩) w := by
  obtain ⟨A, c, rfl, h1, h2, h3⟩ := h
  exact conv_str fun hp => let ⟨b, o, e, _, hc⟩ := h3 hp; ⟨b, o, e, hc⟩
theorem OwnB.str {w : World} {base : Nat} {v : Value} {l : List UInt8} (h : OwnB w base v l) : (convert 127 9 v).run Try.prog w = .ok (.string ⟨l.toArray⟩) w := by
  obtain ⟨A, c, rfl, h1, h2, h3⟩ := own_cap h
  exact conv_str fun hp => let ⟨b, o, e, _, hc⟩ := h3 hp; ⟨b, o, e, hc⟩

theorem partOk_mk {t : Bool} {n : Int} {s : ByteArray} (h1 : -9223372036854775808 ≤ n) (h2 : n ≤ 9223372036854775807) (h3 : s.size ≤ 1000000) : PartOk ⟨t, n, s⟩ := ⟨h1, h2, h3⟩

def keyBytes (t : Int) (s : ByteArray) : List UInt8 := encPart ⟨false, t, ⟨#[]⟩⟩ ++ encPart ⟨true, 0, s⟩

/-- A literal of two parts, new. -/
theorem rd_two (w : World) (p q : PartD) : RdParts (w.alloc (.cells #[.bool p.isText, .int .i64 p.num, .string p.text, .bool q.isText, .int .i64 q.num, .string q.text] 129)) (w.heap.size + 1) (.slice (some ⟨w.heap.size, 0, none⟩) 2 2) [p, q] := by
  refine ⟨_, 2, rfl, by simp, by omega, fun _ => ⟨w.heap.size, 0, rfl, by omega, fun k x hk => ?_⟩⟩
  have hc : ∀ i, (w.alloc (.cells #[.bool p.isText, .int .i64 p.num, .string p.text, .bool q.isText, .int .i64 q.num, .string q.text] 129)).cell? ⟨w.heap.size, i, none⟩ = (#[.bool p.isText, .int .i64 p.num, .string p.text, .bool q.isText, .int .i64 q.num, .string q.text] : Array Value)[i]? :=
    fun i => cell_of_row _ _ i _ _ (0, 0) (heap_alloc_new w _)
  match k, hk with
  | 0, hk => cases hk; exact ⟨(hc _).trans rfl, (hc _).trans rfl, (hc _).trans rfl⟩
  | 1, hk => cases hk; exact ⟨(hc _).trans rfl, (hc _).trans rfl, (hc _).trans rfl⟩
  | k + 2, hk => simp at hk

theorem rd_none (w : World) (B : Nat) : RdParts w B (.slice none 0 0) [] := ⟨none, 0, rfl, by simp, by omega, fun h => absurd h (by simp)⟩

end Go.Proofs.Ytlpakooogbaclaa.Ord
/- Layer 1: a number's bytes, read. -/
namespace Go.Proofs.Ytlpakooogbaclaa.Ord
open Go.RowKit
set_option linter.unusedVariables false

/-- The number of bytes, the highest first. -/
def natOf (l : List UInt8) : Nat := l.foldl (fun n c => 256 * n + c.toNat) 0
theorem natOf_snoc (l : List UInt8) (c : UInt8) : natOf (l ++ [c]) = 256 * natOf l + c.toNat := by simp [natOf]
theorem natOf_lt (l : List UInt8) : natOf l < 256 ^ l.length := by
  have key : ∀ (k : Nat) (l : List UInt8), l.length = k → natOf l < 256 ^ k := by
    intro k
    induction k with
    | zero => intro l h; have : l = [] := List.eq_nil_of_length_eq_zero h; subst this; simp [natOf]
    | succ k ih =>
      intro l h
      have hne : l ≠ [] := by rintro rfl; simp at h
      rw [← List.dropLast_concat_getLast hne, natOf_snoc]
      have h1 := ih l.dropLast (by simp [h])
      have h2 := (l.getLast hne).toNat_lt
      rw [Nat.pow_succ]
      omega
  exact key _ l rfl

theorem u8_size (w : World) : (Go.sizeOf 5).run Try.prog w = .ok 1 w := by kernel_rfl

/-- 'v[k:]': what it is, in whatever world, and that it reads so. -/
theorem sl_tail {w : World} {B : Nat} {v : Value} {l : List UInt8} (h : RdB w B v l) (k : Nat) (z : Int) (hz : z = (k : Int)) (hk : k ≤ l.length) :
    ∃ A c, (∀ W, (Instr.slice 127 v (some (.int .i64 z)) none none).run Try.prog W = .ok (.slice A (l.length - k) c) W) ∧ RdB w B (.slice A (l.length - k) c) (l.drop k) := by
  subst hz
  obtain ⟨A, c, rfl, h1, h2, h3⟩ := h
  have ht : Try.prog.underlying 127 = some (.slice (Try.prog.elem 127)) := by simp [Program.elem, Try.underlying127]
  have he : Try.prog.elem 127 = 5 := by simp [Program.elem, Try.underlying127]
  refine ⟨if c = k then A else A.map (·.add k), c - k, fun W => ?_, ⟨_, c - k, by rw [List.length_drop], by rw [List.length_drop]; omega, by omega, fun hp => ?_⟩⟩
  · rw [run_slice_l W _ _ _ _ ht _ _ (by omega) (by omega), he, u8_size]
    simp [Result.andThen, sliced]
  · rw [List.length_drop] at hp
    obtain ⟨b, o, rfl, hb, hc⟩ := h3 (by omega)
    refine ⟨b, o + k, ?_, hb, fun j u hu => ?_⟩
    · rw [if_neg (by omega)]; simp [addr_plain]
    · rw [Nat.add_assoc]
      exact hc (k + j) u (by rw [List.getElem?_drop] at hu; exact hu)

theorem or_add (u c : Nat) (hu : u < 72057594037927936) (hc : c < 256) : bits .or .u64 (IntKind.u64.wrap ((u : Int) * 256)) (IntKind.u64.wrap (c : Int)) = ((256 * u + c : Nat) : Int) := by
  rw [IntKind.wrap_u64, IntKind.wrap_u64, show ((u : Int) * 256) % 18446744073709551616 = ((256 * u : Nat) : Int) from by omega, show (c : Int) % 18446744073709551616 = ((c : Nat) : Int) from by omega,
    u64_or_nat _ _ (by omega) (by omega)]
  have := Nat.two_pow_add_eq_or_of_lt (i := 8) (b := c) hc u
  rw [show (2 : Nat) ^ 8 = 256 from rfl] at this
  rw [this]

theorem dec_wrap (u : Nat) (hu : u < 18446744073709551616) : wrap64 (bits .xor .u64 (u : Int) 9223372036854775808) = (u : Int) - 9223372036854775808 := by
  have h := xor_up ((u : Int) - 9223372036854775808) (by omega) (by omega)
  rw [show (9223372036854775808 : Int) = ((9223372036854775808 : Nat) : Int) from rfl, u64_xor_nat _ _ hu (by omega), show (9223372036854775808 : Nat) = 2 ^ 63 from rfl]
  by_cases h63 : u < 2 ^ 63
  · rw [xor_hi _ h63]; unfold wrap64; omega
  · obtain ⟨a, rfl⟩ : ∃ a, u = a + 2 ^ 63 := ⟨u - 2 ^ 63, by omega⟩
    rw [xor_lo _ (by omega)]; unfold wrap64; omega


end Go.Proofs.Ytlpakooogbaclaa.Ord
/- Layer 1: a text's bytes, read, by a jump back to where the next one is looked at. -/
namespace Go.Proofs.Ytlpakooogbaclaa.Ord
open Go.RowKit
set_option linter.unusedVariables false

theorem drop_at {l : List UInt8} {k : Nat} (h : k < l.length) : l.drop k = l[k] :: l.drop (k + 1) := List.drop_eq_getElem_cons h
theorem drop_two {l : List UInt8} {k : Nat} (h : k + 1 < l.length) : l.drop k = l[k] :: l[k + 1] :: l.drop (k + 2) := by rw [List.drop_eq_getElem_cons (by omega), List.drop_eq_getElem_cons h]

end Go.Proofs.Ytlpakooogbaclaa.Ord
/- Layer 1: a part's bytes, read. -/
namespace Go.Proofs.Ytlpakooogbaclaa.Ord
open Go.RowKit
set_option linter.unusedVariables false

theorem u8_beq {c : UInt8} {d : UInt8} {n : Int} (hn : (d.toNat : Int) = n) : ((c.toNat : Int) == n) = decide (c = d) := by
  subst hn
  by_cases h : c = d
  · subst h; simp
  · have : (c.toNat : Int) ≠ (d.toNat : Int) := fun e => h (UInt8.toNat_inj.1 (by omega))
    rw [beq_eq_false_iff_ne.2 this]; simp [h]

theorem bcell {B : Nat} {W w1 : World} (hb : Below B W w1) : (∀ b o, b < B → w1.cell? ⟨b, o, none⟩ = W.cell? ⟨b, o, none⟩) ∧ (∀ b o, b < B → w1.frozen? ⟨b, o, none⟩ = W.frozen? ⟨b, o, none⟩) :=
  ⟨fun b o h => hb.cell (p := ⟨b, o, none⟩) h, fun b o h => hb.frozen (p := ⟨b, o, none⟩) h⟩

end Go.Proofs.Ytlpakooogbaclaa.Ord
/- Layer 1: an argument that is a tuple, opened to its parts. -/
namespace Go.Proofs.Ytlpakooogbaclaa.Ord
open Go.RowKit Go.ChangeShapes Go.WideShapes Go.ChangeAt Go.Deep
set_option linter.unusedVariables false

end Go.Proofs.Ytlpakooogbaclaa.Ord
/- Layer 1: the cutting of a tuple, and whether two are the same. -/
namespace Go.Proofs.Ytlpakooogbaclaa.Ord
open Go.RowKit
set_option linter.unusedVariables false

def pcells (l : List PartD) : List Value := l.flatMap PartD.cells
theorem pcells_append (l m : List PartD) : pcells (l ++ m) = pcells l ++ pcells m := by simp [pcells]
theorem pcells_at (l : List PartD) (k : Nat) (p : PartD) (h : l[k]? = some p) :
    (pcells l)[k * 3]? = some (.bool p.isText) ∧ (pcells l)[k * 3 + 1]? = some (.int .i64 p.num) ∧ (pcells l)[k * 3 + 2]? = some (.string p.text) := by
  induction l generalizing k with
  | nil => simp at h
  | cons q l ih =>
    have hc : pcells (q :: l) = .bool q.isText :: .int .i64 q.num :: .string q.text :: pcells l := by simp [pcells, PartD.cells]
    rw [hc]
    cases k with
    | zero => simp at h; subst h; simp
    | succ k =>
      have := ih k (by simpa using h)
      rw [show (k + 1) * 3 = k * 3 + 3 from by omega]
      simpa using this

/-- v is a row of parts, from block base on, that reads as l. -/
def OwnP (w : World) (base : Nat) (v : Value) (l : List PartD) : Prop := w.ownsRow base 129 3 v l.length (pcells l)
theorem OwnP.nil (w : World) (base : Nat) : OwnP w base (.slice none 0 0) [] := World.ownsRow_nil w base _ 3
theorem OwnP.base {w : World} {base : Nat} {v : Value} {l : List PartD} (h : OwnP w base v l) : ∀ k, v.ownBlock = some k → base ≤ k := fun k hk => (h.lt k hk).1

theorem OwnP.rd {w : World} {base : Nat} {v : Value} {l : List PartD} (h : OwnP w base v l) : RdParts w w.heap.size v l := by
  rcases h.2 with ⟨rfl, hn⟩ | ⟨g, cap, cur, rfl, hb, hg, hnc, hcm, hcs, htake⟩
  · have : l = [] := List.eq_nil_of_length_eq_zero hn
    subst this
    exact rd_none _ _
  · refine ⟨_, cap, rfl, hnc, by simpa [maxLen] using hcm, fun hp => ⟨g, 0, rfl, (Array.getElem?_eq_some_iff.1 hg).1, fun k p hk => ?_⟩⟩
    have hkl : k < l.length := (List.getElem?_eq_some_iff.1 hk).1
    have hc : ∀ j u, (pcells l)[j]? = some u → j < l.length * 3 → w.cell? ⟨g, 0 + j, none⟩ = some u := by
      intro j u hj hlt
      rw [Nat.zero_add, cell_of_row _ _ _ _ _ (0, 0) hg]
      rw [← htake, List.getElem?_take, if_pos (by omega)] at hj
      simpa using hj
    obtain ⟨h0, h1, h2⟩ := pcells_at l k p hk
    exact ⟨hc _ _ h0 (by omega), hc _ _ h1 (by omega), hc _ _ h2 (by omega)⟩

theorem part_info : (Try.prog.info? 129).map (fun i => (i.zero, i.size, i.bytes)) = some (some (.agg #[.bool false, .int .i64 0, .string ⟨#[]⟩]), 3, 32) := by kernel_rfl

theorem one_cells (p : PartD) : ∀ u ∈ p.cells, u.oneCell' = true := by
  intro u hu
  simp only [PartD.cells, List.mem_cons, List.not_mem_nil, or_false] at hu
  rcases hu with rfl | rfl | rfl <;> rfl

end Go.Proofs.Ytlpakooogbaclaa.Ord
