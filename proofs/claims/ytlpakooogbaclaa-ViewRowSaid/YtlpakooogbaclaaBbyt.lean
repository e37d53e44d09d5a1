/- Bytes: rows of them that a call owns; slices that read as them; append, slicing, texts; an argument that is bytes, opened. Program-bound by its types' names alone. -/
import Derived.Test.YtlpakooogbaclaaRows
import Derived.Test.YtlpakooogbaclaaBA
import Derived.Lib.Hide
import Derived.WalkLawsBesides
import Derived.Deep.QuietTactic
import Derived.BigQuiet
import Derived.Handy
import Derived.Laws.BytesArg
import Derived.Laws.BitsAllLaws
import Derived.ChangeSlices
import Derived.ChangeMaps5
import Derived.Lib.ConvBytes
namespace Go.Proofs.Ytlpakooogbaclaa
open Go.RowKit Go.ChangeShapes Go.WideShapes Go.ChangeAt Go.Deep
set_option linter.unusedVariables false

/-- Bytes as values. -/
def bv (l : List UInt8) : List Value := l.map fun c => .int .u8 (c.toNat : Int)
theorem bv_append (l r : List UInt8) : bv (l ++ r) = bv l ++ bv r := by simp [bv]

/-- v is a row of bytes, from block base on, that reads as l. -/
def OwnB (w : World) (base : Nat) (v : Value) (l : List UInt8) : Prop := w.ownsRow base 5 1 v l.length (bv l)

theorem OwnB.base {w : World} {base : Nat} {v : Value} {l : List UInt8} (h : OwnB w base v l) : ∀ k, v.ownBlock = some k → base ≤ k := fun k hk => (h.lt k hk).1
theorem OwnB.nil (w : World) (base : Nat) : OwnB w base (.slice none 0 0) [] := World.ownsRow_nil w base _ 1

theorem u8_info : (Try.prog.info? 5).map (fun i => (i.zero, i.size, i.bytes)) = some (some (.int .u8 0), 1, 1) := by kernel_rfl

/-- append of a literal's bytes to an owned row. -/
theorem wpl_app {w : World} {ops : Array Oper} {rest : List Oper} {o : Oper} {a : Act} {Q : Exit → Act → World → Prop} (hgd : o.guard = none) (s x : Operand)
    (ho : o.op = .call { callee := .builtin .append, args := #[s, x], argTypes := #[127, 127] })
    (base : Nat) (v : Value) (l r : List UInt8) (cs : Array Value) (m c : Nat) (hcs : cs = (bv r).toArray) (hs : a.eval s = v) (hx : a.eval x = .slice (some ⟨w.heap.size, 0, none⟩) m c) (hm : m = r.length)
    (hown : OwnB w base v l) (hb : base ≤ w.heap.size) (hlen : l.length + r.length ≤ 1099511627776)
    (h : ∀ v' w', OwnB w' base v' (l ++ r) → Grew w w' v v' → w.heap.size ≤ w'.heap.size → wpList Try.prog ops Q rest (a.put o.dst v') w') :
    wpList Try.prog ops Q (o :: rest) a (w.alloc (.cells cs 5)) := by
  obtain ⟨i, hi, hz, hsz, hby⟩ := info_parts u8_info
  subst hcs hm
  have hcell : ∀ j u, (bv r)[j]? = some u → (w.alloc (.cells (bv r).toArray 5)).cell? ((⟨w.heap.size, 0, none⟩ : Addr).add j) = some u := by
    intro j u hu
    have hadd : (⟨w.heap.size, 0, none⟩ : Addr).add j = ⟨w.heap.size, j, none⟩ := by unfold Addr.add; split <;> simp_all
    rw [hadd, cell_of_row _ _ j _ _ (0, 0) (heap_alloc_new w _)]
    simpa using hu
  obtain ⟨v', w', hrun, h2, h3, -, h4⟩ := run_append_own_at (P := Try.prog) (w.alloc (.cells (bv r).toArray 5)) base 127 o.type 5 i (.int .u8 0) 1 1 Try.underlying127 hi hz hsz hby rfl (by omega)
    v l.length (bv l) (hown.alloc _) ⟨w.heap.size, 0, none⟩ r.length c (bv r) (by simp [bv]) hcell (by simp [bv, Value.oneCell']) (by simp only [maxLen]; omega) (by omega) (by simp; omega)
  have hg : Grew w w' v v' := by
    refine ⟨⟨h3.os, h3.tape, h3.output, Nat.le_trans (by simp) h3.size, fun k hk hne => (h3.block k (by simp; omega) hne).trans (Below.heap_alloc w _ k hk)⟩, ?_⟩
    rcases h4 with e | e
    · exact .inl e
    · exact .inr ⟨_, e, by simp⟩
  refine wpList_plain hgd fun K hK => ?_
  unfold Oper.wp execOp
  simp only [ho, resolve, invoke, builtin, Sem.run_bind, Sem.run_pure, Result.andThen_ok, List.map_toArray, List.map_cons, List.map_nil, hs, hx, hrun]
  exact hK _ _ (h v' w' (by unfold OwnB; rw [bv_append, List.length_append]; exact h2) hg hg.grown.size)

theorem own_new (w : World) (cs : Array Value) (l : List UInt8) (n : Nat) (h : cs = (bv l).toArray) (hn : n = l.length) (hl : l.length ≤ 1099511627776) :
    OwnB (w.alloc (.cells cs 5)) w.heap.size (.slice (some ⟨w.heap.size, 0, none⟩) n n) l := by
  subst h hn
  exact ⟨by simp [bv], .inr ⟨w.heap.size, l.length, _, rfl, Nat.le_refl _, heap_alloc_new w _, Nat.le_refl _, by simp only [maxLen]; omega, by simp [bv], by rw [List.take_of_length_le (by simp [bv])]⟩⟩

/-- The value v is a slice of bytes that reads as l, in a block below B. -/
def RdB (w : World) (B : Nat) (v : Value) (l : List UInt8) : Prop :=
  ∃ A c, v = .slice A l.length c ∧ l.length ≤ c ∧ c ≤ 9223372036854775807 ∧ (0 < l.length → ∃ b o, A = some ⟨b, o, none⟩ ∧ b < B ∧
    ∀ (k : Nat) (u : UInt8), l[k]? = some u → w.cell? ⟨b, o + k, none⟩ = some (.int .u8 (u.toNat : Int)))

theorem RdB.below {w w' : World} {B : Nat} {v : Value} {l : List UInt8} (h : RdB w B v l) (hb : Below B w w') : RdB w' B v l := by
  obtain ⟨A, c, rfl, h1, h2, h3⟩ := h
  refine ⟨A, c, rfl, h1, h2, fun hp => ?_⟩
  obtain ⟨b, o, rfl, hB, hc⟩ := h3 hp
  exact ⟨b, o, rfl, hB, fun k p hk => (hb.cell (p := ⟨b, _, none⟩) hB).trans (hc k p hk)⟩
theorem RdB.more {w : World} {B B' : Nat} {v : Value} {l : List UInt8} (h : RdB w B v l) (hB : B ≤ B') : RdB w B' v l := by
  obtain ⟨A, c, rfl, h1, h2, h3⟩ := h
  refine ⟨A, c, rfl, h1, h2, fun hp => ?_⟩
  obtain ⟨b, o, rfl, hb, hc⟩ := h3 hp
  exact ⟨b, o, rfl, by omega, hc⟩
theorem RdB.on {w w' : World} {v : Value} {l : List UInt8} (h : RdB w w.heap.size v l) (hb : Below w.heap.size w w') : RdB w' w'.heap.size v l := (h.below hb).more hb.size
theorem RdB.nil (w : World) (B : Nat) : RdB w B (.slice none 0 0) [] := ⟨none, 0, rfl, by simp, by omega, fun h => absurd h (by simp)⟩
theorem RdB.drew {w : World} {B : Nat} {v : Value} {l : List UInt8} (h : RdB w B v l) : RdB w.drew B v l := h

theorem own_cap {w : World} {base : Nat} {v : Value} {l : List UInt8} (h : OwnB w base v l) : ∃ A c, v = .slice A l.length c ∧ l.length ≤ c ∧ c ≤ maxLen ∧ (0 < l.length → ∃ b o, A = some ⟨b, o, none⟩ ∧ b < w.heap.size ∧
    ∀ (k : Nat) (u : UInt8), l[k]? = some u → w.cell? ⟨b, o + k, none⟩ = some (.int .u8 (u.toNat : Int))) := by
  rcases h.2 with ⟨rfl, hn⟩ | ⟨g, cap, cur, rfl, hb, hg, hnc, hcm, hcs, htake⟩
  · exact ⟨none, 0, by rw [hn], by omega, by simp [maxLen], by omega⟩
  · refine ⟨_, cap, rfl, hnc, hcm, fun hp => ⟨g, 0, rfl, (Array.getElem?_eq_some_iff.1 hg).1, fun k u hk => ?_⟩⟩
    have hkl : k < l.length := (List.getElem?_eq_some_iff.1 hk).1
    rw [cell_of_row _ _ _ _ _ (0, 0) hg]
    have : (bv l)[k]? = some (.int .u8 (u.toNat : Int)) := by simp [bv, hk]
    rw [← htake, List.getElem?_take, if_pos (by omega)] at this
    simpa using this

theorem OwnB.rd {w : World} {base : Nat} {v : Value} {l : List UInt8} (h : OwnB w base v l) : RdB w w.heap.size v l := by
  obtain ⟨A, c, e, h1, h2, h3⟩ := own_cap h
  exact ⟨A, c, e, h1, by simpa [maxLen] using h2, h3⟩

/-- Bytes as a text, in whatever world they read so. -/
theorem conv_str {w : World} {A : Option Addr} {c : Nat} {l : List UInt8} (h : 0 < l.length → ∃ b o, A = some ⟨b, o, none⟩ ∧ ∀ (k : Nat) (u : UInt8), l[k]? = some u → w.cell? ⟨b, o + k, none⟩ = some (.int .u8 (u.toNat : Int))) :
    (convert 127 9 (.slice A l.length c)).run Try.prog w = .ok (.string ⟨l.toArray⟩) w := by
  rcases Nat.eq_zero_or_pos l.length with h0 | h0
  · have hl : l = [] := List.eq_nil_of_length_eq_zero h0
    subst hl
    cases A with
    | none => exact run_convert_bytes_nil w _ 5 Try.underlying127 Try.underlying5 _ _ _ Try.underlying9
    | some a =>
      rw [run_convert_bytes_string w _ _ 5 _ _ _ Try.underlying127 Try.underlying5 Try.underlying9, run_bytesToString w a _ _ [] (by simp [loadCells, loadCellsFrom])]
      rfl
  · obtain ⟨b, o, rfl, hc⟩ := h h0
    have := run_convert_bytes_arg (P := Try.prog) w 127 5 Try.underlying127 Try.underlying5 b o l.length c (l.map fun u => (u.toNat : Int)) (by simp) (fun i hi => by
      rw [hc i l[i] (List.getElem?_eq_getElem hi)]
      simp [hi]) 9 Try.underlying9
    rw [this]
    simp [strOfNums, Function.comp_def]

theorem RdB.str {w : World} {B : Nat} {v : Value} {l : List UInt8} (h : RdB w B v l) : (convert 127 9 v).run Try.prog w = .ok (.string ⟨l.toArray⟩) w := by
  obtain ⟨A, c, rfl, h1, h2, h3⟩ := h
  exact conv_str fun hp => let ⟨b, o, e, _, hc⟩ := h3 hp; ⟨b, o, e, hc⟩
theorem OwnB.str {w : World} {base : Nat} {v : Value} {l : List UInt8} (h : OwnB w base v l) : (convert 127 9 v).run Try.prog w = .ok (.string ⟨l.toArray⟩) w := by
  obtain ⟨A, c, rfl, h1, h2, h3⟩ := own_cap h
  exact conv_str fun hp => let ⟨b, o, e, _, hc⟩ := h3 hp; ⟨b, o, e, hc⟩

/-- append of bytes that are read to an owned row. -/
theorem wpl_app_rd {W : World} {ops : Array Oper} {rest : List Oper} {o : Oper} {a : Act} {Q : Exit → Act → World → Prop} (hgd : o.guard = none) (s x : Operand)
    (ho : o.op = .call { callee := .builtin .append, args := #[s, x], argTypes := #[127, 127] })
    (base B : Nat) (v u : Value) (l r : List UInt8) (hs : a.eval s = v) (hx : a.eval x = u) (hown : OwnB W base v l) (hrd : RdB W B u r) (hr : 0 < r.length) (hb : base ≤ W.heap.size) (hlen : l.length + r.length ≤ 1099511627776)
    (h : ∀ v' w', OwnB w' base v' (l ++ r) → Grew W w' v v' → W.heap.size ≤ w'.heap.size → wpList Try.prog ops Q rest (a.put o.dst v') w') :
    wpList Try.prog ops Q (o :: rest) a W := by
  obtain ⟨A, c, rfl, _, _, hc⟩ := hrd
  obtain ⟨g, off, rfl, _, hc⟩ := hc hr
  refine wpl_appg_at hgd s x ho Try.underlying127 u8_info rfl (by omega) v l.length (bv l) g off r.length c (bv r) hs hx (by simp [bv]) ?_ (by simp [bv, Value.oneCell']) hown (by omega) (by omega) hb ?_
  · intro j u hu
    simp only [bv, List.getElem?_map, Option.map_eq_some_iff] at hu
    obtain ⟨y, hy, rfl⟩ := hu
    exact hc j y hy
  · intro v' w' h1 h2 h3
    exact h v' w' (by unfold OwnB; rw [bv_append, List.length_append]; exact h1) h2 h3

/-- append of whatever bytes to an owned row. -/
theorem wpl_app_bytes {W : World} {ops : Array Oper} {rest : List Oper} {o : Oper} {a : Act} {Q : Exit → Act → World → Prop} (hgd : o.guard = none) (s x : Operand)
    (ho : o.op = .call { callee := .builtin .append, args := #[s, x], argTypes := #[127, 127] })
    (base B : Nat) (v u : Value) (l r : List UInt8) (hs : a.eval s = v) (hx : a.eval x = u) (hown : OwnB W base v l) (hrd : RdB W B u r) (hb : base ≤ W.heap.size) (hlen : l.length + r.length ≤ 1099511627776)
    (h : ∀ v' w', OwnB w' base v' (l ++ r) → Grew W w' v v' → W.heap.size ≤ w'.heap.size → wpList Try.prog ops Q rest (a.put o.dst v') w') :
    wpList Try.prog ops Q (o :: rest) a W := by
  by_cases hr : 0 < r.length
  · exact wpl_app_rd hgd s x ho base B v u l r hs hx hown hrd hr hb hlen h
  · have hr0 : r = [] := List.eq_nil_of_length_eq_zero (by omega)
    subst hr0
    obtain ⟨A, c, rfl, _, _, _⟩ := hrd
    refine wpl_appg_zero hgd s x ho Try.underlying127 u8_info rfl (by omega) v l.length (bv l) A c hs hx hown (by omega) (by omega) hb ?_
    intro v' w' h1 h2 h3
    exact h v' w' (by rw [List.append_nil]; exact h1) h2 h3

theorem u8_size (w : World) : (Go.sizeOf 5).run Try.prog w = .ok 1 w := by kernel_rfl

/-- 'v[k:]': what it is, in whatever world, and that it reads so. -/
theorem sl_tail {w : World} {B : Nat} {v : Value} {l : List UInt8} (h : RdB w B v l) (k : Nat) (z : Int) (hz : z = (k : Int)) (hk : k ≤ l.length) :
    ∃ A c, (∀ W, (Instr.slice 127 v (some (.int .i64 z)) none none).run Try.prog W = .ok (.slice A (l.length - k) c) W) ∧ RdB w B (.slice A (l.length - k) c) (l.drop k) := by
  subst hz
  obtain ⟨A, c, rfl, h1, h2, h3⟩ := h
  have ht : Try.prog.underlying 127 = some (.slice (Try.prog.elem 127)) := by simp [Program.elem, Try.underlying127]
  have he : Try.prog.elem 127 = 5 := by simp [Program.elem, Try.underlying127]
  refine ⟨if c = k then A else A.map (·.add k), c - k, fun W => ?_, ⟨_, c - k, by rw [List.length_drop], by rw [List.length_drop]; omega, by omega, fun hp => ?_⟩⟩
  · rw [run_slice_l W _ _ _ _ ht _ _ (by omega) (by omega), he, u8_size]
    simp [Result.andThen, sliced]
  · rw [List.length_drop] at hp
    obtain ⟨b, o, rfl, hb, hc⟩ := h3 (by omega)
    refine ⟨b, o + k, ?_, hb, fun j u hu => ?_⟩
    · rw [if_neg (by omega)]; simp [addr_plain]
    · rw [Nat.add_assoc]
      exact hc (k + j) u (by rw [List.getElem?_drop] at hu; exact hu)

/-- 'v[k:m]': what it is, in whatever world, and that it reads so. -/
theorem sl_mid {w : World} {B : Nat} {v : Value} {l : List UInt8} (h : RdB w B v l) (k m : Nat) (y z : Int) (hy : y = (k : Int)) (hz : z = (m : Int)) (hkm : k ≤ m) (hm : m ≤ l.length) :
    ∃ A c, (∀ W, (Instr.slice 127 v (some (.int .i64 y)) (some (.int .i64 z)) none).run Try.prog W = .ok (.slice A (m - k) c) W) ∧ RdB w B (.slice A (m - k) c) ((l.drop k).take (m - k)) := by
  subst hy hz
  obtain ⟨A, c, rfl, h1, h2, h3⟩ := h
  have ht : Try.prog.underlying 127 = some (.slice (Try.prog.elem 127)) := by simp [Program.elem, Try.underlying127]
  have he : Try.prog.elem 127 = 5 := by simp [Program.elem, Try.underlying127]
  have hl : ((l.drop k).take (m - k)).length = m - k := by rw [List.length_take, List.length_drop]; omega
  refine ⟨if c = k then A else A.map (·.add k), c - k, fun W => ?_, ⟨_, c - k, by rw [hl], by rw [hl]; omega, by omega, fun hp => ?_⟩⟩
  · rw [run_slice_lh W _ _ _ _ ht _ _ _ _ (by omega) (by omega) (by omega), he, u8_size]
    simp [Result.andThen, sliced]
  · rw [hl] at hp
    obtain ⟨b, o, rfl, hb, hc⟩ := h3 (by omega)
    refine ⟨b, o + k, ?_, hb, fun j u hu => ?_⟩
    · rw [if_neg (by omega)]; simp [addr_plain]
    · rw [Nat.add_assoc]
      rw [List.getElem?_take] at hu
      split at hu
      · rw [List.getElem?_drop] at hu; exact hc (k + j) u hu
      · cases hu

/-- A text as bytes: new memory that reads so. -/
theorem str_bytes (s : ByteArray) (w : World) (hs : s.size ≤ 9223372036854775807) :
    ∃ A c w1, (convert 9 127 (.string s)).run Try.prog w = .ok (.slice A s.size c) w1 ∧ RdB w1 w1.heap.size (.slice A s.size c) s.data.toList ∧ Below w.heap.size w w1 ∧ (Value.slice A s.size c).ownBlock = some w.heap.size := by
  refine ⟨some ⟨w.heap.size, 0, none⟩, grownCap w s.size 0 5, Lib.bytesWorld w 5 s, Lib.run_convert_string_bytes w _ _ 5 s Try.underlying9 Try.underlying127 Try.underlying5, ?_, ?_, rfl⟩
  · have hsz : s.data.toList.length = s.size := by simp
    refine ⟨_, _, by rw [hsz], by rw [hsz]; exact grownCap_ge w s.size 0 _, by have := grownCap_le_maxLen w s.size 0 5 (by simp only [maxLen]; omega); simpa [maxLen] using this, fun hp => ⟨w.heap.size, 0, rfl, by rw [Lib.bytesWorld_size]; omega, fun k u hu => ?_⟩⟩
    have hk : k < s.size := by rw [← hsz]; exact (List.getElem?_eq_some_iff.1 hu).1
    rw [Nat.zero_add, Lib.bytesWorld_cell w _ s k hk, List.getD_eq_getElem?_getD, hu]
    rfl
  · refine ⟨?_, ?_, ?_, by rw [Lib.bytesWorld_size]; omega, fun k hk => Lib.bytesWorld_at_old w _ s k hk⟩
    all_goals (simp [Lib.bytesWorld, World.freeze]; try rfl)

theorem u8_beq {c : UInt8} {d : UInt8} {n : Int} (hn : (d.toNat : Int) = n) : ((c.toNat : Int) == n) = decide (c = d) := by
  subst hn
  by_cases h : c = d
  · subst h; simp
  · have : (c.toNat : Int) ≠ (d.toNat : Int) := fun e => h (UInt8.toNat_inj.1 (by omega))
    rw [beq_eq_false_iff_ne.2 this]; simp [h]

theorem bcell {B : Nat} {W w1 : World} (hb : Below B W w1) : (∀ b o, b < B → w1.cell? ⟨b, o, none⟩ = W.cell? ⟨b, o, none⟩) ∧ (∀ b o, b < B → w1.frozen? ⟨b, o, none⟩ = W.frozen? ⟨b, o, none⟩) :=
  ⟨fun b o h => hb.cell (p := ⟨b, o, none⟩) h, fun b o h => hb.frozen (p := ⟨b, o, none⟩) h⟩

theorem take_snoc (s : ByteArray) (k : Nat) (h : k < s.size) : s.data.toList.take (k + 1) = s.data.toList.take k ++ [s[k]] := by
  rw [List.take_succ_eq_append_getElem (by simpa using h)]; rfl

end Go.Proofs.Ytlpakooogbaclaa
