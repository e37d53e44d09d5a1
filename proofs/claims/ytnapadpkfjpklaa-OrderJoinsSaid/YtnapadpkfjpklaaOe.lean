/- Layer 1: rows of bytes that a call owns, and what append does to them. -/
import Derived.Test.YtnapadpkfjpklaaOa
import Derived.Test.YtnapadpkfjpklaaBapp
namespace Go.Proofs.Ytnapadpkfjpklaa
open Go.RowKit
set_option linter.unusedVariables false

/-- Bytes as values. -/
def bv (l : List UInt8) : List Value := l.map fun c => .int .u8 (c.toNat : Int)
theorem bv_append (l r : List UInt8) : bv (l ++ r) = bv l ++ bv r := by simp [bv]
theorem bv_length (l : List UInt8) : (bv l).length = l.length := by simp [bv]

/-- v is a row of bytes, from block base on, that reads as l. -/
def OwnB (w : World) (base : Nat) (v : Value) (l : List UInt8) : Prop := w.ownsRow base 5 1 v l.length (bv l)

theorem OwnB.base {w : World} {base : Nat} {v : Value} {l : List UInt8} (h : OwnB w base v l) : ∀ k, v.ownBlock = some k → base ≤ k := fun k hk => (h.lt k hk).1
theorem OwnB.nil (w : World) (base : Nat) : OwnB w base (.slice none 0 0) [] := World.ownsRow_nil w base _ 1

theorem u8_info : (Try.prog.info? 5).map (fun i => (i.zero, i.size, i.bytes)) = some (some (.int .u8 0), 1, 1) := by kernel_rfl

/-- append of a literal's bytes to an owned row. -/
theorem wpl_app {w : World} {ops : Array Oper} {rest : List Oper} {o : Oper} {a : Act} {Q : Exit → Act → World → Prop} (hgd : o.guard = none) (s x : Operand)
    (ho : o.op = .call { callee := .builtin .append, args := #[s, x], argTypes := #[24, 24] })
    (base : Nat) (v : Value) (l r : List UInt8) (cs : Array Value) (m c : Nat) (hcs : cs = (bv r).toArray) (hs : a.eval s = v) (hx : a.eval x = .slice (some ⟨w.heap.size, 0, none⟩) m c) (hm : m = r.length)
    (hown : OwnB w base v l) (hb : base ≤ w.heap.size) (hlen : l.length + r.length ≤ 1099511627776)
    (h : ∀ v' w', OwnB w' base v' (l ++ r) → Grew w w' v v' → w.heap.size ≤ w'.heap.size → wpList Try.prog ops Q rest (a.put o.dst v') w') :
    wpList Try.prog ops Q (o :: rest) a (w.alloc (.cells cs 5)) := by
  obtain ⟨i, hi, hz, hsz, hby⟩ := info_parts u8_info
  subst hcs hm
  have hcell : ∀ j u, (bv r)[j]? = some u → (w.alloc (.cells (bv r).toArray 5)).cell? ((⟨w.heap.size, 0, none⟩ : Addr).add j) = some u := by
    intro j u hu
    have hadd : (⟨w.heap.size, 0, none⟩ : Addr).add j = ⟨w.heap.size, j, none⟩ := by unfold Addr.add; split <;> simp_all
    rw [hadd, cell_of_row _ _ j _ _ (0, 0) (heap_alloc_new w _)]
    simpa using hu
  obtain ⟨v', w', hrun, h2, h3, -, h4⟩ := run_append_own_at (P := Try.prog) (w.alloc (.cells (bv r).toArray 5)) base 24 o.type 5 i (.int .u8 0) 1 1 Try.underlying24 hi hz hsz hby rfl (by omega)
    v l.length (bv l) (hown.alloc _) ⟨w.heap.size, 0, none⟩ r.length c (bv r) (by simp [bv]) hcell (by simp [bv, Value.oneCell']) (by simp only [maxLen]; omega) (by omega) (by simp; omega)
  have hg : Grew w w' v v' := by
    refine ⟨⟨h3.os, h3.tape, h3.output, Nat.le_trans (by simp) h3.size, fun k hk hne => (h3.block k (by simp; omega) hne).trans (Below.heap_alloc w _ k hk)⟩, ?_⟩
    rcases h4 with e | e
    · exact .inl e
    · exact .inr ⟨_, e, by simp⟩
  refine wpList_plain hgd fun K hK => ?_
  unfold Oper.wp execOp
  simp only [ho, resolve, invoke, builtin, Sem.run_bind, Sem.run_pure, Result.andThen_ok, List.map_toArray, List.map_cons, List.map_nil, hs, hx, hrun]
  exact hK _ _ (h v' w' (by unfold OwnB; rw [bv_append, List.length_append]; exact h2) hg hg.grown.size)

theorem own_new (w : World) (cs : Array Value) (l : List UInt8) (n : Nat) (h : cs = (bv l).toArray) (hn : n = l.length) (hl : l.length ≤ 1099511627776) :
    OwnB (w.alloc (.cells cs 5)) w.heap.size (.slice (some ⟨w.heap.size, 0, none⟩) n n) l := by
  subst h hn
  exact ⟨by simp [bv], .inr ⟨w.heap.size, l.length, _, rfl, Nat.le_refl _, heap_alloc_new w _, Nat.le_refl _, by simp only [maxLen]; omega, by simp [bv], by rw [List.take_of_length_le (by simp [bv])]⟩⟩

def encText : List UInt8 → List UInt8
  | [] => []
  | c :: l => if c = 0 then 0 :: 255 :: encText l else c :: encText l
theorem encText_append (l m : List UInt8) : encText (l ++ m) = encText l ++ encText m := by
  induction l with
  | nil => rfl
  | cons c l ih => by_cases h : c = 0 <;> simp [encText, h, ih]
theorem encText_length (l : List UInt8) : (encText l).length ≤ 2 * l.length := by
  induction l with
  | nil => simp [encText]
  | cons c l ih => by_cases h : c = 0 <;> simp [encText, h] <;> omega

theorem take_snoc (s : ByteArray) (k : Nat) (h : k < s.size) : s.data.toList.take (k + 1) = s.data.toList.take k ++ [s[k]] := by
  rw [List.take_succ_eq_append_getElem (by simpa using h)]; rfl

set_option maxHeartbeats 400000 in
theorem put_text (base : Nat) (v : Value) (l : List UInt8) (s : ByteArray) (w : World) (h : OwnB w base v l) (hb : base ≤ w.heap.size) (hl : l.length ≤ 549755813888) (hs : s.size ≤ 137438953472) :
    Calls Try.prog 25 #[v, .string s] w fun e w' => ∃ v', e = .returned v' ∧ OwnB w' base v' (l ++ encText s.data.toList ++ [0, 1]) ∧ Grew w w' v v' := by
  go_enter Try.func25, Try.ntmps25
  go_wp2
  go_loopw [0, 8] (fun x i wr => ∃ k : Nat, k ≤ s.size ∧ i = .int .i64 k ∧ OwnB wr base x (l ++ encText (s.data.toList.take k)) ∧ Grew w wr v x) (fun _ i _ => s.size - (intOf i).toNat)
  case atStart => exact ⟨0, Nat.zero_le _, rfl, by simpa [encText] using h, Grew.refl _ _⟩
  case round =>
    obtain ⟨k, hk, rfl, ho, hg⟩ := hrel
    have hgs := hg.grown.size
    have hel := encText_length (s.data.toList.take k)
    have htl : (s.data.toList.take k).length ≤ k := List.length_take_le _ _
    have hll : (l ++ encText (s.data.toList.take k)).length ≤ l.length + 2 * k := by rw [List.length_append]; omega
    have HG := Lib.hid hg
    clear hg hel htl
    have hll2 := hll
    simp only [List.length_append] at hll2
    by_cases hlt : k < s.size
    · have hts := Lib.hid (take_snoc s k hlt)
      by_cases hz : s[k] = 0
      · have hz1 : (s[k].toNat : Int) = 0 := by rw [hz]; rfl
        have HZ := Lib.hid hz
        clear hz
        go_wp2_with (first
          | (at_builtin; refine wpl_app rfl (.tmp 11) (.tmp 15) rfl base _ _ [s[k]] _ _ _ ?_ rfl rfl rfl ho ?_ ?_ ?_; rotate_left 3; intro v1 w1 ho1 hg1 hs1)
          | (at_builtin; refine wpl_app rfl (.tmp 21) (.tmp 22) rfl base _ _ [255] _ _ _ ?_ rfl rfl rfl ho1 ?_ ?_ ?_; rotate_left 3; intro v2 w2 ho2 hg2 hs2))
        · go_roundw
          case rel =>
            refine ⟨k + 1, by omega, by go_num, ?_, HG.out.trans (hg1.trans hg2)⟩
            rw [hts.out, encText_append, HZ.out]
            rw [HZ.out] at ho2
            simpa [encText] using ho2
          case measure => simp [intOf]; omega
        all_goals first | omega | rfl | (simp [bv, hz1]; done) | (simp only [List.length_append, List.length_cons, List.length_nil]; omega)
      · have hz1 : ((s[k].toNat : Int) == 0) = false := by
          have : s[k].toNat ≠ 0 := fun e => hz (UInt8.toNat_inj.1 e)
          rw [beq_eq_false_iff_ne]; omega
        go_wp2_with (first
          | (at_builtin; refine wpl_app rfl (.tmp 11) (.tmp 15) rfl base _ _ [s[k]] _ _ _ ?_ rfl rfl rfl ho ?_ ?_ ?_; rotate_left 3; intro v1 w1 ho1 hg1 hs1))
        · go_roundw
          case rel =>
            refine ⟨k + 1, by omega, by go_num, ?_, HG.out.trans hg1⟩
            rw [hts.out, encText_append]
            simpa [encText, hz] using ho1
          case measure => simp [intOf]; omega
        all_goals first | omega | rfl | (simp [bv, hz1]; done) | (simp only [List.length_append, List.length_cons, List.length_nil]; omega)
    · have hk2 : k = s.size := by omega
      have H2 := Lib.hid (show s.data.toList.take k = s.data.toList from List.take_of_length_le (by simp; omega))
      clear hk2
      go_wp2_with (first
        | (at_builtin; refine wpl_app rfl (.tmp 25) (.tmp 26) rfl base _ _ [0, 1] _ _ _ ?_ rfl rfl rfl ho ?_ ?_ ?_; rotate_left 3; intro v1 w1 ho1 hg1 hs1))
      · go_ret
        rw [H2.out] at ho1
        exact ⟨v1, rfl, ho1, HG.out.trans hg1⟩
      all_goals first | omega | rfl | (simp [bv]; done) | (simp only [List.length_append, List.length_cons, List.length_nil]; omega)
end Go.Proofs.Ytnapadpkfjpklaa
