/- Layer 1: steps of a region whose order is open: an append of a literal, a call by its contract. -/
import Derived.Test.YtnapadpkfjpklaaOg
import Derived.Test.YtnapadpkfjpklaaOc
import Derived.Deep.RegionLaw
namespace Go.Proofs.Ytnapadpkfjpklaa
open Go.RowKit
set_option linter.unusedVariables false

theorem step_app {W : World} {ops : Array Oper} {o : Oper} {a : Act} {K : Act → World → Prop} {Q : Exit → Act → World → Prop} {E : Prop} (hgd : o.guard = none) (s x : Operand)
    (ho : o.op = .call { callee := .builtin .append, args := #[s, x], argTypes := #[24, 24] })
    (base : Nat) (v : Value) (l r : List UInt8) (g m c : Nat) (hs : a.eval s = v) (hx : a.eval x = .slice (some ⟨g, 0, none⟩) m c) (hblk : W.heap[g]? = some (.cells (bv r).toArray 5 (0, 0))) (hm : m = r.length)
    (hown : OwnB W base v l) (hb : base ≤ W.heap.size) (hlen : l.length + r.length ≤ 1099511627776)
    (h : ∀ v' w', OwnB w' base v' (l ++ r) → Grew W w' v v' → W.heap.size ≤ w'.heap.size → K (a.put o.dst v') w') :
    if Region.wanted o (yielded ops a.tmps) = true then Oper.wp Try.prog o a W K Q else E := by
  obtain ⟨i, hi, hz, hsz, hby⟩ := info_parts u8_info
  subst hm
  have hcell : ∀ j u, (bv r)[j]? = some u → W.cell? ((⟨g, 0, none⟩ : Addr).add j) = some u := by
    intro j u hu
    have hadd : (⟨g, 0, none⟩ : Addr).add j = ⟨g, j, none⟩ := by unfold Addr.add; split <;> simp_all
    rw [hadd, cell_of_row _ _ j _ _ (0, 0) hblk]
    simpa using hu
  obtain ⟨v', w', hrun, h2, h3, -, h4⟩ := run_append_own_at (P := Try.prog) W base 24 o.type 5 i (.int .u8 0) 1 1 Try.underlying24 hi hz hsz hby rfl (by omega)
    v l.length (bv l) hown ⟨g, 0, none⟩ r.length c (bv r) (by simp [bv]) hcell (by simp [bv, Value.oneCell']) (by simp only [maxLen]; omega) (by omega) hb
  have hg : Grew W w' v v' := ⟨h3, h4.imp id fun e => ⟨_, e, Nat.le_refl _⟩⟩
  have hw : Region.wanted o (yielded ops a.tmps) = true := by simp [Region.wanted, hgd]
  rw [if_pos hw]
  unfold Oper.wp execOp
  simp only [ho, resolve, invoke, builtin, Sem.run_bind, Sem.run_pure, Result.andThen_ok, List.map_toArray, List.map_cons, List.map_nil, hs, hx, hrun]
  exact h v' w' (by unfold OwnB; rw [bv_append, List.length_append]; exact h2) hg hg.grown.size

theorem call_putText (args : Array Value) (w : World) : (callFunc 25 args).run Try.prog w = .ok (.enter 25 args) w := by kernel_rfl
theorem call_putNumber (args : Array Value) (w : World) : (callFunc 26 args).run Try.prog w = .ok (.enter 26 args) w := by kernel_rfl

def encPart (p : PartD) : List UInt8 := if p.isText then 2 :: (encText p.text.data.toList ++ [0, 1]) else 1 :: encNum p.num
def encParts (l : List PartD) : List UInt8 := l.flatMap encPart

/-- A part that can be: its number fits; its text is not too great. -/
def PartOk (p : PartD) : Prop := -9223372036854775808 ≤ p.num ∧ p.num ≤ 9223372036854775807 ∧ p.text.size ≤ 1000000

theorem encPart_length {p : PartD} (h : PartOk p) : (encPart p).length ≤ 2000003 := by
  obtain ⟨_, _, h⟩ := h
  unfold encPart
  split
  · have := encText_length p.text.data.toList
    have : p.text.data.toList.length = p.text.size := by simp
    simp; omega
  · simp [encNum]
theorem encParts_length {l : List PartD} (h : ∀ p ∈ l, PartOk p) : (encParts l).length ≤ 2000003 * l.length := by
  induction l with
  | nil => simp [encParts]
  | cons p l ih =>
    have h1 := encPart_length (h p (by simp))
    have h2 := ih (fun q hq => h q (by simp [hq]))
    simp only [encParts, List.flatMap_cons, List.length_append, List.length_cons] at *
    omega

theorem encParts_snoc {l : List PartD} {k : Nat} (h : k < l.length) : encParts (l.take (k + 1)) = encParts (l.take k) ++ encPart l[k] := by
  unfold encParts; rw [List.take_succ_eq_append_getElem h, List.flatMap_append, List.flatMap_singleton]

set_option maxHeartbeats 800000 in
theorem order_write (va : Value) (l : List PartD) (w : World) (ha : RdParts w w.heap.size va l) (hok : ∀ p ∈ l, PartOk p) (hn : l.length ≤ 1000) :
    Calls Try.prog 12 #[va] w fun e w' => ∃ v', e = .returned v' ∧ OwnB w' w.heap.size v' (encParts l) ∧ Below w.heap.size w w' := by
  have hA := Lib.hid ha
  obtain ⟨A, ca, rfl, hla, hca, -⟩ := ha
  go_enter Try.func12, Try.ntmps12
  go_wp2
  go_loopw [3, 8] (fun x i wr => ∃ k : Nat, k ≤ l.length ∧ i = .int .i64 k ∧ OwnB wr w.heap.size x (encParts (l.take k)) ∧ Below w.heap.size w wr) (fun _ i _ => l.length - (intOf i).toNat)
  case atStart => exact ⟨0, Nat.zero_le _, rfl, OwnB.nil w _, Below.refl _ _⟩
  case round =>
    obtain ⟨k, hk, rfl, ho, hbw⟩ := hrel
    have hgs := hbw.size
    have HW := Lib.hid hbw
    have HO := Lib.hid ho
    by_cases hlt : k < l.length
    · obtain ⟨A', _, e1, _, _, hra⟩ := hA.out.below hbw
      obtain ⟨ba, oa, rfl, hba, hra⟩ := hra (by omega)
      cases e1
      obtain ⟨a0, a1, a2⟩ := hra k _ (List.getElem?_eq_getElem hlt)
      have hpo := Lib.hid (hok l[k] (List.getElem_mem hlt))
      have hlen := encParts_length (l := l.take k) (fun p hp => hok p (List.mem_of_mem_take hp))
      have htl : (l.take k).length ≤ k := List.length_take_le _ _
      have hlen2 : (encParts (l.take k)).length ≤ 2000003000 := by omega
      clear hra hbw ho hlen htl
      generalize hp : l[k] = p at *
      have HP := Lib.hid hp
      clear hp
      obtain ⟨tp, np, sp⟩ := p
      simp only at a0 a1 a2
      cases tp
      · have hsn := encParts_snoc hlt
        rw [HP.out] at hsn
        have HS := Lib.hid hsn
        clear hsn
        go_wp2_with fail
        go_region_law (first
          | (refine step_app rfl (.tmp 20) (.tmp 21) rfl w.heap.size u3 (encParts (l.take k)) [1] (wr.heap.size + 1) 1 1 (by simp [Act.eval, Act.put]) (by simp [Act.eval, Act.put]) (blk_new _ _ _ (by simp)) rfl (by exact (HO.out.alloc _).alloc _) (by simp; omega) (by simp; omega) ?_
             intro v1 w1 ho1 hg1 hs1
             have hc1 : w1.cell? ⟨wr.heap.size, 1, none⟩ = some (.int .i64 np) := hg1.grown.cell (by go_simp) (fun e => absurd (HO.out.lt _ e.symm).2 (Nat.lt_irrefl _)))
          | (refine step_call rfl 26 (#[.tmp 22, .tmp 24]) (#[24, 3]) rfl #[v1, (.int .i64 np)] (by simp [Act.eval, Act.put]) call_putNumber ?_
             refine (put_number _ _ _ _ _ ho1 (by simp at *; omega) (by simp; omega) hpo.out.1 hpo.out.2.1).mono ?_
             rintro e w2 ⟨v2, rfl, ho2, hg2⟩
             refine ⟨v2, rfl, ?_⟩))
        all_goals
          have hb1 : Below w.heap.size w w2 := (((HW.out.alloc (by omega) _).drew.alloc (by simp; omega) _).trans (hg1.below (by simp; omega) HO.out.base)).trans (hg2.below (by simp at hs1; omega) ho1.base)
          have HB := Lib.hid hb1
          clear hb1
          go_wp2
          go_roundw
          case rel => exact ⟨k + 1, by omega, by go_num, by rw [HS.out]; simpa [encPart] using ho2, HB.out⟩
          case measure => simp [intOf]; omega
      · have hsn := encParts_snoc hlt
        rw [HP.out] at hsn
        have HS := Lib.hid hsn
        clear hsn
        go_wp2_with fail
        go_region_law (first
          | (refine step_app rfl (.tmp 14) (.tmp 15) rfl w.heap.size u3 (encParts (l.take k)) [2] (wr.heap.size + 1) 1 1 (by simp [Act.eval, Act.put]) (by simp [Act.eval, Act.put]) (blk_new _ _ _ (by simp)) rfl (by exact (HO.out.alloc _).alloc _) (by simp; omega) (by simp; omega) ?_
             intro v1 w1 ho1 hg1 hs1
             have hc1 : w1.cell? ⟨wr.heap.size, 2, none⟩ = some (.string sp) := hg1.grown.cell (by go_simp) (fun e => absurd (HO.out.lt _ e.symm).2 (Nat.lt_irrefl _)))
          | (refine step_call rfl 25 (#[.tmp 16, .tmp 18]) (#[24, 9]) rfl #[v1, (.string sp)] (by simp [Act.eval, Act.put]) call_putText ?_
             refine (put_text _ _ _ _ _ ho1 (by simp at *; omega) (by simp; omega) (by have := hpo.out.2.2; simp at this; omega)).mono ?_
             rintro e w2 ⟨v2, rfl, ho2, hg2⟩
             refine ⟨v2, rfl, ?_⟩))
        all_goals
          have hb1 : Below w.heap.size w w2 := (((HW.out.alloc (by omega) _).drew.alloc (by simp; omega) _).trans (hg1.below (by simp; omega) HO.out.base)).trans (hg2.below (by simp at hs1; omega) ho1.base)
          have HB := Lib.hid hb1
          clear hb1
          go_wp2
          go_roundw
          case rel => exact ⟨k + 1, by omega, by go_num, by rw [HS.out]; simpa [encPart] using ho2, HB.out⟩
          case measure => simp [intOf]; omega
    · have hk2 : k = l.length := by omega
      have H2 := Lib.hid (show l.take k = l from List.take_of_length_le (by omega))
      clear hk2 ho hbw
      go_wp2
      go_ret
      exact ⟨_, rfl, by have := HO.out; rw [H2.out] at this; exact this, HW.out⟩
end Go.Proofs.Ytnapadpkfjpklaa
