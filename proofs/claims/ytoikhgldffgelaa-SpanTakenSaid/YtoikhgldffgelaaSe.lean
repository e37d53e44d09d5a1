/- Layer 4: the comparing of lists of pieces, what stands at a time, whether pieces are in order, by the document's answer. -/
import Derived.Test.YtoikhgldffgelaaSd
import Derived.Laws.StructEq
namespace Go.Proofs.Ytoikhgldffgelaa
open Go.RowKit
set_option linter.unusedVariables false

theorem bytes_list (a b : ByteArray) : (a.toList = b.toList) ↔ a = b := by
  constructor
  · intro e
    rw [ByteArray.toList_eq, ByteArray.toList_eq] at e
    obtain ⟨⟨x⟩⟩ := a
    obtain ⟨⟨y⟩⟩ := b
    simp at e
    subst e
    rfl
  · intro e; rw [e]
theorem pc_neq (W : World) (a b : Pc) : (binOp .neq 34 (pcV a) (pcV b)).run Try.prog W = .ok (.bool (!decide (a = b))) W := by
  obtain ⟨⟨a1, a2⟩, a3⟩ := a
  obtain ⟨⟨b1, b2⟩, b3⟩ := b
  unfold pcV
  have h3 := bytes_list a3 b3
  go_simp
  by_cases e1 : a1 = b1 <;> by_cases e2 : a2 = b2 <;> by_cases e3 : a3 = b3 <;> simp [e1, e2, e3]
theorem sp_neq (W : World) (a b : Sp) : (binOp .neq 23 (spV a) (spV b)).run Try.prog W = .ok (.bool (!decide (a = b))) W := by
  obtain ⟨a1, a2⟩ := a
  obtain ⟨b1, b2⟩ := b
  unfold spV
  go_simp
  by_cases e1 : a1 = b1 <;> by_cases e2 : a2 = b2 <;> simp [e1, e2]
theorem sp_eql (W : World) (a b : Sp) : (binOp .eql 23 (spV a) (spV b)).run Try.prog W = .ok (.bool (decide (a = b))) W := by
  obtain ⟨a1, a2⟩ := a
  obtain ⟨b1, b2⟩ := b
  unfold spV
  go_simp
  by_cases e1 : a1 = b1 <;> by_cases e2 : a2 = b2 <;> simp [e1, e2]
theorem pc_guard (W : World) (op : BinOp) (x y : Operand) (a b : Pc) : (eqGuard op 34 x y (pcV a) (pcV b)).run Try.prog W = .ok () W := run_eqGuard_agg W op _ x y _ _ (by kernel_rfl)
theorem sp_guard (W : World) (op : BinOp) (x y : Operand) (a b : Sp) : (eqGuard op 23 x y (spV a) (spV b)).run Try.prog W = .ok () W := run_eqGuard_agg W op _ x y _ _ (by kernel_rfl)

set_option maxHeartbeats 2000000 in
theorem ref_same (va vb : Value) (l m : List Pc) (w : World) (ha : RdPc w w.heap.size va l) (hb : RdPc w w.heap.size vb m) :
    Calls Try.prog 22 #[va, vb] w fun e w' => e = .returned (.bool (decide (l = m))) ∧ Below w.heap.size w w' := by
  have HA := Lib.hid ha
  have HB := Lib.hid hb
  obtain ⟨A, ca, rfl, hla, hca, -⟩ := ha
  obtain ⟨B, cb, rfl, hlb, hcb, -⟩ := hb
  by_cases hlen : l.length = m.length
  · have z0 : ((l.length : Int) != (m.length : Int)) = false := by simp [bne, hlen]
    have HL := Lib.hid hlen
    go_enter Try.func22, Try.ntmps22
    clear hlen
    go_wp2_with fail
    go_loopw [5] (fun i wr => ∃ k : Nat, i = .int .i64 k ∧ k ≤ l.length ∧ l.take k = m.take k ∧ Below w.heap.size w wr) (fun i _ => l.length - (intOf i).toNat)
    case atStart => exact ⟨0, rfl, Nat.zero_le _, rfl, Below.refl _ _⟩
    case round =>
      obtain ⟨k, rfl, hk, ht, hbw⟩ := hrel
      have G := Lib.hid hbw
      have T := Lib.hid ht
      clear hbw ht
      by_cases hlt : k < l.length
      · have hltm : k < m.length := by have := HL.out; omega
        obtain ⟨ba, oa, rfl, hba, ca0, ca1, ca2⟩ := RdPc.here (HA.out.below G.out) k hlt
        obtain ⟨bb, ob, rfl, hbb, cb0, cb1, cb2⟩ := RdPc.here (HB.out.below G.out) k hltm
        have hs1 : l.take (k + 1) = l.take k ++ [l[k]] := List.take_succ_eq_append_getElem hlt
        have hs2 : m.take (k + 1) = m.take k ++ [m[k]] := List.take_succ_eq_append_getElem hltm
        have S1 := Lib.hid hs1
        have S2 := Lib.hid hs2
        have NE := Lib.hid (show l[k] ≠ m[k] → l ≠ m from fun h e => h (by subst e; rfl))
        clear hs1 hs2
        generalize l[k] = p at *
        generalize m[k] = q at *
        have hne := fun W => pc_neq W p q
        unfold pcV at hne
        by_cases hpq : p = q
        · have hdd : (!decide (p = q)) = false := by simp [hpq]
          rw [hdd] at hne
          have PQ := Lib.hid hpq
          clear hpq hdd
          go_wp2_with fail
          go_quiet (fail)
          go_wp2_with fail
          go_roundw
          case rel => exact ⟨k + 1, by go_num, by omega, by rw [S1.out, S2.out, T.out, PQ.out], G.out.drewN _⟩
          case measure => simp [intOf]; omega
        · have hdd : (!decide (p = q)) = true := by simp [hpq]
          rw [hdd] at hne
          have LM := Lib.hid (NE.out hpq)
          clear hpq hdd
          go_wp2_with fail
          go_quiet (fail)
          go_wp2_with fail
          go_ret
          exact ⟨ret_bool (by simp [LM.out]), G.out.drewN _⟩
      · have LM := Lib.hid (show l = m from by
          have h1 : l.take k = l := List.take_of_length_le (by omega)
          have h2 : m.take k = m := List.take_of_length_le (by have := HL.out; omega)
          rw [← h1, T.out, h2])
        go_wp2_with fail
        go_ret
        exact ⟨ret_bool (by simp [LM.out]), G.out⟩
  · have z0 : ((l.length : Int) != (m.length : Int)) = true := by simp [bne]; omega
    have LM := Lib.hid (show l ≠ m from fun e => hlen (by rw [e]))
    clear hlen
    go_enter Try.func22, Try.ntmps22
    go_wp2_with fail
    go_ret
    exact ⟨ret_bool (by simp [LM.out]), Below.refl _ _⟩
end Go.Proofs.Ytoikhgldffgelaa
