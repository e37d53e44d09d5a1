/- Layer 4: what is left of a span, by the document's answer. -/
import Derived.Test.YtlpakooogbaclaaSc
import Derived.Test.YtlpakooogbaclaaBE
import Derived.Test.YtlpakooogbaclaaBapp
import Derived.Laws.StructEq
import Derived.BigQuiet
namespace Go.Proofs.Ytlpakooogbaclaa
open Go.RowKit
set_option linter.unusedVariables false

end Go.Proofs.Ytlpakooogbaclaa
/- Layer 4: the comparing of lists of pieces, what stands at a time, whether pieces are in order, by the document's answer. -/
namespace Go.Proofs.Ytlpakooogbaclaa
open Go.RowKit
set_option linter.unusedVariables false

theorem bytes_list (a b : ByteArray) : (a.toList = b.toList) ↔ a = b := by
  constructor
  · intro e
    rw [ByteArray.toList_eq, ByteArray.toList_eq] at e
    obtain ⟨⟨x⟩⟩ := a
    obtain ⟨⟨y⟩⟩ := b
    simp at e
    subst e
    rfl
  · intro e; rw [e]
theorem pc_neq (W : World) (a b : Pc) : (binOp .neq 48 (pcV a) (pcV b)).run Try.prog W = .ok (.bool (!decide (a = b))) W := by
  obtain ⟨⟨a1, a2⟩, a3⟩ := a
  obtain ⟨⟨b1, b2⟩, b3⟩ := b
  unfold pcV
  have h3 := bytes_list a3 b3
  go_simp
  by_cases e1 : a1 = b1 <;> by_cases e2 : a2 = b2 <;> by_cases e3 : a3 = b3 <;> simp [e1, e2, e3]
theorem sp_neq (W : World) (a b : Sp) : (binOp .neq 46 (spV a) (spV b)).run Try.prog W = .ok (.bool (!decide (a = b))) W := by
  obtain ⟨a1, a2⟩ := a
  obtain ⟨b1, b2⟩ := b
  unfold spV
  go_simp
  by_cases e1 : a1 = b1 <;> by_cases e2 : a2 = b2 <;> simp [e1, e2]
theorem sp_eql (W : World) (a b : Sp) : (binOp .eql 46 (spV a) (spV b)).run Try.prog W = .ok (.bool (decide (a = b))) W := by
  obtain ⟨a1, a2⟩ := a
  obtain ⟨b1, b2⟩ := b
  unfold spV
  go_simp
  by_cases e1 : a1 = b1 <;> by_cases e2 : a2 = b2 <;> simp [e1, e2]
theorem pc_guard (W : World) (op : BinOp) (x y : Operand) (a b : Pc) : (eqGuard op 48 x y (pcV a) (pcV b)).run Try.prog W = .ok () W := run_eqGuard_agg W op _ x y _ _ (by kernel_rfl)
theorem sp_guard (W : World) (op : BinOp) (x y : Operand) (a b : Sp) : (eqGuard op 46 x y (spV a) (spV b)).run Try.prog W = .ok () W := run_eqGuard_agg W op _ x y _ _ (by kernel_rfl)

set_option maxHeartbeats 2000000 in
theorem ref_same (va vb : Value) (l m : List Pc) (w : World) (ha : RdPc w w.heap.size va l) (hb : RdPc w w.heap.size vb m) :
    Calls Try.prog 17 #[va, vb] w fun e w' => e = .returned (.bool (decide (l = m))) ∧ Below w.heap.size w w' := by
  have HA := Lib.hid ha
  have HB := Lib.hid hb
  obtain ⟨A, ca, rfl, hla, hca, -⟩ := ha
  obtain ⟨B, cb, rfl, hlb, hcb, -⟩ := hb
  by_cases hlen : l.length = m.length
  · have z0 : ((l.length : Int) != (m.length : Int)) = false := by simp [bne, hlen]
    have HL := Lib.hid hlen
    go_enter Try.func17, Try.ntmps17
    clear hlen
    go_wp2_with fail
    go_loopw [5] (fun i wr => ∃ k : Nat, i = .int .i64 k ∧ k ≤ l.length ∧ l.take k = m.take k ∧ Below w.heap.size w wr) (fun i _ => l.length - (intOf i).toNat)
    case atStart => exact ⟨0, rfl, Nat.zero_le _, rfl, Below.refl _ _⟩
    case round =>
      obtain ⟨k, rfl, hk, ht, hbw⟩ := hrel
      have G := Lib.hid hbw
      have T := Lib.hid ht
      clear hbw ht
      by_cases hlt : k < l.length
      · have hltm : k < m.length := by have := HL.out; omega
        obtain ⟨ba, oa, rfl, hba, ca0, ca1, ca2⟩ := RdPc.here (HA.out.below G.out) k hlt
        obtain ⟨bb, ob, rfl, hbb, cb0, cb1, cb2⟩ := RdPc.here (HB.out.below G.out) k hltm
        have hs1 : l.take (k + 1) = l.take k ++ [l[k]] := List.take_succ_eq_append_getElem hlt
        have hs2 : m.take (k + 1) = m.take k ++ [m[k]] := List.take_succ_eq_append_getElem hltm
        have S1 := Lib.hid hs1
        have S2 := Lib.hid hs2
        have NE := Lib.hid (show l[k] ≠ m[k] → l ≠ m from fun h e => h (by subst e; rfl))
        clear hs1 hs2
        generalize l[k] = p at *
        generalize m[k] = q at *
        have hne := fun W => pc_neq W p q
        unfold pcV at hne
        by_cases hpq : p = q
        · have hdd : (!decide (p = q)) = false := by simp [hpq]
          rw [hdd] at hne
          have PQ := Lib.hid hpq
          clear hpq hdd
          go_wp2_with fail
          go_quiet (fail)
          go_wp2_with fail
          go_roundw
          case rel => exact ⟨k + 1, by go_num, by omega, by rw [S1.out, S2.out, T.out, PQ.out], G.out.drewN _⟩
          case measure => simp [intOf]; omega
        · have hdd : (!decide (p = q)) = true := by simp [hpq]
          rw [hdd] at hne
          have LM := Lib.hid (NE.out hpq)
          clear hpq hdd
          go_wp2_with fail
          go_quiet (fail)
          go_wp2_with fail
          go_ret
          exact ⟨ret_bool (by simp [LM.out]), G.out.drewN _⟩
      · have LM := Lib.hid (show l = m from by
          have h1 : l.take k = l := List.take_of_length_le (by omega)
          have h2 : m.take k = m := List.take_of_length_le (by have := HL.out; omega)
          rw [← h1, T.out, h2])
        go_wp2_with fail
        go_ret
        exact ⟨ret_bool (by simp [LM.out]), G.out⟩
  · have z0 : ((l.length : Int) != (m.length : Int)) = true := by simp [bne]; omega
    have LM := Lib.hid (show l ≠ m from fun e => hlen (by rw [e]))
    clear hlen
    go_enter Try.func17, Try.ntmps17
    go_wp2_with fail
    go_ret
    exact ⟨ret_bool (by simp [LM.out]), Below.refl _ _⟩
end Go.Proofs.Ytlpakooogbaclaa
/- Layer 4: what stands at a time, and whether pieces are in order, by the document's answer. -/
namespace Go.Proofs.Ytlpakooogbaclaa
open Go.RowKit
set_option linter.unusedVariables false


theorem ord_cons2 (p q : Pc) (r : List Pc) : ordB (p :: q :: r) = (mayB p.1 && decide (p.1.2 ≤ q.1.1) && ordB (q :: r)) := rfl
theorem ord_may (p : Pc) (r : List Pc) (h : mayB p.1 = false) : ordB (p :: r) = false := by
  cases r with
  | nil => simp [ordB, h]
  | cons q r => rw [ord_cons2, h]; rfl

set_option maxHeartbeats 2000000 in
theorem ref_ordered (v : Value) (l : List Pc) (w : World) (h : RdPc w w.heap.size v l) :
    Calls Try.prog 27 #[v] w fun e w' => e = .returned (.bool (ordB l)) ∧ Below w.heap.size w w' := by
  have H := Lib.hid h
  obtain ⟨A, c, rfl, hlc, hc, -⟩ := h
  go_enter Try.func27, Try.ntmps27
  go_wp2_with fail
  go_loopw [3] (fun i wr => ∃ k : Nat, i = .int .i64 k ∧ k ≤ l.length ∧ (k = 0 ∨ ∃ j, k = j + 1 ∧ ∃ hj : j < l.length, mayB l[j].1 = true ∧ ordB l = ordB (l.drop j)) ∧ Below w.heap.size w wr) (fun i _ => l.length - (intOf i).toNat)
  case atStart => exact ⟨0, rfl, Nat.zero_le _, .inl rfl, Below.refl _ _⟩
  case round =>
    obtain ⟨k, rfl, hk, ht, hb⟩ := hrel
    have G := Lib.hid hb
    clear hb
    by_cases hlt : k < l.length
    · obtain ⟨ba, oa, rfl, hba, c0, c1, c2⟩ := RdPc.here (H.out.below G.out) k hlt
      have hba2 : ba < wr.heap.size := by have := G.out.size; omega
      have hdk := Lib.hid (List.drop_eq_getElem_cons hlt)
      have HLT := Lib.hid (show ∀ p, p = l[k] → mayB p.1 = true → ordB l = ordB (l.drop k) → (k + 1 = 0 ∨ ∃ j, k + 1 = j + 1 ∧ ∃ hj : j < l.length, mayB l[j].1 = true ∧ ordB l = ordB (l.drop j)) from fun p e h1 h2 => .inr ⟨k, rfl, hlt, by rw [← e]; exact h1, h2⟩)
      obtain ⟨p, hp⟩ : ∃ p, p = l[k] := ⟨_, rfl⟩
      rw [← hp] at c0 c1 hdk
      have P0 := Lib.hid hp
      clear hp c2
      rcases ht with rfl | ⟨j, rfl, hj, hm, ht⟩
      · rw [Nat.zero_mul, Nat.add_zero] at c0 c1
        have T := Lib.hid (show ordB l = ordB (p :: l.drop 1) from by have := hdk.out; simp only [List.drop_zero] at this; rw [← this])
        obtain ⟨⟨p1, p2⟩, p3⟩ := p
        have HH := Lib.hid (ref_may (p1, p2) wr)
        unfold spV at HH
        go_wp2_with fail
        refine HH.out.mono ?_
        rintro e w1 ⟨rfl, hb1⟩
        have G1 := Lib.hid (G.out.trans (hb1.mono G.out.size))
        clear c0 c1 hb1 hdk
        cases hh : mayB (p1, p2)
        · have T2 := Lib.hid (show ordB l = false from by rw [T.out]; exact ord_may _ _ hh)
          clear hh T HLT
          go_wp2_with fail
          go_quiet (fail)
          go_wp2_with fail
          go_ret
          exact ⟨ret_bool T2.out.symm, G1.out.drewN _⟩
        · have T2 := Lib.hid (HLT.out _ P0.out hh (by simp))
          clear hh T HLT
          go_wp2_with fail
          go_quiet (fail)
          go_wp2_with fail
          go_roundw
          case rel => exact ⟨1, by go_num, by omega, T2.out, G1.out.drewN _⟩
          case measure => simp [intOf]; omega
      · obtain ⟨ba', oa', e1, -, -, c4, -⟩ := RdPc.here (H.out.below G.out) j hj
        cases e1
        have hdj := List.drop_eq_getElem_cons hj
        generalize l[j] = q at *
        have HQ := Lib.hid hm
        have T := Lib.hid (show ordB l = (decide (q.1.2 ≤ p.1.1) && ordB (l.drop (j + 1))) from by rw [ht, hdj, hdk.out, ord_cons2, hm]; rfl)
        have T1 := Lib.hid (show mayB p.1 = false → ordB l = false from fun h => by rw [T.out, hdk.out, ord_may _ _ h]; simp)
        clear hdj hm ht
        obtain ⟨⟨p1, p2⟩, p3⟩ := p
        obtain ⟨⟨q1, q2⟩, q3⟩ := q
        have HH := Lib.hid (ref_may (p1, p2) wr)
        unfold spV at HH
        go_wp2_with fail
        refine HH.out.mono ?_
        rintro e w1 ⟨rfl, hb1⟩
        have c0 := (hb1.cell (p := ⟨ba, oa + (j + 1) * 3, none⟩) hba2).trans c0
        have c4 := (hb1.cell (p := ⟨ba, oa + j * 3 + 1, none⟩) hba2).trans c4
        have G1 := Lib.hid (G.out.trans (hb1.mono G.out.size))
        clear c1 hb1 hdk
        cases hh : mayB (p1, p2)
        · have T2 := Lib.hid (T1.out hh)
          clear hh T T1 HLT
          go_wp2_with fail
          go_quiet (fail)
          go_wp2_with fail
          go_ret
          exact ⟨ret_bool T2.out.symm, G1.out.drewN _⟩
        · by_cases hle : q2 ≤ p1
          · have T2 := Lib.hid (HLT.out _ P0.out hh (by rw [T.out]; simp [hle]))
            have hd : decide ((p1 : Int) < q2) = false := by simp; omega
            clear hh T T1 HLT
            go_wp2_with fail
            go_quiet (fail)
            go_wp2_with fail
            go_roundw
            case rel => exact ⟨j + 1 + 1, by go_num, by omega, T2.out, G1.out.drewN _⟩
            case measure => simp [intOf]; omega
          · have T2 := Lib.hid (show ordB l = false from by rw [T.out]; simp [hle])
            have hd : decide ((p1 : Int) < q2) = true := by simp; omega
            clear hh T T1 HLT
            go_wp2_with fail
            go_quiet (fail)
            go_wp2_with fail
            go_ret
            exact ⟨ret_bool T2.out.symm, G1.out.drewN _⟩
    · have T := Lib.hid (show ordB l = true from by
        rcases ht with rfl | ⟨j, rfl, hj, hm, ht⟩
        · have : l = [] := List.eq_nil_of_length_eq_zero (by omega)
          subst this; rfl
        · rw [ht, List.drop_eq_getElem_cons hj, List.drop_eq_nil_iff.2 (by omega)]; exact hm)
      clear ht
      go_wp2_with fail
      go_ret
      exact ⟨ret_bool T.out.symm, G.out⟩
end Go.Proofs.Ytlpakooogbaclaa
/- Layer 4: pieces without a span, by the document's answer. -/
namespace Go.Proofs.Ytlpakooogbaclaa
open Go.RowKit
set_option linter.unusedVariables false

def cutF (s : Sp) (p : Pc) : List Pc := (minusF p.1 s).map fun m => (m, p.2)
theorem without_pos {l : List Pc} {s : Sp} (h : mayB s = true) : withoutF l s = l.flatMap (cutF s) := if_pos h
theorem without_neg {l : List Pc} {s : Sp} (h : mayB s = false) : withoutF l s = l := if_neg (by simp [h])
theorem flat_snoc (l : List Pc) (s : Sp) (k : Nat) (h : k < l.length) : (l.take (k + 1)).flatMap (cutF s) = (l.take k).flatMap (cutF s) ++ cutF s l[k] := by
  rw [List.take_succ_eq_append_getElem h, List.flatMap_append]; simp
theorem cut_len (l : List Pc) (s : Sp) : (l.flatMap (cutF s)).length ≤ 2 * l.length := by
  induction l with
  | nil => simp
  | cons p l ih =>
    rw [List.flatMap_cons, List.length_append, List.length_cons]
    have : (cutF s p).length ≤ 2 := by unfold cutF; rw [List.length_map]; exact minus_len _ _
    omega

end Go.Proofs.Ytlpakooogbaclaa
/- Layer 4: pieces with one over them, by the document's answer. -/
namespace Go.Proofs.Ytlpakooogbaclaa
open Go.RowKit
set_option linter.unusedVariables false

theorem ins_cons (q : Pc) (r : List Pc) (p : Pc) : insF (q :: r) p = if q.1.1 ≥ p.1.2 then p :: q :: r else q :: insF r p := rfl

end Go.Proofs.Ytlpakooogbaclaa
/- Layer 4: pieces that others make, by the document's answer. -/
namespace Go.Proofs.Ytlpakooogbaclaa
open Go.RowKit
set_option linter.unusedVariables false

def madeK (l : List Pc) (k : Nat) : List Pc := (l.take k).foldl (fun o p => overF o (cutP p)) []
theorem made_snoc (l : List Pc) (k : Nat) (h : k < l.length) : madeK l (k + 1) = overF (madeK l k) (cutP l[k]) := by
  unfold madeK; rw [List.take_succ_eq_append_getElem h, List.foldl_append]; rfl
theorem made_small (l : List Pc) (k : Nat) : k ≤ 8 → (madeK l k).length ≤ 255 := by
  have : ∀ (k : Nat) (m : List Pc) (o : List Pc), m.length ≤ k → (m.foldl (fun o p => overF o (cutP p)) o).length + 1 ≤ 2 ^ k * (o.length + 1) := by
    intro k
    induction k with
    | zero => intro m o h; have : m = [] := List.eq_nil_of_length_eq_zero (by omega); subst this; simp
    | succ k ih =>
      intro m o h
      cases m with
      | nil =>
        have : 0 < 2 ^ (k + 1) := Nat.two_pow_pos _
        have := Nat.mul_le_mul_right (o.length + 1) this
        simp at this ⊢; omega
      | cons p m =>
        have h1 := ih m (overF o (cutP p)) (by simpa using h)
        have h2 := over_len o (cutP p)
        have h3 := Nat.mul_le_mul_left (2 ^ k) (show (overF o (cutP p)).length + 1 ≤ 2 * (o.length + 1) from by omega)
        rw [← Nat.mul_assoc, ← Nat.pow_succ, Nat.succ_eq_add_one] at h3
        rw [List.foldl_cons]
        omega
  intro h
  have h1 := this k (l.take k) [] (by rw [List.length_take]; omega)
  have h2 := Nat.pow_le_pow_right (show 0 < 2 from by omega) h
  simp only [List.length_nil] at h1
  unfold madeK
  omega

end Go.Proofs.Ytlpakooogbaclaa
