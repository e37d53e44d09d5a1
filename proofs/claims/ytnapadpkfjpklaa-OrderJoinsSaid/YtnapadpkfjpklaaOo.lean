/- Layer 1: a tuple's bytes, as the document's answer makes them. -/
import Derived.Test.YtnapadpkfjpklaaOi
namespace Go.Proofs.Ytnapadpkfjpklaa
open Go.RowKit
set_option linter.unusedVariables false

/-- append of bytes that are read to an owned row. -/
theorem wpl_app_rd {W : World} {ops : Array Oper} {rest : List Oper} {o : Oper} {a : Act} {Q : Exit → Act → World → Prop} (hgd : o.guard = none) (s x : Operand)
    (ho : o.op = .call { callee := .builtin .append, args := #[s, x], argTypes := #[24, 24] })
    (base B : Nat) (v u : Value) (l r : List UInt8) (hs : a.eval s = v) (hx : a.eval x = u) (hown : OwnB W base v l) (hrd : RdB W B u r) (hr : 0 < r.length) (hb : base ≤ W.heap.size) (hlen : l.length + r.length ≤ 1099511627776)
    (h : ∀ v' w', OwnB w' base v' (l ++ r) → Grew W w' v v' → W.heap.size ≤ w'.heap.size → wpList Try.prog ops Q rest (a.put o.dst v') w') :
    wpList Try.prog ops Q (o :: rest) a W := by
  obtain ⟨A, c, rfl, _, _, hc⟩ := hrd
  obtain ⟨g, off, rfl, _, hc⟩ := hc hr
  refine wpl_appg_at hgd s x ho Try.underlying24 u8_info rfl (by omega) v l.length (bv l) g off r.length c (bv r) hs hx (by simp [bv]) ?_ (by simp [bv, Value.oneCell']) hown (by omega) (by omega) hb ?_
  · intro j u hu
    simp only [bv, List.getElem?_map, Option.map_eq_some_iff] at hu
    obtain ⟨y, hy, rfl⟩ := hu
    exact hc j y hy
  · intro v' w' h1 h2 h3
    exact h v' w' (by unfold OwnB; rw [bv_append, List.length_append]; exact h1) h2 h3

theorem encPart_text (n : Int) (s : ByteArray) : encPart ⟨true, n, s⟩ = [2] ++ (encText s.data.toList ++ [0, 1]) := rfl
theorem encPart_num (n : Int) (s : ByteArray) : encPart ⟨false, n, s⟩ = [1] ++ encNum n := rfl

set_option maxHeartbeats 800000 in
theorem ref_write (va : Value) (l : List PartD) (w : World) (ha : RdParts w w.heap.size va l) (hok : ∀ p ∈ l, PartOk p) (hn : l.length ≤ 1000) :
    Calls Try.prog 15 #[va] w fun e w' => ∃ v', e = .returned v' ∧ OwnB w' w.heap.size v' (encParts l) ∧ Below w.heap.size w w' := by
  have hA := Lib.hid ha
  obtain ⟨A, ca, rfl, hla, hca, -⟩ := ha
  go_enter Try.func15, Try.ntmps15
  go_wp2
  go_loopw [3, 4] (fun x i wr => ∃ k : Nat, k ≤ l.length ∧ i = .int .i64 k ∧ OwnB wr w.heap.size x (encParts (l.take k)) ∧ Below w.heap.size w wr) (fun _ i _ => l.length - (intOf i).toNat)
  case atStart => exact ⟨0, Nat.zero_le _, rfl, OwnB.nil w _, Below.refl _ _⟩
  case round =>
    obtain ⟨k, hk, rfl, ho, hbw⟩ := hrel
    have hgs := hbw.size
    have HW := Lib.hid hbw
    have HO := Lib.hid ho
    by_cases hlt : k < l.length
    · obtain ⟨A', _, e1, _, _, hra⟩ := hA.out.below hbw
      obtain ⟨ba, oa, rfl, hba, hra⟩ := hra (by omega)
      cases e1
      obtain ⟨a0, a1, a2⟩ := hra k _ (List.getElem?_eq_getElem hlt)
      have hpo := Lib.hid (hok l[k] (List.getElem_mem hlt))
      have hlen := encParts_length (l := l.take k) (fun p hp => hok p (List.mem_of_mem_take hp))
      have htl : (l.take k).length ≤ k := List.length_take_le _ _
      have hlen2 : (encParts (l.take k)).length ≤ 2000003000 := by omega
      have hsn := encParts_snoc hlt
      clear hra hbw ho hlen htl
      generalize hp : l[k] = p at *
      have HP := Lib.hid hp
      have HS := Lib.hid hsn
      clear hp hsn
      obtain ⟨tp, np, sp⟩ := p
      simp only at a0 a1 a2
      cases tp
      · have hel : (encNum np).length = 8 := encNum_length np
        have H3 := Lib.hid (encPart_num np sp)
        go_wp2_with (first
          | (at_builtin; refine wpl_app rfl (.tmp 27) (.tmp 28) rfl w.heap.size u3 (encParts (l.take k)) [1] _ _ _ rfl rfl rfl rfl HO.out ?_ ?_ ?_; rotate_left 2; intro v1 w1 ho1 hg1 hs1
             have hb1 : Below w.heap.size wr w1 := hg1.below (by omega) HO.out.base
             have c1 : w1.cell? ⟨ba, oa + k * 3 + 1, none⟩ = some (.int .i64 np) := (hb1.cell (p := ⟨ba, _, none⟩) hba).trans a1)
          | (go_at_call 29; refine (ref_number _ _ hpo.out.1 hpo.out.2.1).mono ?_; rintro e w2 ⟨v2, rfl, ho2, hb2⟩
             have hs2 := hb2.size
             have ho1' := Lib.hid (ho1.kept (row := none) ⟨hb2.os, hb2.tape, hb2.output, hb2.size, fun i hi _ => hb2.block i hi⟩ (by cases v1.ownBlock <;> simp)))
          | (at_builtin; refine wpl_app_rd rfl (.tmp 30) (.tmp 36) rfl w.heap.size _ v1 v2 _ _ rfl rfl ho1'.out ho2.rd ?_ ?_ ?_ ?_; rotate_left 3; intro v3 w3 ho3 hg3 hs3))
        · have hb3 : Below w.heap.size w w3 := HW.out.trans (hb1.trans ((hb2.mono (by omega)).trans (hg3.below (by omega) (OwnB.base ho1'.out))))
          have HB := Lib.hid hb3
          clear hb3
          go_roundw
          case rel => exact ⟨k + 1, by omega, by go_num, by rw [HS.out, H3.out]; simpa using ho3, HB.out⟩
          case measure => simp [intOf]; omega
        all_goals first | omega | (simp only [List.length_append, List.length_cons, List.length_nil]; omega)
      · have hel : (encText sp.data.toList).length ≤ 2 * sp.size := by have := encText_length sp.data.toList; simpa using this
        have H3 := Lib.hid (encPart_text np sp)
        go_wp2_with (first
          | (at_builtin; refine wpl_app rfl (.tmp 16) (.tmp 17) rfl w.heap.size u3 (encParts (l.take k)) [2] _ _ _ rfl rfl rfl rfl HO.out ?_ ?_ ?_; rotate_left 2; intro v1 w1 ho1 hg1 hs1
             have hb1 : Below w.heap.size wr w1 := hg1.below (by omega) HO.out.base
             have c1 : w1.cell? ⟨ba, oa + k * 3 + 2, none⟩ = some (.string sp) := (hb1.cell (p := ⟨ba, _, none⟩) hba).trans a2)
          | (go_at_call 28; refine (ref_text _ _ (by have := hpo.out.2.2; simp at this; omega)).mono ?_; rintro e w2 ⟨v2, rfl, ho2, hb2⟩
             have hs2 := hb2.size
             have ho1' := Lib.hid (ho1.kept (row := none) ⟨hb2.os, hb2.tape, hb2.output, hb2.size, fun i hi _ => hb2.block i hi⟩ (by cases v1.ownBlock <;> simp)))
          | (at_builtin; refine wpl_app_rd rfl (.tmp 19) (.tmp 25) rfl w.heap.size _ v1 v2 _ _ rfl rfl ho1'.out ho2.rd ?_ ?_ ?_ ?_; rotate_left 3; intro v3 w3 ho3 hg3 hs3))
        · have hb3 : Below w.heap.size w w3 := HW.out.trans (hb1.trans ((hb2.mono (by omega)).trans (hg3.below (by omega) (OwnB.base ho1'.out))))
          have HB := Lib.hid hb3
          clear hb3
          go_roundw
          case rel => exact ⟨k + 1, by omega, by go_num, by rw [HS.out, H3.out]; simpa using ho3, HB.out⟩
          case measure => simp [intOf]; omega
        all_goals first | omega | (simp only [List.length_append, List.length_cons, List.length_nil]; have := hpo.out.2.2; simp at this; omega)
    · have hk2 : k = l.length := by omega
      have H2 := Lib.hid (show l.take k = l from List.take_of_length_le (by omega))
      clear hk2 ho hbw
      go_wp2
      go_ret
      exact ⟨_, rfl, by have := HO.out; rw [H2.out] at this; exact this, HW.out⟩
end Go.Proofs.Ytnapadpkfjpklaa
