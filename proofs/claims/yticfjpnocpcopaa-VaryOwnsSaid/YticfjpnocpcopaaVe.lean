/- Layer 2: the document's examples. -/
import Derived.Test.YticfjpnocpcopaaVd
namespace Go.Proofs.Yticfjpnocpcopaa
open Go.RowKit
set_option linter.unusedVariables false

theorem enc300 : ([] : List UInt8) ++ encNs [300] = [172, 2] := by
  show encN 300 ++ [] = _
  rw [encN_ge (by omega), encN_lt (by omega)]; rfl

/-- Numbers that stand in a literal, put behind bytes. -/
theorem put_lit (v : Value) (l : List UInt8) (ns : List Int) (cs : Array Value) (k : Nat) (w : World) (hcs : cs = (ns.map fun n => Value.int .i64 n).toArray) (hk : k = ns.length) (h : RdB w w.heap.size v l) (hl : l.length ≤ 137438953472)
    (hn : ∀ n ∈ ns, n ≤ 9223372036854775807) (hc : ns.length ≤ 1000000) :
    Calls Try.prog 11 #[v, .slice (some ⟨w.heap.size, 0, none⟩) k k] (w.alloc (.cells cs 3)) fun e w' => ∃ v', e = .returned v' ∧ OwnB w' w.heap.size v' (l ++ encNs ns) ∧ Below w.heap.size w w' := by
  refine (vary_put v _ l ns _ (h.on (alloc_below w _)) (RdV.lit w cs _ ns k _ hcs hk (by simp) (by omega)) hl hn hc).mono ?_
  rintro e w' ⟨v', rfl, ho, hb⟩
  exact ⟨v', rfl, ⟨ho.1, ho.2.imp id fun ⟨g, cap, cur, e, hg, h3⟩ => ⟨g, cap, cur, e, by simp at hg; omega, h3⟩⟩, (alloc_below w _).trans (hb.mono (by simp))⟩

set_option maxHeartbeats 400000 in
theorem lives_any (w : World) : Calls Try.prog 14 #[] w fun e w' => e = .returned (.bool true) ∧ Below w.heap.size w w' := by
  go_enter Try.func14, Try.ntmps14
  go_wp2_with fail
  refine (put_lit _ [] [300] _ 1 w rfl rfl (RdB.nil _ _) (by simp) (by simp) (by simp)).mono ?_
  rintro e w1 ⟨v1, rfl, ho1, hb1⟩
  rw [enc300] at ho1
  obtain ⟨A, c, rfl, h1, h2, h3⟩ := ho1.rd
  obtain ⟨b, o, rfl, hb, hc⟩ := h3 (by simp)
  have c0 : w1.cell? ⟨b, o, none⟩ = some (.int .u8 172) := hc 0 172 rfl
  have c1 : w1.cell? ⟨b, o + 1, none⟩ = some (.int .u8 2) := hc 1 2 rfl
  have HB := Lib.hid hb1
  clear hc h3 ho1 hb1
  go_wp2_with (go_at_call 15; refine (vary_turn (-3) _ (by omega) (by omega)).mono ?_; rintro e w2 ⟨rfl, rfl⟩)
  go_ret
  exact ⟨by rw [show turnI (-3) = 5 from rfl]; rfl, HB.out⟩
/-- The first 8 numbers. -/
theorem cut_nums {w : World} {va : Value} {l : List Int} (h : RdI w w.heap.size va l) : ∃ A c K m, RdI w w.heap.size (.slice A K c) m ∧ m.length = K ∧ K ≤ 8 ∧ (∀ n ∈ m, n ∈ l) ∧
    ((l.length ≤ 8 ∧ va = .slice A K c ∧ K = l.length) ∨ (8 < l.length ∧ ∃ A0 c0, va = .slice A0 l.length c0 ∧ ∀ W, (Instr.slice 23 va none (some (.int .i64 8)) none).run Try.prog W = .ok (.slice A K c) W)) := by
  by_cases h8 : 8 < l.length
  · obtain ⟨A, c, h1, h2⟩ := sl_head_i h 8 8 rfl (by omega)
    obtain ⟨A0, c0, e0, _⟩ := h
    exact ⟨A, c, 8, l.take 8, h2, by rw [List.length_take]; omega, Nat.le_refl _, fun n hn => List.mem_of_mem_take hn, .inr ⟨h8, A0, c0, e0, h1⟩⟩
  · have h' := h
    obtain ⟨A0, c0, e0, _⟩ := h
    exact ⟨A0, c0, l.length, l, by rw [← e0]; exact h', rfl, by omega, fun n hn => hn, .inl ⟨by omega, e0, rfl⟩⟩

/-- The first 100 bytes. -/
theorem few_any (v : Value) (l : List UInt8) (w : World) (h : RdB w w.heap.size v l) :
    Calls Try.prog 9 #[v] w fun e w' => ∃ v', e = .returned v' ∧ RdB w w.heap.size v' (l.take 100) ∧ w = w' := by
  have H := Lib.hid h
  by_cases h1 : 100 < l.length
  · obtain ⟨A, c, h2, h3⟩ := sl_head h 100 100 rfl (by omega)
    have H3 := Lib.hid h3
    obtain ⟨A0, c0, rfl, -⟩ := h
    clear h3
    go_enter Try.func9, Try.ntmps9
    go_wp2
    go_ret
    exact ⟨_, rfl, H3.out, rfl⟩
  · have H3 := Lib.hid (show l.take 100 = l from List.take_of_length_le (by omega))
    obtain ⟨A0, c0, rfl, -⟩ := h
    go_enter Try.func9, Try.ntmps9
    go_wp2
    go_ret
    refine ⟨_, rfl, ?_, rfl⟩
    rw [H3.out]
    exact H.out
end Go.Proofs.Yticfjpnocpcopaa
