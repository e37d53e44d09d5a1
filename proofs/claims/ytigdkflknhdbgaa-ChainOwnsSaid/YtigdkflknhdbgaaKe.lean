/- Layer 13 (the list of layer 12, of slices of versions), the project's: whether a node has a key; the first node from a key on; the one behind; New, Len, Get, Floor. -/
import Derived.Test.YtigdkflknhdbgaaKc
namespace Go.Proofs.Ytigdkflknhdbgaa.Skp
open Go.RowKit
set_option linter.unusedVariables false

def nodeP (M : List Nd) (l : List It) (t : Nat) : Value := if t < l.length then .pointer (some ⟨bN M (t + 1), 0, none⟩) else .pointer none
theorem ix0 (W : World) (b : Nat → Nat) : (Instr.index 85 (.agg (eightV b)) (.int .i64 0)).run Try.prog W = .ok (.pointer (some ⟨b 0, 0, none⟩)) W := by
  unfold eightV
  simp [Instr.index, run_underlying Try.underlying85, asIntOf, go_sem, part, Sem.run_bind]
theorem has_nil (key : ByteArray) (w : World) : Calls Try.prog 47 #[.pointer none, .string key] w fun z w' => z = .returned (.bool false) ∧ w' = w := by
  go_enter Try.func47, Try.ntmps47
  go_wp2_with fail
  go_ret
  exact ⟨rfl, rfl⟩
theorem has_at (b : Nat) (s key : ByteArray) (w : World) (hc : w.cell? ⟨b, 0, none⟩ = some (.string s)) : Calls Try.prog 47 #[.pointer (some ⟨b, 0, none⟩), .string key] w fun z w' => z = .returned (.bool (s.toList == key.toList)) ∧ w' = w := by
  go_enter Try.func47, Try.ntmps47
  go_wp2_with fail
  go_ret
  exact ⟨rfl, rfl⟩
/-- Whether the key is there. -/
theorem p_has (mk : Nat) (M : List Nd) (l : List It) (key : ByteArray) (w : World) (h : SkM mk w M l) :
    Calls Try.prog 47 #[nodeP M l (atI key l), .string key] w fun z w' => z = .returned (.bool (hereI l key)) ∧ w' = w := by
  unfold nodeP
  split
  · rename_i hlt
    rw [here_at rfl hlt]
    exact has_at _ _ _ _ (h.key hlt).1
  · rename_i hlt
    rw [here_none (Nat.le_antisymm (at_le key l) (by omega))]
    exact has_nil _ _
theorem pred_at {mk : Nat} {M : List Nd} {l : List It} {key : ByteArray} {w : World} (h : SkM mk w M l) {pj : Nat → Nat} (hp : ∀ t, t < 8 → PredIs (lvN M) (atI key l + 1) t (pj t)) : pj 0 = atI key l := by
  have := h.pred0 (Nat.succ_le_succ (at_le key l)) (hp 0 (by decide))
  omega
theorem SkM.lv_pos {mk : Nat} {w : World} {M : List Nd} {l : List It} (h : SkM mk w M l) {i : Nat} (hi : i ≤ l.length) : 0 < lvN M i := by
  rcases Nat.eq_zero_or_pos i with rfl | h0
  · rw [h.lv0]; decide
  · obtain ⟨t, rfl⟩ : ∃ t, i = t + 1 := ⟨i - 1, by omega⟩
    exact (h.lev (t := t) (by omega)).2.1
/-- What stands behind node i in the first row. -/
theorem SkM.read0 {mk : Nat} {w : World} {M : List Nd} {l : List It} (h : SkM mk w M l) {i : Nat} (hi : i ≤ l.length) : w.cell? ⟨bN M i, 4, none⟩ = some (nodeP M l i) := by
  have := h.nodes.reads (h.lv_pos hi)
  rw [h.next0 hi] at this
  exact this
theorem p_first (mk : Nat) (M : List Nd) (l : List It) (key : ByteArray) (w : World) (h : SkM mk w M l) :
    Calls Try.prog 46 #[.pointer (some ⟨bN M 0, 0, none⟩), .string key] w fun z w' => z = .returned (nodeP M l (atI key l)) ∧ Below w.heap.size w w' := by
  have HS := Lib.hid h
  have HA := Lib.hid (p_ahead mk M l key w h)
  clear h
  go_enter Try.func46, Try.ntmps46
  go_wp2_with fail
  refine (HA.out).mono ?_
  rintro z w1 ⟨pj, rfl, hp, hb⟩
  have e0 := pred_at HS.out hp
  have hx := fun W => ix0 W fun t => bN M (pj t)
  have c := (HS.out.on hb).read0 (at_le key l)
  rw [← e0] at c
  have E := Lib.hid e0
  have G := Lib.hid hb
  clear hp hb e0
  generalize eightV (fun t => bN M (pj t)) = av at *
  go_wp2_with fail
  go_ret
  exact ⟨by rw [← E.out]; rfl, G.out⟩
theorem p_behind (mk : Nat) (M : List Nd) (l : List It) (t : Nat) (w : World) (h : SkM mk w M l) (ht : t < l.length) :
    Calls Try.prog 49 #[.pointer (some ⟨bN M 0, 0, none⟩), .pointer (some ⟨bN M (t + 1), 0, none⟩)] w fun z w' => z = .returned (nodeP M l (t + 1)) ∧ w' = w := by
  have c2 := (h.key ht).2.2.1
  have c4 := h.read0 (i := t + 1) (by omega)
  have hl : l[t].level ≠ 0 := by have := h.lev ht; omega
  generalize l[t].level = lv at *
  have zl : decide (lv = 0) = false := by rw [decide_eq_false_iff_not]; exact hl
  have zb : (lv == 0) = false := by rw [beq_eq_false_iff_ne]; exact hl
  generalize nodeP M l (t + 1) = np at *
  go_enter Try.func49, Try.ntmps49
  go_wp2_with fail
  go_ret
  exact ⟨rfl, rfl⟩
theorem new_cells : (cellsN 0 0 0 ⟨0, 0, ⟨#[]⟩, .slice none 0 0, List.replicate 8 nilP⟩).toArray = #[.string ⟨#[]⟩, .slice none 0 0, .int .i64 0, .int .i64 0, .pointer none, .pointer none, .pointer none, .pointer none, .pointer none, .pointer none, .pointer none, .pointer none, .int .i64 0, .int .i64 0] := rfl
theorem sk_new (w : World) (b : Nat) (h : Box w b #[.string ⟨#[]⟩, .slice none 0 0, .int .i64 0, .int .i64 0, .pointer none, .pointer none, .pointer none, .pointer none, .pointer none, .pointer none, .pointer none, .pointer none, .int .i64 0, .int .i64 0] 90) :
    SkM 0 w [⟨b, 0, ⟨#[]⟩, .slice none 0 0, List.replicate 8 nilP⟩] [] := by
  refine ⟨⟨fun i x hi => ?_, fun i j x y hi hj _ => ?_⟩, rfl, fun x hx => ?_, fun t x hx => by simp at hx, fun i r hr => ?_, fun i x hi => ?_, List.Pairwise.nil⟩
  · rcases i with _ | i
    · simp only [List.getElem?_cons_zero, Option.some.injEq] at hi
      subst hi
      exact h
    · simp at hi
  · rcases i with _ | i
    · rcases j with _ | j
      · rfl
      · simp at hj
    · simp at hi
  · simp only [List.getElem?_cons_zero, Option.some.injEq] at hx
    subst hx
    exact ⟨rfl, rfl⟩
  · have hi := lvN_pos hr
    simp only [List.length_cons, List.length_nil] at hi
    obtain rfl : i = 0 := by omega
    refine ⟨none, fun t ht => ?_, ?_⟩
    · unfold lvN
      rw [List.getElem?_eq_none (by simp; omega)]
      exact Nat.zero_le _
    · have hr8 : r < 8 := hr
      unfold cN
      simp only [List.getElem?_cons_zero, cO, List.getD_eq_getElem?_getD]
      rw [List.getElem?_replicate, if_pos hr8]
      rfl
  · rcases i with _ | i
    · simp only [List.getElem?_cons_zero, Option.some.injEq] at hi
      subst hi
      exact ⟨by simp, by simp⟩
    · simp at hi
theorem p_new (w : World) : Calls Try.prog 43 #[] w fun z w' => ∃ p S, z = .returned p ∧ SkI 0 w' S p [] ∧ (∀ i, S i → w.heap.size ≤ i) ∧ Below w.heap.size w w' := by
  go_enter Try.func43, Try.ntmps43
  go_wp2_with fail
  go_ret
  refine ⟨_, OwnK [⟨w.heap.size, 0, ⟨#[]⟩, .slice none 0 0, List.replicate 8 nilP⟩], rfl, ⟨0, _, Nat.le_refl _, rfl, sk_new _ _ (Box.new w _ _ _ rfl), fun i => Iff.rfl⟩, fun i hi => ?_, alloc_below w _⟩
  obtain ⟨x, hx, rfl⟩ := hi
  simp only [List.mem_singleton] at hx
  subst hx
  exact Nat.le_refl _
theorem p_get (mk : Nat) (M : List Nd) (l : List It) (key : ByteArray) (w : World) (h : SkM mk w M l) :
    Calls Try.prog 28 #[.pointer (some ⟨bN M 0, 0, none⟩), .string key] w fun z w' => z = .returned (.tuple #[.slice (getI l key).a (getI l key).n (getI l key).c, .bool (hereI l key)]) ∧ Below w.heap.size w w' := by
  have HS := Lib.hid h
  have HF := Lib.hid (p_first mk M l key w h)
  clear h
  go_enter Try.func28, Try.ntmps28
  go_wp2_with fail
  refine (HF.out).mono ?_
  rintro z w1 ⟨rfl, hb⟩
  have H1 := Lib.hid (HS.out.on hb)
  have G := Lib.hid hb
  clear hb HF
  have PH := Lib.hid (p_has mk M l key w1 H1.out)
  cases hh : hereI l key
  · have GI := Lib.hid (show getI l key = ⟨none, 0, 0⟩ from by unfold getI; rw [hh]; rfl)
    rw [hh] at PH
    have HH := Lib.hid hh
    clear hh
    generalize nodeP M l (atI key l) = np at *
    go_wp2_with fail
    refine PH.out.mono ?_
    rintro z w2 ⟨rfl, rfl⟩
    clear PH
    go_wp2_with fail
    go_ret2
    exact ⟨by rw [GI.out, HH.out]; rfl, G.out⟩
  · obtain ⟨hlt, -⟩ := here_lt hh
    have GI := Lib.hid (show getI l key = l[atI key l].v from by unfold getI; rw [hh, if_pos rfl, List.getElem?_eq_getElem hlt])
    rw [hh] at PH
    have HH := Lib.hid hh
    have NP := Lib.hid (show nodeP M l (atI key l) = .pointer (some ⟨bN M (atI key l + 1), 0, none⟩) from if_pos hlt)
    rw [NP.out] at PH
    rw [NP.out]
    have c := (H1.out.key hlt).2.1
    generalize l[atI key l].v = lv at *
    generalize bN M (atI key l + 1) = bb at *
    clear hh hlt
    go_wp2_with fail
    refine PH.out.mono ?_
    rintro z w2 ⟨rfl, rfl⟩
    clear PH
    go_wp2_with fail
    go_ret2
    exact ⟨by rw [GI.out, HH.out]; rfl, G.out⟩
end Go.Proofs.Ytigdkflknhdbgaa.Skp
