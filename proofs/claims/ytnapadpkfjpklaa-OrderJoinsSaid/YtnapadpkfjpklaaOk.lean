/- Layer 1: the cutting of a tuple, and whether two are the same. -/
import Derived.Test.YtnapadpkfjpklaaOj
namespace Go.Proofs.Ytnapadpkfjpklaa
open Go.RowKit
set_option linter.unusedVariables false

def pcells (l : List PartD) : List Value := l.flatMap PartD.cells
theorem pcells_length (l : List PartD) : (pcells l).length = l.length * 3 := by
  induction l with
  | nil => rfl
  | cons p l ih => simp only [pcells, List.flatMap_cons, List.length_append, List.length_cons, PartD.cells, List.length_nil] at *; omega
theorem pcells_append (l m : List PartD) : pcells (l ++ m) = pcells l ++ pcells m := by simp [pcells]
theorem pcells_at (l : List PartD) (k : Nat) (p : PartD) (h : l[k]? = some p) :
    (pcells l)[k * 3]? = some (.bool p.isText) ∧ (pcells l)[k * 3 + 1]? = some (.int .i64 p.num) ∧ (pcells l)[k * 3 + 2]? = some (.string p.text) := by
  induction l generalizing k with
  | nil => simp at h
  | cons q l ih =>
    have hc : pcells (q :: l) = .bool q.isText :: .int .i64 q.num :: .string q.text :: pcells l := by simp [pcells, PartD.cells]
    rw [hc]
    cases k with
    | zero => simp at h; subst h; simp
    | succ k =>
      have := ih k (by simpa using h)
      rw [show (k + 1) * 3 = k * 3 + 3 from by omega]
      simpa using this

/-- v is a row of parts, from block base on, that reads as l. -/
def OwnP (w : World) (base : Nat) (v : Value) (l : List PartD) : Prop := w.ownsRow base 43 3 v l.length (pcells l)
theorem OwnP.nil (w : World) (base : Nat) : OwnP w base (.slice none 0 0) [] := World.ownsRow_nil w base _ 3
theorem OwnP.base {w : World} {base : Nat} {v : Value} {l : List PartD} (h : OwnP w base v l) : ∀ k, v.ownBlock = some k → base ≤ k := fun k hk => (h.lt k hk).1

theorem OwnP.rd {w : World} {base : Nat} {v : Value} {l : List PartD} (h : OwnP w base v l) : RdParts w w.heap.size v l := by
  rcases h.2 with ⟨rfl, hn⟩ | ⟨g, cap, cur, rfl, hb, hg, hnc, hcm, hcs, htake⟩
  · have : l = [] := List.eq_nil_of_length_eq_zero hn
    subst this
    exact rd_none _ _
  · refine ⟨_, cap, rfl, hnc, by simpa [maxLen] using hcm, fun hp => ⟨g, 0, rfl, (Array.getElem?_eq_some_iff.1 hg).1, fun k p hk => ?_⟩⟩
    have hkl : k < l.length := (List.getElem?_eq_some_iff.1 hk).1
    have hc : ∀ j u, (pcells l)[j]? = some u → j < l.length * 3 → w.cell? ⟨g, 0 + j, none⟩ = some u := by
      intro j u hj hlt
      rw [Nat.zero_add, cell_of_row _ _ _ _ _ (0, 0) hg]
      rw [← htake, List.getElem?_take, if_pos (by omega)] at hj
      simpa using hj
    obtain ⟨h0, h1, h2⟩ := pcells_at l k p hk
    exact ⟨hc _ _ h0 (by omega), hc _ _ h1 (by omega), hc _ _ h2 (by omega)⟩

theorem part_info : (Try.prog.info? 43).map (fun i => (i.zero, i.size, i.bytes)) = some (some (.agg #[.bool false, .int .i64 0, .string ⟨#[]⟩]), 3, 32) := by kernel_rfl

def cutP (p : PartD) : PartD := if 50 < p.text.size then ⟨p.isText, p.num, p.text.extract 0 50⟩ else p
def cutL (l : List PartD) : List PartD := (l.take 6).map cutP

theorem cutL_snoc {l : List PartD} {k : Nat} (h : k < l.length) : (l.take (k + 1)).map cutP = (l.take k).map cutP ++ [cutP l[k]] := by
  rw [List.take_succ_eq_append_getElem h, List.map_append]; rfl
theorem one_cells (p : PartD) : ∀ u ∈ p.cells, u.oneCell' = true := by
  intro u hu
  simp only [PartD.cells, List.mem_cons, List.not_mem_nil, or_false] at hu
  rcases hu with rfl | rfl | rfl <;> rfl

set_option maxHeartbeats 800000 in
theorem ref_cut (va : Value) (l : List PartD) (w : World) (ha : RdParts w w.heap.size va l) :
    Calls Try.prog 11 #[va] w fun e w' => ∃ v', e = .returned v' ∧ OwnP w' w.heap.size v' (cutL l) ∧ Below w.heap.size w w' := by
  have hA := Lib.hid ha
  obtain ⟨A, ca, rfl, hla, hca, -⟩ := ha
  go_enter Try.func11, Try.ntmps11
  go_wp2
  go_loopw [3, 4] (fun x i wr => ∃ k : Nat, k ≤ l.length ∧ k ≤ 6 ∧ i = .int .i64 k ∧ OwnP wr w.heap.size x ((l.take k).map cutP) ∧ Below w.heap.size w wr) (fun _ i _ => l.length - (intOf i).toNat)
  case atStart => exact ⟨0, Nat.zero_le _, Nat.zero_le _, rfl, OwnP.nil w _, Below.refl _ _⟩
  case round =>
    obtain ⟨k, hk, hk6, rfl, ho, hbw⟩ := hrel
    have hgs := hbw.size
    have HW := Lib.hid hbw
    have HO := Lib.hid ho
    by_cases hlt : k < l.length ∧ k < 6
    · obtain ⟨hlt, hlt6⟩ := hlt
      obtain ⟨A', _, e1, _, _, hra⟩ := hA.out.below hbw
      obtain ⟨ba, oa, rfl, hba, hra⟩ := hra (by omega)
      cases e1
      obtain ⟨a0, a1, a2⟩ := hra k _ (List.getElem?_eq_getElem hlt)
      have hsn := cutL_snoc hlt
      have htl : ((l.take k).map cutP).length = k := by simp; omega
      have HL := Lib.hid htl
      clear hra hbw ho htl
      generalize hp : l[k] = p at *
      clear hp
      obtain ⟨tp, np, sp⟩ := p
      simp only at a0 a1 a2
      have HS := Lib.hid hsn
      clear hsn
      by_cases hs : 50 < sp.size
      · have hc : cutP ⟨tp, np, sp⟩ = ⟨tp, np, sp.extract 0 50⟩ := by simp [cutP, hs]
        have HC := Lib.hid hc
        clear hc
        go_wp2_with (at_builtin; refine wpl_appg rfl (.tmp 28) (.tmp 30) rfl Try.underlying22 part_info rfl (by omega) u3 _ _ (wr.heap.size + 1) 1 1 [.bool tp, .int .i64 np, .string (sp.extract 0 50)] rfl rfl rfl (blk_new _ _ _ (by simp)) (one_cells ⟨tp, np, _⟩) ((HO.out.alloc _).alloc _) ?_ ?_ ?_ ?_; rotate_left 3; intro v1 w1 ho1 hg1 hs1)
        · have hb1 : Below w.heap.size w w1 := ((HW.out.alloc (by omega) _).alloc (by simp; omega) _).trans (hg1.below (by simp; omega) HO.out.base)
          have HB := Lib.hid hb1
          clear hb1
          go_roundw
          case rel =>
            refine ⟨k + 1, by omega, by omega, by go_num, ?_, HB.out⟩
            have e := HC.out
            rw [HS.out, e]
            unfold OwnP
            rw [pcells_append, List.length_append]
            exact ho1
          case measure => simp [intOf]; omega
        · rw [HL.out]; omega
        · rw [HL.out]; omega
        · simp; omega
      · have hc : cutP ⟨tp, np, sp⟩ = ⟨tp, np, sp⟩ := by simp [cutP, hs]
        have HC := Lib.hid hc
        clear hc
        go_wp2_with (at_builtin; refine wpl_appg rfl (.tmp 28) (.tmp 30) rfl Try.underlying22 part_info rfl (by omega) u3 _ _ (wr.heap.size + 1) 1 1 [.bool tp, .int .i64 np, .string sp] rfl rfl rfl (blk_new _ _ _ (by simp)) (one_cells ⟨tp, np, _⟩) ((HO.out.alloc _).alloc _) ?_ ?_ ?_ ?_; rotate_left 3; intro v1 w1 ho1 hg1 hs1)
        · have hb1 : Below w.heap.size w w1 := ((HW.out.alloc (by omega) _).alloc (by simp; omega) _).trans (hg1.below (by simp; omega) HO.out.base)
          have HB := Lib.hid hb1
          clear hb1
          go_roundw
          case rel =>
            refine ⟨k + 1, by omega, by omega, by go_num, ?_, HB.out⟩
            have e := HC.out
            rw [HS.out, e]
            unfold OwnP
            rw [pcells_append, List.length_append]
            exact ho1
          case measure => simp [intOf]; omega
        · rw [HL.out]; omega
        · rw [HL.out]; omega
        · simp; omega
    · have hk2 : (l.take k).map cutP = cutL l := by
        unfold cutL
        by_cases h6 : k = 6
        · rw [h6]
        · rw [List.take_of_length_le (by omega), List.take_of_length_le (by omega)]
      have H2 := Lib.hid hk2
      clear hk2 ho hbw
      by_cases hlt2 : k < l.length
      · have hd : decide (k < 6) = false := by simp; omega
        go_wp2
        go_ret
        exact ⟨_, rfl, by have := HO.out; rw [H2.out] at this; exact this, HW.out⟩
      · have hd : decide (k < l.length) = false := by simpa using hlt2
        go_wp2
        go_ret
        exact ⟨_, rfl, by have := HO.out; rw [H2.out] at this; exact this, HW.out⟩
end Go.Proofs.Ytnapadpkfjpklaa
