/- Layer 13 (the list of layer 12, of slices of versions), the project's: Floor, Height, Row. -/
import Derived.Test.YtigdkflknhdbgaaKe
import Derived.BigQuiet
import Derived.LaidEql
namespace Go.Proofs.Ytigdkflknhdbgaa.Skp
open Go.RowKit
set_option linter.unusedVariables false

theorem str_info : (Try.prog.info? 9).map (fun i => (i.zero, i.size, i.bytes)) = some (some (.string ⟨#[]⟩), strL.sz, 16) := by kernel_rfl
theorem node_info : (Try.prog.info? 87).map (fun i => i.size) = some 12 := by kernel_rfl
theorem eq_same (W : World) (d a : Nat) : (Op.equalIn (d + 1) 82 (.pointer (some ⟨a, 0, none⟩)) (.pointer (some ⟨a, 0, none⟩))).run Try.prog W = .ok true W := by
  obtain ⟨j, hj, hs⟩ := Option.map_eq_some_iff.1 node_info
  simp [Op.equalIn, run_underlying Try.underlying82, sizeOf, typeInfo, hj, run_sameAddr_same]
theorem eq_other (W : World) (d : Nat) {a b : Nat} {ca cb : Array Value} {ta tb : TypeId} (hne : a ≠ b) (ha : Box W a ca ta) (hb : Box W b cb tb) : (Op.equalIn (d + 1) 82 (.pointer (some ⟨a, 0, none⟩)) (.pointer (some ⟨b, 0, none⟩))).run Try.prog W = .ok false W := by
  obtain ⟨j, hj, hs⟩ := Option.map_eq_some_iff.1 node_info
  simp [Op.equalIn, run_underlying Try.underlying82, sizeOf, typeInfo, hj, hs, run_sameAddr_other (P := Try.prog) W (a := ⟨a, 0, none⟩) (b := ⟨b, 0, none⟩) (by simp) ha hb]
theorem neq_same (W : World) (a : Nat) : (binOp .neq 82 (.pointer (some ⟨a, 0, none⟩)) (.pointer (some ⟨a, 0, none⟩))).run Try.prog W = .ok (.bool false) W := by
  simp only [binOp]
  simp [Op.equal, Op.maxDepth, eq_same W 9999 a]
theorem neq_other (W : World) {a b : Nat} {ca cb : Array Value} {ta tb : TypeId} (hne : a ≠ b) (ha : Box W a ca ta) (hb : Box W b cb tb) : (binOp .neq 82 (.pointer (some ⟨a, 0, none⟩)) (.pointer (some ⟨b, 0, none⟩))).run Try.prog W = .ok (.bool true) W := by
  simp only [binOp]
  simp [Op.equal, Op.maxDepth, eq_other W 9999 hne ha hb]
theorem SkM.box {mk : Nat} {w : World} {M : List Nd} {l : List It} (h : SkM mk w M l) {i : Nat} (hi : i ≤ l.length) : ∃ cs t, Box w (bN M i) cs t := by
  have h1 : i < M.length := by rw [h.len]; omega
  rw [bN_at h1]
  exact ⟨_, _, h.nodes.at' _ _ (List.getElem?_eq_getElem h1)⟩
theorem bn_ne {mk : Nat} {w : World} {M : List Nd} {l : List It} (h : SkM mk w M l) {t : Nat} (ht : t < l.length) : bN M (t + 1) ≠ bN M 0 := by
  intro e
  have h1 : t + 1 < M.length := by rw [h.len]; omega
  have h0 : 0 < M.length := by omega
  rw [bN_at h1, bN_at h0] at e
  have := h.nodes.bs (t + 1) 0 _ _ (List.getElem?_eq_getElem h1) (List.getElem?_eq_getElem h0) e
  omega
theorem height_max : ∀ {l : List It} {n k : Int}, n ≤ k → (∀ x ∈ l, x.level ≤ k) → (n = k ∨ ∃ x ∈ l, k ≤ x.level) → heightGo n l = k
  | [], n, k, _, _, h => by
    rcases h with h | ⟨x, hx, _⟩
    · exact h
    · cases hx
  | y :: r, n, k, h1, h2, h => by
    rw [heightGo]
    have hy := h2 y (List.mem_cons_self)
    refine height_max (l := r) ?_ (fun x hx => h2 x (List.mem_cons_of_mem _ hx)) ?_
    · split <;> omega
    · rcases h with h | ⟨x, hx, hk⟩
      · left; split <;> omega
      · rcases List.mem_cons.1 hx with rfl | hx
        · left; split <;> omega
        · exact .inr ⟨x, hx, hk⟩
theorem SkM.over {mk : Nat} {w : World} {M : List Nd} {l : List It} (h : SkM mk w M l) {r : Nat} (hn : NextIs (lvN M) r 0 none) : ∀ x ∈ l, x.level ≤ (r : Int) := fun x hx => by
  obtain ⟨t, ht, rfl⟩ := List.getElem_of_mem hx
  have h1 := hn (t + 1) (by omega)
  have h2 := h.lev ht
  omega
theorem height_at {mk : Nat} {w : World} {M : List Nd} {l : List It} (h : SkM mk w M l) {k : Nat} (hk : k = 0 ∨ ∃ x ∈ l, (k : Int) ≤ x.level) (hn : k = 8 ∨ NextIs (lvN M) k 0 none) : heightI l = (k : Int) := by
  refine height_max (by omega) (fun x hx => ?_) (hk.imp (fun e => by rw [e]; rfl) id)
  rcases hn with e | hn
  · obtain ⟨t, ht, rfl⟩ := List.getElem_of_mem hx
    have := h.lev ht
    omega
  · exact h.over hn x hx
set_option maxHeartbeats 2000000 in
theorem p_height (mk : Nat) (M : List Nd) (l : List It) (w : World) (h : SkM mk w M l) :
    Calls Try.prog 32 #[.pointer (some ⟨bN M 0, 0, none⟩)] w fun z w' => z = .returned (.int .i64 (heightI l)) ∧ w' = w := by
  have HS := Lib.hid h
  clear h
  go_enter Try.func32, Try.ntmps32
  go_wp2_with fail
  go_loopw [3] (fun i wr => ∃ k : Nat, i = .int .i64 k ∧ k ≤ 8 ∧ (k = 0 ∨ ∃ x ∈ l, (k : Int) ≤ x.level) ∧ wr = w) (fun i _ => 8 - (intOf i).toNat)
  case atStart => exact ⟨0, rfl, by omega, .inl rfl, rfl⟩
  case round =>
    obtain ⟨k, rfl, hk8, hk, rfl⟩ := hrel
    have HK := Lib.hid hk
    clear hk
    by_cases hlt : k < 8
    · have zl : decide ((k : Int) < 8) = true := by rw [decide_eq_true_eq]; omega
      have zn : decide (k < 8) = true := by rw [decide_eq_true_eq]; omega
      have hki : (k : Int) < 8 := by omega
      have hw64 : IntKind.i64.wrap ((k : Int) + 1) = (k : Int) + 1 := by rw [IntKind.wrap_i64]; omega
      have hr : k < lvN M 0 := by rw [HS.out.lv0]; exact hlt
      have c := HS.out.nodes.reads hr
      obtain ⟨o, ho, hco⟩ := HS.out.link 0 k hr
      rw [hco] at c
      have HO := Lib.hid ho
      clear hr ho hco
      cases o with
      | none =>
        simp only [ptrO] at c
        have HR := Lib.hid (height_at HS.out HK.out (.inr HO.out))
        go_wp2_with fail
        go_ret
        exact ⟨by rw [HR.out]; rfl, rfl⟩
      | some j =>
        simp only [ptrO] at c
        obtain ⟨t, rfl, ht⟩ := HS.out.next_lt HO.out
        have HX := Lib.hid (show (k + 1 : Nat) = 0 ∨ ∃ x ∈ l, ((k + 1 : Nat) : Int) ≤ x.level from .inr ⟨l[t], List.getElem_mem ht, by have h1 := HO.out.2.1; have h2 := HS.out.lev ht; omega⟩)
        clear ht
        go_wp2_with fail
        go_roundw
        case rel => exact ⟨k + 1, by go_num, by omega, HX.out, trivial⟩
        case measure => simp [intOf]; omega
    · obtain rfl : k = 8 := by omega
      have HR := Lib.hid (height_at HS.out HK.out (.inl rfl))
      clear hlt
      go_wp2_with fail
      go_ret
      exact ⟨by rw [HR.out]; rfl, rfl⟩
theorem row_more {l : List It} {i t : Nat} {lv : Int} (h1 : 1 ≤ lv) (h8 : lv ≤ 8) (hit : i ≤ t) (ht : t < l.length) (hb : ∀ s (hs : s < l.length), i ≤ s → s < t → l[s].level < lv) (hl : lv ≤ l[t].level) : rowI (l.take (t + 1)) lv = rowI (l.take i) lv ++ [l[t].key] := by
  have e : l.take (t + 1) = l.take i ++ ((l.take t).drop i ++ [l[t]]) := by
    rw [List.take_succ_eq_append_getElem ht, ← List.append_assoc]
    congr 1
    have := List.take_append_drop i (l.take t)
    rw [List.take_take, Nat.min_eq_left hit] at this
    exact this.symm
  have z : ((l.take t).drop i).filter (rowB lv) = [] := by
    rw [List.filter_eq_nil_iff]
    intro x hx
    obtain ⟨s, hs, rfl⟩ := List.getElem_of_mem hx
    rw [List.length_drop, List.length_take] at hs
    rw [List.getElem_drop, List.getElem_take]
    have := hb (i + s) (by omega) (by omega) (by omega)
    unfold rowB
    have z3 : decide (lv ≤ l[i + s].level) = false := by rw [decide_eq_false_iff_not]; omega
    rw [z3]
    simp
  have o : [l[t]].filter (rowB lv) = [l[t]] := by
    rw [List.filter_cons, if_pos (by unfold rowB; rw [decide_eq_true h1, decide_eq_true h8, decide_eq_true hl]; rfl), List.filter_nil]
  unfold rowI
  rw [e, List.filter_append, List.filter_append, z, o, List.map_append]
  rfl
theorem row_rest {l : List It} {i : Nat} {lv : Int} (hb : ∀ s (hs : s < l.length), i ≤ s → l[s].level < lv) : rowI l lv = rowI (l.take i) lv := by
  have z : (l.drop i).filter (rowB lv) = [] := by
    rw [List.filter_eq_nil_iff]
    intro x hx
    obtain ⟨s, hs, rfl⟩ := List.getElem_of_mem hx
    rw [List.length_drop] at hs
    rw [List.getElem_drop]
    have := hb (i + s) (by omega) (by omega)
    unfold rowB
    have z3 : decide (lv ≤ l[i + s].level) = false := by rw [decide_eq_false_iff_not]; omega
    rw [z3]
    simp
  rw [show rowI l lv = rowI (l.take i ++ l.drop i) lv from by rw [List.take_append_drop]]
  unfold rowI
  rw [List.filter_append, z, List.append_nil]
theorem row_out {l : List It} {lv : Int} (h : ¬ (1 ≤ lv ∧ lv ≤ 8)) : rowI l lv = [] := by
  unfold rowI
  rw [List.filter_eq_nil_iff.2, List.map_nil]
  intro x _
  unfold rowB
  by_cases h1 : 1 ≤ lv
  · have z : decide (lv ≤ 8) = false := by rw [decide_eq_false_iff_not]; omega
    rw [z]; simp
  · have z : decide (1 ≤ lv) = false := by rw [decide_eq_false_iff_not]; exact h1
    rw [z]; simp
theorem row_len (l : List It) (i : Nat) (lv : Int) : (rowI (l.take i) lv).length ≤ l.length := by
  unfold rowI
  rw [List.length_map]
  refine Nat.le_trans (List.length_filter_le _ _) ?_
  rw [List.length_take]
  omega
end Go.Proofs.Ytigdkflknhdbgaa.Skp
