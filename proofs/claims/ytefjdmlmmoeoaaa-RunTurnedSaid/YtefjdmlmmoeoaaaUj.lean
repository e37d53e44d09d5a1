/- Layer 8: versions in pieces: slices.Clone, slices.Chunk and what it tells piece by piece. -/
import Derived.Test.YtefjdmlmmoeoaaaUi
import Derived.Test.YtefjdmlmmoeoaaaBA
import Derived.Test.YtefjdmlmmoeoaaaTc
import Derived.Lib.SliceRun
import Derived.RangeFuncBound
import Derived.RangeFuncLeaves
import Derived.Shelf.Abstract
import Derived.Shelf.RegionOpen
import Derived.OwnWalkIn
import Derived.TacticsInMore
import Derived.LoopNIn
import Derived.LoopIn
import Derived.Sort.QuietIn
namespace Go.Proofs.Ytefjdmlmmoeoaaa
open Go.RowKit Go.Shelf
set_option linter.unusedVariables false
attribute [local go_sem] Oper.semAt_some

theorem clone_vers (v : Value) (l : List Ver) (w : World) (h : RdVr w w.heap.size v l) (hl : l.length ≤ 100000) :
    Calls Try.prog 48 #[v] w fun e w' => ∃ v', e = .returned v' ∧ OwnVr w' w.heap.size v' l ∧ Below w.heap.size w w' := by
  have H := Lib.hid h
  obtain ⟨A, c, rfl, hlc, hc, h3⟩ := h
  have hq := fun W => Lib.run_eql_slice_nil (P := Try.prog) W 22 42 A l.length c 0 0 Try.underlying22
  cases A with
  | none =>
    have h0 : l.length = 0 := by
      rcases Nat.eq_zero_or_pos l.length with h0 | h0
      · exact h0
      · obtain ⟨b, o, e, _⟩ := h3 h0; cases e
    have h1 := Lib.hid (List.eq_nil_of_length_eq_zero h0)
    clear h3 h0
    go_enter Try.func48, Try.ntmps48
    go_wp2
    go_ret
    refine ⟨_, rfl, ?_, by go_grown⟩
    rw [h1.out]; exact OwnX.nil _ _
  | some p =>
    clear h3
    have H2 := Lib.hid (H.out.on (alloc_below w (.cells #[] 42)))
    have O := Lib.hid (OwnX.new (L := verL) (e := 42) w #[] [] 0 rfl rfl (by simp))
    go_enter Try.func48, Try.ntmps48
    go_wp2_with (at_builtin; refine wpl_appX_rd rfl (.tmp 5) (.tmp 6) rfl Try.underlying22 ver_info rfl w.heap.size _ _ _ [] l rfl rfl O.out H2.out (by simp) (by simp; omega) (by decide) ?_; intro v1 w1 ho1 hg1 hb1)
    go_ret
    exact ⟨v1, rfl, ho1, (alloc_below w _).trans hb1⟩

theorem blk_chunk (A : Option Addr) (n c : Nat) (w : World) :
    Calls Try.prog 47 #[.slice A n c, .int .i64 8] w fun e w' => e = .returned (.func (.func 69) #[] #[.pointer (some ⟨w.heap.size, 0, none⟩), .pointer (some ⟨w.heap.size + 1, 0, none⟩)]) ∧ w' = (w.alloc (.cells #[.slice A n c] 22)).alloc (.cells #[.int .i64 8] 3) := by
  go_enter Try.func47, Try.ntmps47
  go_wp2_with fail
  go_ret
  exact ⟨rfl, rfl⟩

/-- l's piece at j. -/
def pc8 (l : List Ver) (j : Nat) : List Ver := (l.drop (8 * j)).take 8
def pcs8 (l : List Ver) : List (List Ver) := (List.range ((l.length + 7) / 8)).map (pc8 l)
theorem pc8_len (l : List Ver) (j : Nat) : (pc8 l j).length = min 8 (l.length - 8 * j) := by unfold pc8; rw [List.length_take, List.length_drop]
/-- A piece as it is told: a slice that reads so, below n₀. -/
def Pv (w : World) (n₀ : Nat) : Type := { p : Value × List Ver // RdVr w n₀ p.1 p.2 ∧ p.2.length ≤ 8 }
def Pv.vs {w : World} {n₀ : Nat} (xs : List (Pv w n₀)) : List (List Ver) := xs.map fun x => x.1.2
theorem Pv.vs_snoc {w : World} {n₀ : Nat} (xs : List (Pv w n₀)) (x : Pv w n₀) : Pv.vs (xs ++ [x]) = Pv.vs xs ++ [x.1.2] := by simp [Pv.vs]
/-- What a round leaves alone: what is below, and the two boxes. -/
def KpC (n₀ s1 s2 : Nat) (W W' : World) : Prop := Below n₀ W W' ∧ W'.heap[s1]? = W.heap[s1]? ∧ W'.heap[s2]? = W.heap[s2]?
theorem KpC.refl (n₀ s1 s2 : Nat) (W : World) : KpC n₀ s1 s2 W W := ⟨Below.refl _ _, rfl, rfl⟩
theorem KpC.trans {n₀ s1 s2 : Nat} {A B C : World} (h : KpC n₀ s1 s2 A B) (k : KpC n₀ s1 s2 B C) : KpC n₀ s1 s2 A C := ⟨h.1.trans k.1, k.2.1.trans h.2.1, k.2.2.trans h.2.2⟩
theorem KpC.drewN {n₀ s1 s2 : Nat} {A B : World} (h : KpC n₀ s1 s2 A B) (q : Nat) : KpC n₀ s1 s2 A (B.drewN q) := ⟨h.1.drewN q, h.2.1, h.2.2⟩
theorem KpC.of_below {n₀ s1 s2 : Nat} {A B : World} (h : Below A.heap.size A B) (hn : n₀ ≤ A.heap.size) (h1 : s1 < A.heap.size) (h2 : s2 < A.heap.size) : KpC n₀ s1 s2 A B := ⟨h.mono hn, h.block s1 h1, h.block s2 h2⟩
/-- v[k:k+m:k+m]. -/
theorem rdX_piece {α : Type} {L : Lay α} {w : World} {B : Nat} {A : Option Addr} {n c : Nat} {l : List α} (h : RdX L w B (.slice A n c) l) (k m : Nat) (hk : k + m ≤ l.length) (hm : 0 < m) (hb : m ≤ 9223372036854775807) :
    RdX L w B (.slice (A.map fun x => x.add (k * L.sz)) m m) ((l.drop k).take m) := by
  obtain ⟨A', c', e, h1, h2, h3⟩ := h
  injection e with e1 e2 e3
  subst e1
  have hl : ((l.drop k).take m).length = m := by rw [List.length_take, List.length_drop]; omega
  refine ⟨_, m, by rw [hl], by rw [hl]; omega, hb, fun hp => ?_⟩
  obtain ⟨b, o, rfl, hbb, hc⟩ := h3 (by omega)
  refine ⟨b, o + k * L.sz, by simp [addr_plain], hbb, fun i x hx j u hu => ?_⟩
  rw [List.getElem?_take] at hx
  split at hx
  · have := hc (k + i) x (by rw [List.getElem?_drop] at hx; exact hx) j u hu
    rw [Nat.add_mul, ← Nat.add_assoc] at this
    exact this
  · cases hx

set_option maxRecDepth 100000 in
set_option maxHeartbeats 1000000 in
theorem chunk_stops (n n₀ s1 s2 : Nat) (v : Value) (l : List Ver) (w : World) (hn : n₀ ≤ w.heap.size) (h1 : Boxed w s1 22 v) (h2 : Boxed w s2 3 (.int .i64 8)) (hr : RdVr w n₀ v l) (hl : l.length ≤ 100000) :
    SeqStopsK Fence.wide n Try.prog 69 #[.pointer (some ⟨s1, 0, none⟩), .pointer (some ⟨s2, 0, none⟩)] (fun x : Pv w n₀ => #[x.1.1]) (KpC n₀ s1 s2)
      (fun xs => Pv.vs xs = pcs8 l) (fun _ => True) l.length w := fun L J Jx W hW hJ hJx hY h0 => by
  have l1 := h1.lt
  have l2 := h2.lt
  have hbW : KpC n₀ s1 s2 w W := KpC.of_below hW hn l1 l2
  have B1 := Lib.hid h1
  have B2 := Lib.hid h2
  have R := Lib.hid hr
  have HY := Lib.hid hY
  have HJ := Lib.hid hJ
  have HJx := Lib.hid hJx
  have H0 := Lib.hid h0
  have G := Lib.hid hbW
  clear hY hJ hJx h0 hW hbW h1 h2
  obtain ⟨A, c, rfl, hlc, hcc, -⟩ := hr
  refine callsIn_of_wp Try.func69 rfl trivial ?_ rfl
  simp only [Try.ntmps69, List.size_toArray, List.length_cons, List.length_nil, Nat.reduceAdd, Nat.reduceSub, Array.replicate_succ, Array.replicate_zero, List.push_toArray, List.append_toArray, List.nil_append, List.cons_append]
  gi_wp2
  gi_loopw [4] (fun i wr => ∃ (j : Nat) (pre : List (Pv w n₀)), i = .int .i64 ((8 * j : Nat) : Int) ∧ j ≤ (l.length + 7) / 8 ∧ pre.length = j ∧ Pv.vs pre = (List.range j).map (pc8 l) ∧ J pre wr ∧ KpC n₀ s1 s2 w wr) (fun i _ => l.length + 8 - (intOf i).toNat)
  case atStart => exact ⟨0, [], rfl, Nat.zero_le _, rfl, rfl, H0.out, G.out⟩
  case round =>
    obtain ⟨j, pre, rfl, hj, hpl, hvs, hjp, hb⟩ := hrel
    have HVS := Lib.hid hvs
    have HJP := Lib.hid hjp
    have GB := Lib.hid hb
    have b1 : wr.cell? ⟨s1, 0, none⟩ = some (.slice A l.length c) := Boxed.cell (show Boxed wr s1 _ _ from hb.2.1.trans B1.out)
    have b2 : wr.cell? ⟨s2, 0, none⟩ = some (.int .i64 8) := Boxed.cell (show Boxed wr s2 _ _ from hb.2.2.trans B2.out)
    clear hvs hjp hb
    by_cases hlt : 8 * j < l.length
    · have zl : decide (((8 * j : Nat) : Int) < (l.length : Int)) = true := by simp; omega
      have hpc := pc8_len l j
      obtain ⟨m, hm⟩ : ∃ m, m = min 8 (l.length - 8 * j) := ⟨_, rfl⟩
      have hrp := rdX_piece (R.out) (8 * j) m (by omega) (by omega) (by omega)
      have hmm : (l.drop (8 * j)).take m = pc8 l j := by
        unfold pc8
        rcases Nat.le_total 8 (l.length - 8 * j) with h | h
        · rw [hm, Nat.min_eq_left h]
        · rw [hm, Nat.min_eq_right h, List.take_of_length_le (by rw [List.length_drop]; exact Nat.le_refl _), List.take_of_length_le (by rw [List.length_drop]; omega)]
      rw [hmm] at hrp
      have hif : (if ((l.length - 8 * j : Nat) : Int) < 8 then ((l.length - 8 * j : Nat) : Int) else 8) = (m : Int) := by split <;> omega
      rw [← hm] at hpc
      obtain ⟨x, hx1, hx2⟩ : ∃ x : Pv w n₀, x.1.1 = .slice (A.map fun x => x.add (8 * j * 8)) m m ∧ x.1.2 = pc8 l j := ⟨⟨(_, pc8 l j), hrp, by show (pc8 l j).length ≤ 8; omega⟩, rfl, rfl⟩
      have HX := Lib.hid (show Pv.vs (pre ++ [x]) = (List.range (j + 1)).map (pc8 l) from by rw [Pv.vs_snoc, HVS.out, hx2, List.range_succ, List.map_append]; rfl)
      have HIF := Lib.hid hif
      have hm1 : 1 ≤ m := by omega
      have hm2 : 8 * j + m ≤ l.length := by omega
      clear hpc hmm hrp hif hm
      gi_wp2_with fail
      gi_quiet (fail)
      rw [HIF.out]
      obtain ⟨fn, tmps, assign, body, hy, hR⟩ := HY.out pre x (wr.drewN nq) (HJ.out _ _ _ none HJP.out ⟨rfl, rfl, rfl, Nat.le_refl _, fun _ _ _ => rfl⟩ (fun _ e => by cases e)) (by omega)
      rw [hx1] at hy
      have hwm : IntKind.i64.wrap (((8 * j : Nat) : Int) + (m : Int)) = ((8 * j + m : Nat) : Int) := by rw [IntKind.wrap_i64]; omega
      have hsub : 8 * j + m - 8 * j = m := by omega
      gi_wp2_with fail
      refine ⟨fun h => (by cases h), hR.mono ?_⟩
      clear hy hR b1 b2
      rintro e W3 (⟨rfl, hJ3, hk3⟩ | ⟨rfl, hJx3⟩)
      · have J3 := Lib.hid hJ3
        have K3 := Lib.hid ((GB.out.drewN nq).trans hk3)
        have b2 : W3.cell? ⟨s2, 0, none⟩ = some (.int .i64 8) := Boxed.cell (show Boxed W3 s2 _ _ from K3.out.2.2.trans B2.out)
        have hw8 : IntKind.i64.wrap (((8 * j : Nat) : Int) + 8) = ((8 * (j + 1) : Nat) : Int) := by rw [IntKind.wrap_i64]; omega
        clear hJ3 hk3
        gi_wp2_with fail
        go_roundw
        case rel => exact ⟨j + 1, pre ++ [x], by congr 1 <;> omega, by omega, by simp [hpl], HX.out, J3.out, K3.out⟩
        case measure => simp [intOf]; omega
      · have J3 := Lib.hid hJx3
        clear hJx3
        gi_wp2_with fail
        refine bodyPost_ret (results_none rfl _ _ _) rfl ?_
        exact ⟨⟨_, rfl⟩, .inr ⟨pre ++ [x], trivial, J3.out⟩⟩
    · have zl : decide (((8 * j : Nat) : Int) < (l.length : Int)) = false := by rw [decide_eq_false_iff_not]; omega
      have FF := Lib.hid (show Pv.vs pre = pcs8 l from by rw [HVS.out, pcs8, show (l.length + 7) / 8 = j from by omega])
      gi_wp2_with fail
      go_end0
      exact ⟨⟨_, rfl⟩, .inl ⟨pre, FF.out, HJP.out⟩⟩
end Go.Proofs.Ytefjdmlmmoeoaaa
