/- Layer 13: the document's example, by the project. -/
import Derived.Test.YtigdkflknhdbgaaDn
import Derived.Test.YtigdkflknhdbgaaCf
import Derived.BigQuiet
namespace Go.Proofs.Ytigdkflknhdbgaa
open Go.RowKit
set_option linter.unusedVariables false

def kL : ByteArray := ⟨(Ord.keyBytes 0 ⟨#[107]⟩).toArray⟩
theorem kL_split : (Ord.splitOf kL.data.toList).2.2 = 0 := by decide
theorem kL_size : kL.size ≤ 92 := by decide
def vL (key : ByteArray) : Ver := ⟨key, 0, 2, 1, (0, 1), ⟨#[]⟩, false⟩
def uL (key : ByteArray) : Ver := ⟨key, 0, 1, 1, (0, 1), ⟨#[]⟩, false⟩
theorem vL_may {k : ByteArray} (h : (Ord.splitOf k.data.toList).2.2 = 0) : mayV (vL k) = true ∧ mayV (uL k) = true := by
  unfold mayV
  rw [show (Ord.splitOf (vL k).key.data.toList).2.2 = 0 from h, show (Ord.splitOf (uL k).key.data.toList).2.2 = 0 from h]
  exact ⟨rfl, rfl⟩
theorem vL_less (k : ByteArray) : lessV (uL k) (vL k) = true := by
  unfold lessV vL uL; simp
theorem add1 {k : ByteArray} (h : (Ord.splitOf k.data.toList).2.2 = 0) : addV [] (vL k) = ([vL k], 0) := by
  unfold addV; rw [if_pos (vL_may h).1]; rfl
theorem add2 {k : ByteArray} (h : (Ord.splitOf k.data.toList).2.2 = 0) : addV [vL k] (uL k) = ([uL k, vL k], 0) := by
  unfold addV
  rw [if_pos (vL_may h).2, if_neg]
  · rw [insA, if_pos (vL_less k)]
  · rw [List.any_cons, List.any_nil, Bool.or_false]
    unfold alikeV
    rw [vL_less]
    simp [lessV_asymm (vL_less k)]
theorem filt2 (k : ByteArray) : [uL k, vL k].filter (fun v => decide (v.key = k)) = [uL k, vL k] := List.filter_eq_self.2 fun v hv => by
  simp only [List.mem_cons, List.not_mem_nil, or_false] at hv
  rcases hv with rfl | rfl <;> exact decide_eq_true rfl
theorem ch_len0 {n : Nat} (w : World) (S : Nat → Prop) (p : Value) (r : List Ver) (h : Int) (hc : ChS n w S p r h) :
    Calls Try.prog 27 #[p] w fun z w' => z = .returned (.int .i64 (r.length : Int)) ∧ w' = w := by
  obtain ⟨g, pl, l, Ls, S0, rfl, hb, -⟩ := hc
  have b1 := hb.cell 1 _ rfl
  clear hb
  generalize r.length = rl at *
  go_enter Try.func27, Try.ntmps27
  go_wp2_with fail
  go_ret
  exact ⟨rfl, rfl⟩

set_option maxHeartbeats 4000000 in
set_option maxRecDepth 100000 in
theorem lives_c : LivesC := fun w => by
  have KY := Lib.hid (fun w => Ord.ref_key 0 ⟨#[107]⟩ w (by omega) (by omega) (by decide))
  rw [show (⟨(Ord.keyBytes 0 ⟨#[107]⟩).toArray⟩ : ByteArray) = kL from rfl] at KY
  have hks : kL.size ≤ 1000 := Nat.le_trans kL_size (by decide)
  have A1 := Lib.hid (fun w S p (hc : ChS 0 w S p [] 0) => ch_add w S p [] 0 (vL kL) 1 hc (by omega) (by simp) hks (by constructor <;> decide))
  have A2 := Lib.hid (fun w S p h (hc : ChS 1 w S p [vL kL] h) => ch_add w S p [vL kL] h (uL kL) 4 hc (by omega) (by simp) hks (by constructor <;> decide))
  rw [add1 kL_split] at A1
  rw [add2 kL_split] at A2
  have OF := Lib.hid (fun w S p h (hc : ChS 2 w S p [uL kL, vL kL] h) => ch_of w S p _ h kL hc (by simp))
  rw [filt2] at OF
  have H1 := Lib.hid (show ∀ x : Ver, x ∈ [vL kL] → True from fun _ _ => trivial)
  have KE := Lib.hid (show (vL kL).key = (uL kL).key from rfl)
  generalize kL = key at *
  simp only [verV, vL, uL] at A1 A2 OF
  clear hks
  go_enter Try.func15, Try.ntmps15
  go_wp2_with fail
  refine (ch_new _).mono ?_
  rintro z w1 ⟨p, S, rfl, hc, hs, hb⟩
  obtain ⟨g, rfl⟩ := hc.ptr
  have C := Lib.hid hc
  have SB := Lib.hid hs
  have G := Lib.hid hb
  clear hc hs hb
  go_wp2_with fail
  refine (KY.out _).mono ?_
  rintro z w2 ⟨rfl, hb2⟩
  have C := Lib.hid (C.out.stay fun k hk => hb2.block k (C.out.lt k hk))
  have G := Lib.hid (G.out.trans (hb2.mono G.out.size))
  have G0 := Lib.hid G.out.size
  obtain ⟨W3, hW3⟩ : ∃ W3, (w2.alloc (.cells #[.string key, .int .i64 0, .int .i64 2, .int .i64 1, .int .i64 0, .int .i64 1, .string ⟨#[]⟩, .bool false] 47)).alloc (.cells #[.string key, .int .i64 0, .int .i64 1, .int .i64 1, .int .i64 0, .int .i64 1, .string ⟨#[]⟩, .bool false] 47) = W3 := ⟨_, rfl⟩
  have hb3 : Below w2.heap.size w2 W3 := by rw [← hW3]; exact (alloc_below _ _).alloc (by simp) _
  have hs3 : W3.heap.size = w2.heap.size + 2 := by rw [← hW3]; simp
  have bv : Box W3 w2.heap.size #[.string key, .int .i64 0, .int .i64 2, .int .i64 1, .int .i64 0, .int .i64 1, .string ⟨#[]⟩, .bool false] 47 := by rw [← hW3]; exact (Box.new w2 _ _ _ rfl).alloc _
  have bu : Box W3 (w2.heap.size + 1) #[.string key, .int .i64 0, .int .i64 1, .int .i64 1, .int .i64 0, .int .i64 1, .string ⟨#[]⟩, .bool false] 47 := by rw [← hW3]; exact Box.new _ _ _ _ (by simp)
  have LS := Lib.hid (fun k (hk : S k) => C.out.lt k hk)
  have C := Lib.hid (C.out.stay fun k hk => hb3.block k (C.out.lt k hk))
  have G := Lib.hid (G.out.trans (hb3.mono G.out.size))
  have Z3 := Lib.hid hs3
  have BV := Lib.hid bv
  have BU := Lib.hid bu
  have HW3 := Lib.hid hW3
  clear hb2 KY hb3 hs3 bv bu hW3
  go_wp2_with fail
  rw [HW3.out]
  refine (A1.out _ S _ C.out).mono ?_
  rintro z w4 ⟨rfl, S2, h1, hc4, hs4, hk4, hf1, -⟩
  have e1 : h1 = clampI 1 := by first | exact hf1 rfl rfl | exact hf1 trivial trivial | exact hf1 trivial rfl | exact hf1 rfl trivial | exact hf1
  rw [show clampI 1 = 1 from by decide] at e1
  subst e1
  have N2 := Lib.hid (show ∀ k, w2.heap.size ≤ k → k < w2.heap.size + 2 → ¬ S2 k from fun k h1 h2 hs => by
    rcases hs4 k hs with h | h
    · have := LS.out k h; omega
    · have := Z3.out; omega)
  have BV := Lib.hid (show Box w4 w2.heap.size #[.string key, .int .i64 0, .int .i64 2, .int .i64 1, .int .i64 0, .int .i64 1, .string ⟨#[]⟩, .bool false] 47 from (hk4.other _ (by have := Z3.out; omega) (fun hs => by have := LS.out _ hs; omega)).trans BV.out)
  have BU := Lib.hid (show Box w4 (w2.heap.size + 1) #[.string key, .int .i64 0, .int .i64 1, .int .i64 1, .int .i64 0, .int .i64 1, .string ⟨#[]⟩, .bool false] 47 from (hk4.other _ (by have := Z3.out; omega) (fun hs => by have := LS.out _ hs; omega)).trans BU.out)
  have C4 := Lib.hid hc4
  have ZZ := Lib.hid hk4.below.size
  have G := Lib.hid (G.out.trans (hk4.under (B := w.heap.size) G.out.size SB.out))
  have SB := Lib.hid (show ∀ k, S2 k → w.heap.size ≤ k from fun k hk => by
    rcases hs4 k hk with h | h
    · exact SB.out k h
    · have := Z3.out; have := G0.out; omega)
  clear hc4 hs4 hk4 hf1 HW3 C LS
  have z0 := BU.out.cell 0 _ rfl
  have z1 := BU.out.cell 1 _ rfl
  have z2 := BU.out.cell 2 _ rfl
  have z3 := BU.out.cell 3 _ rfl
  have z4 := BU.out.cell 4 _ rfl
  have z5 := BU.out.cell 5 _ rfl
  have z6 := BU.out.cell 6 _ rfl
  have z7 := BU.out.cell 7 _ rfl
  go_wp2_with fail
  refine (A2.out _ S2 _ 1 C4.out).mono ?_
  rintro z w5 ⟨rfl, S3, h2, hc5, hs5, hk5, -, hf2⟩
  have e2 : h2 = 1 := by first | exact hf2 ⟨_, List.mem_singleton.2 rfl, rfl⟩ | exact hf2 _ (List.mem_singleton.2 rfl) rfl | exact hf2 rfl | (simpa using hf2)
  subst e2
  have BV := Lib.hid (show Box w5 w2.heap.size #[.string key, .int .i64 0, .int .i64 2, .int .i64 1, .int .i64 0, .int .i64 1, .string ⟨#[]⟩, .bool false] 47 from (hk5.other _ (by have := Z3.out; have := ZZ.out; omega) (N2.out _ (Nat.le_refl _) (by omega))).trans BV.out)
  have BU := Lib.hid (show Box w5 (w2.heap.size + 1) #[.string key, .int .i64 0, .int .i64 1, .int .i64 1, .int .i64 0, .int .i64 1, .string ⟨#[]⟩, .bool false] 47 from (hk5.other _ (by have := Z3.out; have := ZZ.out; omega) (N2.out _ (by omega) (by omega))).trans BU.out)
  have C5 := Lib.hid hc5
  have G := Lib.hid (G.out.trans (hk5.under (B := w.heap.size) G.out.size SB.out))
  clear hc5 hs5 hk5 hf2 C4 N2 z0 z1 z2 z3 z4 z5 z6 z7
  have v0 := BV.out.cell 0 _ rfl
  go_wp2_with fail
  refine (OF.out _ S3 _ 1 C5.out).mono ?_
  rintro z w6 ⟨v6, rfl, ho6, hb6⟩
  have C6 := Lib.hid (C5.out.stay fun k hk => hb6.block k (C5.out.lt k hk))
  have BU := Lib.hid (BU.out.later hb6)
  have G := Lib.hid (G.out.trans (hb6.mono G.out.size))
  have R6 := Lib.hid ho6.rd
  obtain ⟨A6, c6, rfl, -⟩ := ho6.rd
  clear ho6 hb6 v0 C5 BV
  obtain ⟨b6, o6, rfl, -, c0, c1, c2, c3, c4, c5, c6', c7⟩ := RdVr.here R6.out 0 (by simp)
  simp only [List.getElem_cons_zero, Nat.zero_mul, Nat.add_zero] at c0 c1 c2 c3 c4 c5 c6' c7
  have z0 := BU.out.cell 0 _ rfl
  have z1 := BU.out.cell 1 _ rfl
  have z2 := BU.out.cell 2 _ rfl
  have z3 := BU.out.cell 3 _ rfl
  have z4 := BU.out.cell 4 _ rfl
  have z5 := BU.out.cell 5 _ rfl
  have z6 := BU.out.cell 6 _ rfl
  have z7 := BU.out.cell 7 _ rfl
  have LN := Lib.hid (ch_len0 w6.drew S3 _ _ 1 (C6.out.stay fun k hk => rfl))
  obtain ⟨g', pl, l, Ls, S0, e, hb, hl, er, eh, -⟩ := C6.out
  cases e
  obtain ⟨b, rfl⟩ := hl.ptr
  have HT := Lib.hid (chl_height (show ChL 2 w6.drew S0 _ l Ls from hl.stay fun k hk => rfl))
  rw [← eh] at HT
  have b0 := hb.cell 0 _ rfl
  clear hb hl er eh C6 R6
  go_wp2_with fail
  have HI : (fun W => W = w6.drew) w6.drew := rfl
  refine regk_start [] (fun W => W = w6.drew) (by kernel_rfl) ?_
  refine regk_free 0 27 (v := ?_) (T' := ?_) (fun _ => HI) (by kernel_rfl) (by kernel_rfl) (by kernel_rfl) (by kernel_rfl) (fun _ _ _ h => h) (fun o ho => ?_) ?_ ?_
  rotate_left 2
  · cases ho
    refine ⟨rfl, rfl, fun W => ?_⟩
    go_simp; (try with_reducible rfl)
  · simp only [List.setIfInBounds_toArray, List.set_cons_succ, List.set_cons_zero]; exact rfl
  refine regk_free 1 28 (v := ?_) (T' := ?_) (fun _ => HI) (by kernel_rfl) (by kernel_rfl) (by kernel_rfl) (by kernel_rfl) (fun _ _ _ h => h) (fun o ho => ?_) ?_ ?_
  rotate_left 2
  · cases ho
    refine ⟨rfl, rfl, fun W => ?_⟩
    go_simp; (try with_reducible rfl)
  · simp only [List.setIfInBounds_toArray, List.set_cons_succ, List.set_cons_zero]; exact rfl
  refine regk_free 2 29 (v := ?_) (T' := ?_) (fun _ => HI) (by kernel_rfl) (by kernel_rfl) (by kernel_rfl) (by kernel_rfl) (fun _ _ _ h => h) (fun o ho => ?_) ?_ ?_
  rotate_left 2
  · cases ho
    refine ⟨rfl, rfl, fun W => ?_⟩
    go_simp; (try with_reducible rfl)
  · simp only [List.setIfInBounds_toArray, List.set_cons_succ, List.set_cons_zero]; exact rfl
  refine regk_free 3 30 (v := ?_) (T' := ?_) (fun _ => HI) (by kernel_rfl) (by kernel_rfl) (by kernel_rfl) (by kernel_rfl) (fun _ _ _ h => h) (fun o ho => ?_) ?_ ?_
  rotate_left 2
  · cases ho
    refine ⟨rfl, rfl, fun W => ?_⟩
    go_simp; (try with_reducible rfl)
  · simp only [List.setIfInBounds_toArray, List.set_cons_succ, List.set_cons_zero]; exact rfl
  refine regk_free 4 31 (v := ?_) (T' := ?_) (fun _ => HI) (by kernel_rfl) (by kernel_rfl) (by kernel_rfl) (by kernel_rfl) (fun _ _ _ h => h) (fun o ho => ?_) ?_ ?_
  rotate_left 2
  · cases ho
    refine ⟨rfl, rfl, fun W => ?_⟩
    go_simp; (try with_reducible rfl)
  · simp only [List.setIfInBounds_toArray, List.set_cons_succ, List.set_cons_zero]; exact rfl
  refine regk_free 5 32 (v := ?_) (T' := ?_) (fun _ => HI) (by kernel_rfl) (by kernel_rfl) (by kernel_rfl) (by kernel_rfl) (fun _ _ _ h => h) (fun o ho => ?_) ?_ ?_
  rotate_left 2
  · cases ho
    refine ⟨rfl, rfl, fun W => ?_⟩
    go_simp; (try with_reducible rfl)
  · simp only [List.setIfInBounds_toArray, List.set_cons_succ, List.set_cons_zero]; exact rfl
  refine regk_free 6 33 (v := ?_) (T' := ?_) (fun _ => HI) (by kernel_rfl) (by kernel_rfl) (by kernel_rfl) (by kernel_rfl) (fun _ _ _ h => h) (fun o ho => ?_) ?_ ?_
  rotate_left 2
  · cases ho
    refine ⟨rfl, rfl, fun W => ?_⟩
    go_simp; (try with_reducible rfl)
  · simp only [List.setIfInBounds_toArray, List.set_cons_succ, List.set_cons_zero]; exact rfl
  refine regk_free 7 34 (v := ?_) (T' := ?_) (fun _ => HI) (by kernel_rfl) (by kernel_rfl) (by kernel_rfl) (by kernel_rfl) (fun _ _ _ h => h) (fun o ho => ?_) ?_ ?_
  rotate_left 2
  · cases ho
    refine ⟨rfl, rfl, fun W => ?_⟩
    go_simp; (try with_reducible rfl)
  · simp only [List.setIfInBounds_toArray, List.set_cons_succ, List.set_cons_zero]; exact rfl
  refine regk_free 8 35 (v := ?_) (T' := ?_) (fun _ => HI) (by kernel_rfl) (by kernel_rfl) (by kernel_rfl) (by kernel_rfl) (fun _ _ _ h => h) (fun o ho => ?_) ?_ ?_
  rotate_left 2
  · cases ho
    refine ⟨rfl, rfl, fun W => ?_⟩
    go_simp; (try with_reducible rfl)
  · simp only [List.setIfInBounds_toArray, List.set_cons_succ, List.set_cons_zero]; exact rfl
  refine regk_free 9 36 (v := ?_) (T' := ?_) (fun _ => HI) (by kernel_rfl) (by kernel_rfl) (by kernel_rfl) (by kernel_rfl) (fun _ _ _ h => h) (fun o ho => ?_) ?_ ?_
  rotate_left 2
  · cases ho
    refine ⟨rfl, rfl, fun W => ?_⟩
    go_simp; (try with_reducible rfl)
  · simp only [List.setIfInBounds_toArray, List.set_cons_succ, List.set_cons_zero]; exact rfl
  refine regk_free 10 37 (v := ?_) (T' := ?_) (fun _ => HI) (by kernel_rfl) (by kernel_rfl) (by kernel_rfl) (by kernel_rfl) (fun _ _ _ h => h) (fun o ho => ?_) ?_ ?_
  rotate_left 2
  · cases ho
    refine ⟨rfl, rfl, fun W => ?_⟩
    go_simp; (try with_reducible rfl)
  · simp only [List.setIfInBounds_toArray, List.set_cons_succ, List.set_cons_zero]; exact rfl
  refine regk_free 11 38 (v := ?_) (T' := ?_) (fun _ => HI) (by kernel_rfl) (by kernel_rfl) (by kernel_rfl) (by kernel_rfl) (fun _ _ _ h => h) (fun o ho => ?_) ?_ ?_
  rotate_left 2
  · cases ho
    refine ⟨rfl, rfl, fun W => ?_⟩
    go_simp; (try with_reducible rfl)
  · simp only [List.setIfInBounds_toArray, List.set_cons_succ, List.set_cons_zero]; exact rfl
  refine regk_free 12 39 (v := ?_) (T' := ?_) (fun _ => HI) (by kernel_rfl) (by kernel_rfl) (by kernel_rfl) (by kernel_rfl) (fun _ _ _ h => h) (fun o ho => ?_) ?_ ?_
  rotate_left 2
  · cases ho
    refine ⟨rfl, rfl, fun W => ?_⟩
    go_simp; (try with_reducible rfl)
  · simp only [List.setIfInBounds_toArray, List.set_cons_succ, List.set_cons_zero]; exact rfl
  refine regk_free 13 40 (v := ?_) (T' := ?_) (fun _ => HI) (by kernel_rfl) (by kernel_rfl) (by kernel_rfl) (by kernel_rfl) (fun _ _ _ h => h) (fun o ho => ?_) ?_ ?_
  rotate_left 2
  · cases ho
    refine ⟨rfl, rfl, fun W => ?_⟩
    go_simp; (try with_reducible rfl)
  · simp only [List.setIfInBounds_toArray, List.set_cons_succ, List.set_cons_zero]; exact rfl
  refine regk_take 14 41 (v := ?_) (T' := ?_) HI (by kernel_rfl) (by kernel_rfl) (by kernel_rfl) (by kernel_rfl) (by kernel_rfl) (by kernel_rfl) (fun _ _ _ h => h) (fun o ho => ?_) ?_ ?_
  rotate_left 2
  · cases ho
    refine ⟨rfl, rfl, fun W hW => ?_⟩
    have hW := (show W = _ from hW); subst hW; go_simp; (try with_reducible rfl)
  · simp only [List.setIfInBounds_toArray, List.set_cons_succ, List.set_cons_zero]; exact rfl
  refine regk_take 15 42 (v := ?_) (T' := ?_) HI (by kernel_rfl) (by kernel_rfl) (by kernel_rfl) (by kernel_rfl) (by kernel_rfl) (by kernel_rfl) (fun _ _ _ h => h) (fun o ho => ?_) ?_ ?_
  rotate_left 2
  · cases ho
    refine ⟨rfl, rfl, fun W hW => ?_⟩
    have hW := (show W = _ from hW); subst hW; go_simp; (try with_reducible rfl)
  · simp only [List.setIfInBounds_toArray, List.set_cons_succ, List.set_cons_zero]; exact rfl
  refine regk_free 16 43 (v := ?_) (T' := ?_) (fun _ => HI) (by kernel_rfl) (by kernel_rfl) (by kernel_rfl) (by kernel_rfl) (fun _ _ _ h => h) (fun o ho => ?_) ?_ ?_
  rotate_left 2
  · cases ho
    refine ⟨rfl, rfl, fun W => ?_⟩
    go_simp; (try with_reducible rfl)
  · simp only [List.setIfInBounds_toArray, List.set_cons_succ, List.set_cons_zero]; exact rfl
  refine regk_free 17 44 (v := ?_) (T' := ?_) (fun _ => HI) (by kernel_rfl) (by kernel_rfl) (by kernel_rfl) (by kernel_rfl) (fun _ _ _ h => h) (fun o ho => ?_) ?_ ?_
  rotate_left 2
  · cases ho
    refine ⟨rfl, rfl, fun W => ?_⟩
    go_simp; (try with_reducible rfl)
  · simp only [List.setIfInBounds_toArray, List.set_cons_succ, List.set_cons_zero]; exact rfl
  refine regk_free 18 45 (v := ?_) (T' := ?_) (fun _ => HI) (by kernel_rfl) (by kernel_rfl) (by kernel_rfl) (by kernel_rfl) (fun _ _ _ h => h) (fun o ho => ?_) ?_ ?_
  rotate_left 2
  · cases ho
    refine ⟨rfl, rfl, fun W => ?_⟩
    go_simp; (try with_reducible rfl)
  · simp only [List.setIfInBounds_toArray, List.set_cons_succ, List.set_cons_zero]; exact rfl
  refine regk_free 19 46 (v := ?_) (T' := ?_) (fun _ => HI) (by kernel_rfl) (by kernel_rfl) (by kernel_rfl) (by kernel_rfl) (fun _ _ _ h => h) (fun o ho => ?_) ?_ ?_
  rotate_left 2
  · cases ho
    refine ⟨rfl, rfl, fun W => ?_⟩
    go_simp; (try with_reducible rfl)
  · simp only [List.setIfInBounds_toArray, List.set_cons_succ, List.set_cons_zero]; exact rfl
  refine regk_call (I' := (fun W => W = w6.drew)) (fun _ h => h) 20 47 (by kernel_rfl) 27 #[.pointer (some ⟨g, 0, none⟩)] (fun o ho => by cases ho; exact ⟨rfl, rfl, fun W => by go_simp⟩) ?_
  refine LN.out.mono ?_
  rintro e _ ⟨rfl, rfl⟩
  refine ⟨_, _, rfl, fun _ => HI, (by simp only [List.setIfInBounds_toArray, List.set_cons_succ, List.set_cons_zero]; exact rfl), ?_⟩
  refine regk_free 21 48 (v := ?_) (T' := ?_) (fun _ => HI) (by kernel_rfl) (by kernel_rfl) (by kernel_rfl) (by kernel_rfl) (fun _ _ _ h => h) (fun o ho => ?_) ?_ ?_
  rotate_left 2
  · cases ho
    refine ⟨rfl, rfl, fun W => ?_⟩
    go_simp; (try with_reducible rfl)
  · simp only [List.setIfInBounds_toArray, List.set_cons_succ, List.set_cons_zero]; exact rfl
  refine regk_free 22 49 (v := ?_) (T' := ?_) (fun _ => HI) (by kernel_rfl) (by kernel_rfl) (by kernel_rfl) (by kernel_rfl) (fun _ _ _ h => h) (fun o ho => ?_) ?_ ?_
  rotate_left 2
  · cases ho
    refine ⟨rfl, rfl, fun W => ?_⟩
    go_simp; (try with_reducible rfl)
  · simp only [List.setIfInBounds_toArray, List.set_cons_succ, List.set_cons_zero]; exact rfl
  refine regk_free 23 50 (v := ?_) (T' := ?_) (fun _ => HI) (by kernel_rfl) (by kernel_rfl) (by kernel_rfl) (by kernel_rfl) (fun _ _ _ h => h) (fun o ho => ?_) ?_ ?_
  rotate_left 2
  · cases ho
    refine ⟨rfl, rfl, fun W => ?_⟩
    go_simp; (try with_reducible rfl)
  · simp only [List.setIfInBounds_toArray, List.set_cons_succ, List.set_cons_zero]; exact rfl
  refine regk_free 24 51 (v := ?_) (T' := ?_) (fun _ => HI) (by kernel_rfl) (by kernel_rfl) (by kernel_rfl) (by kernel_rfl) (fun _ _ _ h => h) (fun o ho => ?_) ?_ ?_
  rotate_left 2
  · cases ho
    refine ⟨rfl, rfl, fun W => ?_⟩
    go_simp; (try with_reducible rfl)
  · simp only [List.setIfInBounds_toArray, List.set_cons_succ, List.set_cons_zero]; exact rfl
  refine regk_take 25 52 (v := ?_) (T' := ?_) HI (by kernel_rfl) (by kernel_rfl) (by kernel_rfl) (by kernel_rfl) (by kernel_rfl) (by kernel_rfl) (fun _ _ _ h => h) (fun o ho => ?_) ?_ ?_
  rotate_left 2
  · cases ho
    refine ⟨rfl, rfl, fun W hW => ?_⟩
    have hW := (show W = _ from hW); subst hW; go_simp; (try with_reducible rfl)
  · simp only [List.setIfInBounds_toArray, List.set_cons_succ, List.set_cons_zero]; exact rfl
  refine regk_free 26 53 (v := ?_) (T' := ?_) (fun _ => HI) (by kernel_rfl) (by kernel_rfl) (by kernel_rfl) (by kernel_rfl) (fun _ _ _ h => h) (fun o ho => ?_) ?_ ?_
  rotate_left 2
  · cases ho
    refine ⟨rfl, rfl, fun W => ?_⟩
    go_simp; (try with_reducible rfl)
  · simp only [List.setIfInBounds_toArray, List.set_cons_succ, List.set_cons_zero]; exact rfl
  refine regk_take 27 54 (v := ?_) (T' := ?_) HI (by kernel_rfl) (by kernel_rfl) (by kernel_rfl) (by kernel_rfl) (by kernel_rfl) (by kernel_rfl) (fun _ _ _ h => h) (fun o ho => ?_) ?_ ?_
  rotate_left 2
  · cases ho
    refine ⟨rfl, rfl, fun W hW => ?_⟩
    have hW := (show W = _ from hW); subst hW; go_simp; (try with_reducible rfl)
  · simp only [List.setIfInBounds_toArray, List.set_cons_succ, List.set_cons_zero]; exact rfl
  refine regk_call (I' := (fun W => W = w6.drew)) (fun _ h => h) 28 55 (by kernel_rfl) 32 #[.pointer (some ⟨b, 0, none⟩)] (fun o ho => by cases ho; exact ⟨rfl, rfl, fun W => by go_simp⟩) ?_
  refine HT.out.mono ?_
  rintro e _ ⟨rfl, rfl⟩
  refine ⟨_, _, rfl, fun _ => HI, (by simp only [List.setIfInBounds_toArray, List.set_cons_succ, List.set_cons_zero]; exact rfl), ?_⟩
  refine regk_free 29 56 (v := ?_) (T' := ?_) (fun _ => HI) (by kernel_rfl) (by kernel_rfl) (by kernel_rfl) (by kernel_rfl) (fun _ _ _ h => h) (fun o ho => ?_) ?_ ?_
  rotate_left 2
  · cases ho
    refine ⟨rfl, rfl, fun W => ?_⟩
    go_simp; (try with_reducible rfl)
  · simp only [List.setIfInBounds_toArray, List.set_cons_succ, List.set_cons_zero]; exact rfl
  refine regk_free 30 57 (v := ?_) (T' := ?_) (fun _ => HI) (by kernel_rfl) (by kernel_rfl) (by kernel_rfl) (by kernel_rfl) (fun _ _ _ h => h) (fun o ho => ?_) ?_ ?_
  rotate_left 2
  · cases ho
    refine ⟨rfl, rfl, fun W => ?_⟩
    go_simp; (try with_reducible rfl)
  · simp only [List.setIfInBounds_toArray, List.set_cons_succ, List.set_cons_zero]; exact rfl
  refine regk_free 31 0 (v := ?_) (T' := ?_) (fun _ => HI) (by kernel_rfl) (by kernel_rfl) (by kernel_rfl) (by kernel_rfl) (fun _ _ _ h => h) (fun o ho => ?_) ?_ ?_
  rotate_left 2
  · cases ho
    refine ⟨rfl, rfl, fun W => ?_⟩
    go_simp; (try with_reducible rfl)
  · simp only [List.setIfInBounds_toArray, List.set_cons_zero]; exact rfl
  refine regk_done (by kernel_rfl) ?_
  go_wp2_with fail
  go_ret
  exact ⟨rfl, G.out.trans (((Below.refl _ w6).drewN 1).mono G.out.size)⟩
end Go.Proofs.Ytigdkflknhdbgaa
