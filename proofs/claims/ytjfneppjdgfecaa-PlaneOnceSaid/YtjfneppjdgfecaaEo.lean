/- Layer 5, what the laws call: a rectangle made or not, its sides, areas together, the document's example. -/
import Derived.Test.YtjfneppjdgfecaaEl
import Derived.Test.YtjfneppjdgfecaaEe
namespace Go.Proofs.Ytjfneppjdgfecaa
open Go.RowKit
set_option linter.unusedVariables false
attribute [local go_sem] sto_cx

set_option maxHeartbeats 2000000 in
theorem l_of (r : Re) (w : World) :
    Calls Try.prog 8 #[reV r] w fun e w' => e = .returned (.tuple #[reC (orZ r), .bool (rMay r)]) ∧ Below w.heap.size w w' := by
  have M := Lib.hid (fun w => p_of r.1.1 r.1.2 r.2 w)
  have hre : ∀ r : Re, reC r = .agg #[.complex .f64 (fw r.1.1) (fw r.2.1), .complex .f64 (fw r.1.2) (fw r.2.2)] := fun _ => rfl
  rw [hre] at M ⊢
  clear hre
  obtain ⟨⟨a, b⟩, ⟨c, d⟩⟩ := r
  simp only at M
  generalize orZ ((a, b), (c, d)) = q at *
  generalize rMay ((a, b), (c, d)) = m at *
  unfold spV at M
  unfold reV
  have B1 := Lib.hid (Box.new (w.alloc (.cells #[.int .i64 a, .int .i64 b, .int .i64 c, .int .i64 d] 25)) #[.complex .f64 0 0, .complex .f64 0 0] 28 (w.heap.size + 1) (by simp))
  have G := Lib.hid ((alloc_below w (.cells #[.int .i64 a, .int .i64 b, .int .i64 c, .int .i64 d] 25)).alloc (by simp) (.cells #[.complex .f64 0 0, .complex .f64 0 0] 28))
  go_enter Try.func8, Try.ntmps8
  go_wp2_with fail
  generalize (w.alloc (.cells #[.int .i64 a, .int .i64 b, .int .i64 c, .int .i64 d] 25)).alloc (.cells #[.complex .f64 0 0, .complex .f64 0 0] 28) = W0 at *
  refine (M.out _).mono ?_
  rintro e w1 ⟨rfl, hb1⟩
  have B1 := Lib.hid (B1.out.later hb1)
  have G := Lib.hid (G.out.trans (hb1.mono G.out.size))
  clear hb1
  have f0 := B1.out.frozen 0
  have f1 := B1.out.frozen 1
  have z0 := B1.out.cell 0 (.complex .f64 0 0) rfl
  have z1 := B1.out.cell 1 (.complex .f64 0 0) rfl
  have GZ := Lib.hid ((G.out.setCell (p := ⟨w.heap.size + 1, 0, none⟩) (by simp only; omega) (.complex .f64 (fw q.1.1) (fw q.2.1))).setCell (p := ⟨w.heap.size + 1, 1, none⟩) (by simp only; omega) (.complex .f64 (fw q.1.2) (fw q.2.2)))
  go_wp2_with fail
  refine bodyPost_ret (v := .tuple #[.agg #[.complex .f64 (fw q.1.1) (fw q.2.1), .complex .f64 (fw q.1.2) (fw q.2.2)], .bool m]) ?_ rfl ⟨rfl, GZ.out⟩
  rw [results_cell_tmp rfl]
  go_simp

set_option maxHeartbeats 2000000 in
theorem l_sides {v : Value} {r : Re} (hv : Rc v r) (hr : okR r) (w : World) :
    Calls Try.prog 10 #[v] w fun e w' => e = .returned (reV r) ∧ Below w.heap.size w w' := by
  have M := Lib.hid (fun w => p_sides hv hr w)
  obtain ⟨a1, a2, a3, a4, rfl, -, -, -, -⟩ := hv
  clear hr
  obtain ⟨⟨a, b⟩, ⟨c, d⟩⟩ := r
  unfold spV at M
  unfold reV
  simp only at M ⊢
  have B1 := Lib.hid (Box.new (w.alloc (.cells #[.complex .f64 a1 a2, .complex .f64 a3 a4] 28)) #[.int .i64 0, .int .i64 0, .int .i64 0, .int .i64 0] 25 (w.heap.size + 1) (by simp))
  have G := Lib.hid ((alloc_below w (.cells #[.complex .f64 a1 a2, .complex .f64 a3 a4] 28)).alloc (by simp) (.cells #[.int .i64 0, .int .i64 0, .int .i64 0, .int .i64 0] 25))
  go_enter Try.func10, Try.ntmps10
  go_wp2_with fail
  generalize (w.alloc (.cells #[.complex .f64 a1 a2, .complex .f64 a3 a4] 28)).alloc (.cells #[.int .i64 0, .int .i64 0, .int .i64 0, .int .i64 0] 25) = W0 at *
  refine (M.out _).mono ?_
  rintro e w1 ⟨rfl, hb1⟩
  have G1 := Lib.hid (G.out.trans (hb1.mono G.out.size))
  have B1 := Lib.hid ((B1.out.later hb1).alloc (.cells #[.int .i64 c, .int .i64 d] 23))
  have G := Lib.hid (G1.out.alloc G1.out.size (.cells #[.int .i64 c, .int .i64 d] 23))
  clear hb1 G1
  have f0 := B1.out.frozen 0
  have f1 := B1.out.frozen 1
  have f2 := B1.out.frozen 2
  have f3 := B1.out.frozen 3
  have z0 := B1.out.cell 0 (.int .i64 0) rfl
  have z1 := B1.out.cell 1 (.int .i64 0) rfl
  have z2 := B1.out.cell 2 (.int .i64 0) rfl
  have z3 := B1.out.cell 3 (.int .i64 0) rfl
  have GZ := Lib.hid ((((G.out.setCell (p := ⟨w.heap.size + 1, 0, none⟩) (by simp only; omega) (.int .i64 a)).setCell (p := ⟨w.heap.size + 1, 1, none⟩) (by simp only; omega) (.int .i64 b)).setCell (p := ⟨w.heap.size + 1, 2, none⟩) (by simp only; omega) (.int .i64 c)).setCell (p := ⟨w.heap.size + 1, 3, none⟩) (by simp only; omega) (.int .i64 d))
  go_wp2_with fail
  refine bodyPost_ret (v := .agg #[.int .i64 a, .int .i64 b, .int .i64 c, .int .i64 d]) ?_ rfl ⟨rfl, GZ.out⟩
  rw [results_cell1 rfl]
  go_simp

theorem areas_nonneg (l : List Re) : 0 ≤ areas l := by
  induction l with
  | nil => exact Int.le_refl _
  | cons r l ih =>
    unfold areas at *
    rw [List.map_cons, List.sum_cons]
    have := area_nonneg r
    omega
theorem area_small {r : Re} (h : inN r) : rArea r ≤ 1099511627776 := by
  unfold rArea
  by_cases hr : rMay r = true
  · rw [if_pos hr]
    obtain ⟨n1, n2⟩ := h
    have h1 := mayB_iff.1 (rMay_iff.1 hr).1
    have h2 := mayB_iff.1 (rMay_iff.1 hr).2
    have hm : (r.1.2 - r.1.1) * (r.2.2 - r.2.1) ≤ 1048576 * 1048576 := Int.mul_le_mul (by omega) (by omega) (by omega) (by omega)
    rw [if_neg]
    · omega
    · intro hc
      have : r.2.2 - r.2.1 ≤ 1048576 := by omega
      have h3 : (4398046511104 : Int) ≤ 4611686018427387904 / (r.2.2 - r.2.1) := (Int.le_ediv_iff_mul_le (by omega)).2 (by omega)
      omega
  · rw [if_neg hr]; decide
theorem areas_small {l : List Re} (h : ∀ x ∈ l, inN x) : areas l ≤ 1099511627776 * l.length := by
  induction l with
  | nil => simp [areas]
  | cons r l ih =>
    have h1 := ih (fun x hx => h x (by simp [hx]))
    have h2 := area_small (h r (by simp))
    unfold areas at *
    rw [List.map_cons, List.sum_cons, List.length_cons]
    omega
theorem areas_snoc (l : List Re) (k : Nat) (h : k < l.length) : areas (l.take (k + 1)) = areas (l.take k) + rArea l[k] := by
  unfold areas
  rw [List.take_succ_eq_append_getElem h, List.map_append, List.sum_append]
  simp
theorem areas_take {l : List Re} (h : ∀ x ∈ l, inN x) (hl : l.length ≤ 4096) (k : Nat) : 0 ≤ areas (l.take k) ∧ areas (l.take k) ≤ 4611686018427387904 := by
  refine ⟨areas_nonneg _, ?_⟩
  have h1 := areas_small (l := l.take k) (fun x hx => h x (List.mem_of_mem_take hx))
  have h2 : (l.take k).length ≤ l.length := by rw [List.length_take]; omega
  omega

set_option maxHeartbeats 2000000 in
theorem l_area (v : Value) (l : List Re) (w : World) (h : RdRx w w.heap.size v l) (hok : ∀ x ∈ l, okR x) (hin : ∀ x ∈ l, inN x) (hl : l.length ≤ 4096) :
    Calls Try.prog 20 #[v] w fun e w' => e = .returned (.int .i64 (areas l)) ∧ Below w.heap.size w w' := by
  have H := Lib.hid h
  obtain ⟨A, c, rfl, hlc, hc, -⟩ := h
  have MA := Lib.hid (fun (x : Re) (hx : okR x) w => p_area (Rc.of hx) hx w)
  have hre : ∀ r : Re, reC r = .agg #[.complex .f64 (fw r.1.1) (fw r.2.1), .complex .f64 (fw r.1.2) (fw r.2.2)] := fun _ => rfl
  simp only [hre] at MA
  clear hre
  have AT := Lib.hid (areas_take hin hl)
  have AS := Lib.hid (areas_snoc l)
  have AL := Lib.hid (show areas (l.take l.length) = areas l from by rw [List.take_length])
  have A0 := Lib.hid (show areas (l.take 0) = 0 from rfl)
  have HO := Lib.hid hok
  clear hok hin
  generalize areas l = res at *
  generalize hs : (fun k => areas (l.take k)) = st
  have hst : ∀ k, areas (l.take k) = st k := fun k => by rw [← hs]
  simp only [hst] at AT AS AL A0
  clear hst hs
  go_enter Try.func20, Try.ntmps20
  go_wp2_with fail
  go_loopw [3, 4] (fun x i wr => ∃ k : Nat, i = .int .i64 k ∧ x = .int .i64 (st k) ∧ k ≤ l.length ∧ Below w.heap.size w wr) (fun _ i _ => l.length - (intOf i).toNat)
  case atStart => exact ⟨0, rfl, by rw [A0.out], Nat.zero_le _, Below.refl _ _⟩
  case round =>
    obtain ⟨k, rfl, rfl, hk, hb⟩ := hrel
    have GW := Lib.hid hb
    clear hb
    by_cases hlt : k < l.length
    · obtain ⟨ba, oa, rfl, hba, e0, e1⟩ := RdRx.here (H.out.below GW.out) k hlt
      have SS := Lib.hid (AS.out k hlt)
      have HM := Lib.hid (MA.out l[k] (HO.out _ (List.getElem_mem _)))
      have A1 := Lib.hid (AT.out (k + 1))
      generalize l[k] = x at *
      generalize rArea x = ar at *
      obtain ⟨⟨x1, x2⟩, ⟨x3, x4⟩⟩ := x
      simp only at HM e0 e1
      go_wp2_with fail
      refine (HM.out _).mono ?_
      rintro e w2 ⟨rfl, hb2⟩
      have GZ := Lib.hid (GW.out.trans (hb2.mono GW.out.size))
      clear hb2 e0 e1
      have hw : wrap64 (st k + ar) = st (k + 1) := by
        rw [← SS.out]
        have := A1.out
        unfold wrap64; omega
      go_wp2_with fail
      go_roundw
      case rel => exact ⟨k + 1, by go_num, by first | rw [hw] | rw [SS.out] | (rw [← hw]), by omega, GZ.out⟩
      case measure => simp [intOf]; omega
    · have hke : k = l.length := by omega
      have hv := Lib.hid (show st k = res from by rw [hke, AL.out])
      clear hke
      go_wp2_with fail
      go_ret
      exact ⟨ret_int hv.out, GW.out⟩

def exA : Re := ((0, 4), (0, 4))
def exB : Re := ((1, 2), (1, 2))
set_option maxHeartbeats 4000000 in
theorem l_lives (w : World) :
    Calls Try.prog 13 #[] w fun e w' => e = .returned (.bool true) ∧ Below w.heap.size w w' := by
  have hA : okR exA := .inl (by decide)
  have hB : okR exB := .inl (by decide)
  have O1 := Lib.hid (fun w => p_of 0 4 (0, 4) w)
  have O2 := Lib.hid (fun w => p_of 1 2 (1, 2) w)
  have MM := Lib.hid (fun w => p_rminus (Rc.of hA) hA (Rc.of hB) hB w)
  have MA := Lib.hid (fun w => p_area (Rc.of hA) hA w)
  have H1 := Lib.hid (fun w => p_rhas (Rc.of hA) hA 3 3 w)
  have H2 := Lib.hid (fun w => p_rhas (Rc.of hA) hA 4 3 w)
  rw [show orZ ((0, 4), (0, 4)) = exA from by decide, show rMay ((0, 4), (0, 4)) = true from by decide] at O1
  rw [show orZ ((1, 2), (1, 2)) = exB from by decide, show rMay ((1, 2), (1, 2)) = true from by decide] at O2
  rw [show rArea exA = 16 from by decide] at MA
  rw [show rHas exA 3 3 = true from by decide] at H1
  rw [show rHas exA 4 3 = false from by decide] at H2
  have h4 : (pMinus exA exB).length = 4 := by decide
  generalize pMinus exA exB = mn at *
  have hre : ∀ r : Re, reC r = .agg #[.complex .f64 (fw r.1.1) (fw r.2.1), .complex .f64 (fw r.1.2) (fw r.2.2)] := fun _ => rfl
  simp only [hre, exA, exB, spV] at O1 O2 MM MA H1 H2
  clear hre hA hB
  generalize fw 0 = f0 at *
  generalize fw 4 = f4 at *
  generalize fw 1 = f1 at *
  generalize fw 2 = f2 at *
  go_enter Try.func13, Try.ntmps13
  go_wp2_with fail
  refine (O1.out _).mono ?_
  rintro e w1 ⟨rfl, hb1⟩
  have B1 := Lib.hid (Box.new w1 #[.complex .f64 f0 f0, .complex .f64 f4 f4] 28 _ rfl)
  have G := Lib.hid (hb1.alloc hb1.size (.cells #[.complex .f64 f0 f0, .complex .f64 f4 f4] 28))
  clear hb1
  go_wp2_with fail
  generalize hn1 : w1.heap.size = n1 at *
  generalize w1.alloc (.cells #[.complex .f64 f0 f0, .complex .f64 f4 f4] 28) = W1 at *
  refine (O2.out _).mono ?_
  rintro e w2 ⟨rfl, hb2⟩
  have B2 := Lib.hid (Box.new w2 #[.complex .f64 f1 f1, .complex .f64 f2 f2] 28 _ rfl)
  have B1 := Lib.hid ((B1.out.later hb2).alloc (.cells #[.complex .f64 f1 f1, .complex .f64 f2 f2] 28))
  have G2 := Lib.hid (G.out.trans (hb2.mono G.out.size))
  have G := Lib.hid (G2.out.alloc G2.out.size (.cells #[.complex .f64 f1 f1, .complex .f64 f2 f2] 28))
  clear hb2 G2
  have c10 := B1.out.cell 0 (.complex .f64 f0 f0) rfl
  have c11 := B1.out.cell 1 (.complex .f64 f4 f4) rfl
  go_wp2_with fail
  refine (MM.out _).mono ?_
  rintro e w3 ⟨v3, rfl, ho3, hb3⟩
  have B1 := Lib.hid (B1.out.later hb3)
  have G := Lib.hid (G.out.trans (hb3.mono G.out.size))
  obtain ⟨A3, c3, e3, -⟩ := ho3.rd
  subst e3
  clear hb3 ho3 c10 c11
  rw [h4]
  have c10 := B1.out.cell 0 (.complex .f64 f0 f0) rfl
  have c11 := B1.out.cell 1 (.complex .f64 f4 f4) rfl
  go_wp2_with fail
  refine (MA.out _).mono ?_
  rintro e w4 ⟨rfl, hb4⟩
  have B1 := Lib.hid (B1.out.later hb4)
  have G := Lib.hid (G.out.trans (hb4.mono G.out.size))
  clear hb4 c10 c11
  have c10 := B1.out.cell 0 (.complex .f64 f0 f0) rfl
  have c11 := B1.out.cell 1 (.complex .f64 f4 f4) rfl
  go_wp2_with fail
  refine (H1.out _).mono ?_
  rintro e w5 ⟨rfl, hb5⟩
  have B1 := Lib.hid (B1.out.later hb5)
  have G := Lib.hid (G.out.trans (hb5.mono G.out.size))
  clear hb5 c10 c11
  have c10 := B1.out.cell 0 (.complex .f64 f0 f0) rfl
  have c11 := B1.out.cell 1 (.complex .f64 f4 f4) rfl
  go_wp2_with fail
  refine (H2.out _).mono ?_
  rintro e w6 ⟨rfl, hb6⟩
  have G := Lib.hid (G.out.trans (hb6.mono G.out.size))
  clear hb6 c10 c11
  go_wp2_with fail
  go_ret
  exact ⟨rfl, G.out⟩
end Go.Proofs.Ytjfneppjdgfecaa
