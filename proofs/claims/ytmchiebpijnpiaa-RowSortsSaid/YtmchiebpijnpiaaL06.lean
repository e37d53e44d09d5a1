/- RowSorts: the order of versions is one: of any three, if the first is not behind the second, and that not behind the third, the first is not behind the third; two are of no order just if key, stamp and the span's beginning are the same. No conditions. -/
import Derived.Test.YtmchiebpijnpiaaRp
import Derived.Test.YtmchiebpijnpiaaRq
import Derived.Test.YtmchiebpijnpiaaRr
namespace Go.Proofs.Ytmchiebpijnpiaa.L06
open Go.RowKit Go.ChangeShapes Go.WideShapes Go.ChangeAt
set_option linter.unusedVariables false

theorem stamp_eql_diff (W : World) (b1 e1 s1 b2 e2 s2 : Int) (h : ¬ (b1 = b2 ∧ e1 = e2 ∧ s1 = s2)) : (binOp .eql 23 (.agg #[.int .i64 b1, .int .i64 e1, .int .i64 s1]) (.agg #[.int .i64 b2, .int .i64 e2, .int .i64 s2])).run Try.prog W = .ok (.bool false) W := by
  go_simp
  intro h1 h2 h3
  exact h ⟨h1, h2, h3⟩

set_option maxHeartbeats 16000000 in
theorem walk (a b c : Ver) (w : World) :
    Calls Try.prog 8 #[verV a, verV b, verV c] w fun e w' => e = .returned (.bool true) ∧ Below w.heap.size w w' := by
  have K1 := Lib.hid (fun w => row_compare a b w)
  have K2 := Lib.hid (fun w => row_compare b c w)
  have K3 := Lib.hid (fun w => row_compare a c w)
  have K0 := Lib.hid (fun w => row_compare c c w)
  rw [ver_tells.refl c] at K0
  have T := Lib.hid (ver_tells.trans a b c)
  have Z := Lib.hid (cmpV_zero a b)
  generalize cmpV a b = c1 at *
  generalize cmpV b c = c2 at *
  generalize cmpV a c = c3 at *
  obtain ⟨k1, b1, e1, s1, ⟨x1, y1⟩, u1, g1⟩ := a
  obtain ⟨k2, b2, e2, s2, ⟨x2, y2⟩, u2, g2⟩ := b
  obtain ⟨k3, b3, e3, s3, ⟨x3, y3⟩, u3, g3⟩ := c
  unfold verV at K1 K2 K3 K0 ⊢
  simp only at K1 K2 K3 K0 Z ⊢
  have hs1 : (w.alloc (.cells #[.string k1, .int .i64 b1, .int .i64 e1, .int .i64 s1, .int .i64 x1, .int .i64 y1, .string u1, .bool g1] 27)).heap.size = w.heap.size + 1 := by simp
  have hs2 : ((w.alloc (.cells #[.string k1, .int .i64 b1, .int .i64 e1, .int .i64 s1, .int .i64 x1, .int .i64 y1, .string u1, .bool g1] 27)).alloc (.cells #[.string k2, .int .i64 b2, .int .i64 e2, .int .i64 s2, .int .i64 x2, .int .i64 y2, .string u2, .bool g2] 27)).heap.size = w.heap.size + 1 + 1 := by simp
  have B1 := Lib.hid (Box.new w #[.string k1, .int .i64 b1, .int .i64 e1, .int .i64 s1, .int .i64 x1, .int .i64 y1, .string u1, .bool g1] 27 _ rfl)
  have B1 := Lib.hid ((B1.out.alloc (.cells #[.string k2, .int .i64 b2, .int .i64 e2, .int .i64 s2, .int .i64 x2, .int .i64 y2, .string u2, .bool g2] 27)).alloc (.cells #[.string k3, .int .i64 b3, .int .i64 e3, .int .i64 s3, .int .i64 x3, .int .i64 y3, .string u3, .bool g3] 27))
  have B2 := Lib.hid (Box.new (w.alloc (.cells #[.string k1, .int .i64 b1, .int .i64 e1, .int .i64 s1, .int .i64 x1, .int .i64 y1, .string u1, .bool g1] 27)) #[.string k2, .int .i64 b2, .int .i64 e2, .int .i64 s2, .int .i64 x2, .int .i64 y2, .string u2, .bool g2] 27 _ rfl)
  have B2 := Lib.hid (B2.out.alloc (.cells #[.string k3, .int .i64 b3, .int .i64 e3, .int .i64 s3, .int .i64 x3, .int .i64 y3, .string u3, .bool g3] 27))
  have B3 := Lib.hid (Box.new ((w.alloc (.cells #[.string k1, .int .i64 b1, .int .i64 e1, .int .i64 s1, .int .i64 x1, .int .i64 y1, .string u1, .bool g1] 27)).alloc (.cells #[.string k2, .int .i64 b2, .int .i64 e2, .int .i64 s2, .int .i64 x2, .int .i64 y2, .string u2, .bool g2] 27)) #[.string k3, .int .i64 b3, .int .i64 e3, .int .i64 s3, .int .i64 x3, .int .i64 y3, .string u3, .bool g3] 27 _ rfl)
  have G := Lib.hid (((alloc_below w (.cells #[.string k1, .int .i64 b1, .int .i64 e1, .int .i64 s1, .int .i64 x1, .int .i64 y1, .string u1, .bool g1] 27)).trans ((alloc_below (w.alloc (.cells #[.string k1, .int .i64 b1, .int .i64 e1, .int .i64 s1, .int .i64 x1, .int .i64 y1, .string u1, .bool g1] 27)) (.cells #[.string k2, .int .i64 b2, .int .i64 e2, .int .i64 s2, .int .i64 x2, .int .i64 y2, .string u2, .bool g2] 27)).mono (by simp))).trans ((alloc_below ((w.alloc (.cells #[.string k1, .int .i64 b1, .int .i64 e1, .int .i64 s1, .int .i64 x1, .int .i64 y1, .string u1, .bool g1] 27)).alloc (.cells #[.string k2, .int .i64 b2, .int .i64 e2, .int .i64 s2, .int .i64 x2, .int .i64 y2, .string u2, .bool g2] 27)) (.cells #[.string k3, .int .i64 b3, .int .i64 e3, .int .i64 s3, .int .i64 x3, .int .i64 y3, .string u3, .bool g3] 27)).mono (by simp; omega)))
  rw [hs1] at B2
  rw [hs2] at B3
  clear hs1 hs2
  by_cases hk : k1 = k2
  · by_cases hs : b1 = b2 ∧ e1 = e2 ∧ s1 = s2
    · by_cases hx : x1 = x2
      · have hz : c1 = 0 := Z.out.2 ⟨hk, hs.1, hs.2.1, hs.2.2, hx⟩
        obtain ⟨hsb, hse, hss⟩ := hs
        subst hk hsb hse hss hx
        have dz : (c1 == 0) = true := by simpa using hz
        clear hz
        by_cases z1 : c1 ≤ 0
        · by_cases z2 : c2 ≤ 0
          · have z3 := T.out z1 z2
            have d1 : decide (c1 ≤ 0) = true := by simpa using z1
            have d2 : decide (c2 ≤ 0) = true := by simpa using z2
            have d3 : decide (0 < c3) = false := by rw [decide_eq_false_iff_not]; omega
            go_enter Try.func8, Try.ntmps8
            go_wp2_with fail
            generalize ((w.alloc (.cells #[.string k1, .int .i64 b1, .int .i64 e1, .int .i64 s1, .int .i64 x1, .int .i64 y1, .string u1, .bool g1] 27)).alloc (.cells #[.string k1, .int .i64 b1, .int .i64 e1, .int .i64 s1, .int .i64 x1, .int .i64 y2, .string u2, .bool g2] 27)).alloc (.cells #[.string k3, .int .i64 b3, .int .i64 e3, .int .i64 s3, .int .i64 x3, .int .i64 y3, .string u3, .bool g3] 27) = w0 at *
            have c10 := B1.out.cell 0 (.string k1) rfl
            have c11 := B1.out.cell 1 (.int .i64 b1) rfl
            have c12 := B1.out.cell 2 (.int .i64 e1) rfl
            have c13 := B1.out.cell 3 (.int .i64 s1) rfl
            have c14 := B1.out.cell 4 (.int .i64 x1) rfl
            have c15 := B1.out.cell 5 (.int .i64 y1) rfl
            have c16 := B1.out.cell 6 (.string u1) rfl
            have c17 := B1.out.cell 7 (.bool g1) rfl
            have c20 := B2.out.cell 0 (.string k1) rfl
            have c21 := B2.out.cell 1 (.int .i64 b1) rfl
            have c22 := B2.out.cell 2 (.int .i64 e1) rfl
            have c23 := B2.out.cell 3 (.int .i64 s1) rfl
            have c24 := B2.out.cell 4 (.int .i64 x1) rfl
            have c25 := B2.out.cell 5 (.int .i64 y2) rfl
            have c26 := B2.out.cell 6 (.string u2) rfl
            have c27 := B2.out.cell 7 (.bool g2) rfl
            have c30 := B3.out.cell 0 (.string k3) rfl
            have c31 := B3.out.cell 1 (.int .i64 b3) rfl
            have c32 := B3.out.cell 2 (.int .i64 e3) rfl
            have c33 := B3.out.cell 3 (.int .i64 s3) rfl
            have c34 := B3.out.cell 4 (.int .i64 x3) rfl
            have c35 := B3.out.cell 5 (.int .i64 y3) rfl
            have c36 := B3.out.cell 6 (.string u3) rfl
            have c37 := B3.out.cell 7 (.bool g3) rfl
            go_wp2_with fail
            refine (K1.out _).mono ?_
            rintro z w1 ⟨rfl, hb⟩
            have B1 := Lib.hid (B1.out.later hb)
            have B2 := Lib.hid (B2.out.later hb)
            have B3 := Lib.hid (B3.out.later hb)
            have G := Lib.hid (G.out.trans (hb.mono G.out.size))
            clear hb c10 c11 c12 c13 c14 c15 c16 c17 c20 c21 c22 c23 c24 c25 c26 c27 c30 c31 c32 c33 c34 c35 c36 c37
            have c10 := B1.out.cell 0 (.string k1) rfl
            have c11 := B1.out.cell 1 (.int .i64 b1) rfl
            have c12 := B1.out.cell 2 (.int .i64 e1) rfl
            have c13 := B1.out.cell 3 (.int .i64 s1) rfl
            have c14 := B1.out.cell 4 (.int .i64 x1) rfl
            have c15 := B1.out.cell 5 (.int .i64 y1) rfl
            have c16 := B1.out.cell 6 (.string u1) rfl
            have c17 := B1.out.cell 7 (.bool g1) rfl
            have c20 := B2.out.cell 0 (.string k1) rfl
            have c21 := B2.out.cell 1 (.int .i64 b1) rfl
            have c22 := B2.out.cell 2 (.int .i64 e1) rfl
            have c23 := B2.out.cell 3 (.int .i64 s1) rfl
            have c24 := B2.out.cell 4 (.int .i64 x1) rfl
            have c25 := B2.out.cell 5 (.int .i64 y2) rfl
            have c26 := B2.out.cell 6 (.string u2) rfl
            have c27 := B2.out.cell 7 (.bool g2) rfl
            have c30 := B3.out.cell 0 (.string k3) rfl
            have c31 := B3.out.cell 1 (.int .i64 b3) rfl
            have c32 := B3.out.cell 2 (.int .i64 e3) rfl
            have c33 := B3.out.cell 3 (.int .i64 s3) rfl
            have c34 := B3.out.cell 4 (.int .i64 x3) rfl
            have c35 := B3.out.cell 5 (.int .i64 y3) rfl
            have c36 := B3.out.cell 6 (.string u3) rfl
            have c37 := B3.out.cell 7 (.bool g3) rfl
            go_wp2_with fail
            refine (K2.out _).mono ?_
            rintro z w1 ⟨rfl, hb⟩
            have B1 := Lib.hid (B1.out.later hb)
            have B2 := Lib.hid (B2.out.later hb)
            have B3 := Lib.hid (B3.out.later hb)
            have G := Lib.hid (G.out.trans (hb.mono G.out.size))
            clear hb c10 c11 c12 c13 c14 c15 c16 c17 c20 c21 c22 c23 c24 c25 c26 c27 c30 c31 c32 c33 c34 c35 c36 c37
            have c10 := B1.out.cell 0 (.string k1) rfl
            have c11 := B1.out.cell 1 (.int .i64 b1) rfl
            have c12 := B1.out.cell 2 (.int .i64 e1) rfl
            have c13 := B1.out.cell 3 (.int .i64 s1) rfl
            have c14 := B1.out.cell 4 (.int .i64 x1) rfl
            have c15 := B1.out.cell 5 (.int .i64 y1) rfl
            have c16 := B1.out.cell 6 (.string u1) rfl
            have c17 := B1.out.cell 7 (.bool g1) rfl
            have c20 := B2.out.cell 0 (.string k1) rfl
            have c21 := B2.out.cell 1 (.int .i64 b1) rfl
            have c22 := B2.out.cell 2 (.int .i64 e1) rfl
            have c23 := B2.out.cell 3 (.int .i64 s1) rfl
            have c24 := B2.out.cell 4 (.int .i64 x1) rfl
            have c25 := B2.out.cell 5 (.int .i64 y2) rfl
            have c26 := B2.out.cell 6 (.string u2) rfl
            have c27 := B2.out.cell 7 (.bool g2) rfl
            have c30 := B3.out.cell 0 (.string k3) rfl
            have c31 := B3.out.cell 1 (.int .i64 b3) rfl
            have c32 := B3.out.cell 2 (.int .i64 e3) rfl
            have c33 := B3.out.cell 3 (.int .i64 s3) rfl
            have c34 := B3.out.cell 4 (.int .i64 x3) rfl
            have c35 := B3.out.cell 5 (.int .i64 y3) rfl
            have c36 := B3.out.cell 6 (.string u3) rfl
            have c37 := B3.out.cell 7 (.bool g3) rfl
            go_wp2_with fail
            refine (K3.out _).mono ?_
            rintro z w1 ⟨rfl, hb⟩
            have B1 := Lib.hid (B1.out.later hb)
            have B2 := Lib.hid (B2.out.later hb)
            have B3 := Lib.hid (B3.out.later hb)
            have G := Lib.hid (G.out.trans (hb.mono G.out.size))
            clear hb c10 c11 c12 c13 c14 c15 c16 c17 c20 c21 c22 c23 c24 c25 c26 c27 c30 c31 c32 c33 c34 c35 c36 c37
            have c10 := B1.out.cell 0 (.string k1) rfl
            have c11 := B1.out.cell 1 (.int .i64 b1) rfl
            have c12 := B1.out.cell 2 (.int .i64 e1) rfl
            have c13 := B1.out.cell 3 (.int .i64 s1) rfl
            have c14 := B1.out.cell 4 (.int .i64 x1) rfl
            have c15 := B1.out.cell 5 (.int .i64 y1) rfl
            have c16 := B1.out.cell 6 (.string u1) rfl
            have c17 := B1.out.cell 7 (.bool g1) rfl
            have c20 := B2.out.cell 0 (.string k1) rfl
            have c21 := B2.out.cell 1 (.int .i64 b1) rfl
            have c22 := B2.out.cell 2 (.int .i64 e1) rfl
            have c23 := B2.out.cell 3 (.int .i64 s1) rfl
            have c24 := B2.out.cell 4 (.int .i64 x1) rfl
            have c25 := B2.out.cell 5 (.int .i64 y2) rfl
            have c26 := B2.out.cell 6 (.string u2) rfl
            have c27 := B2.out.cell 7 (.bool g2) rfl
            have c30 := B3.out.cell 0 (.string k3) rfl
            have c31 := B3.out.cell 1 (.int .i64 b3) rfl
            have c32 := B3.out.cell 2 (.int .i64 e3) rfl
            have c33 := B3.out.cell 3 (.int .i64 s3) rfl
            have c34 := B3.out.cell 4 (.int .i64 x3) rfl
            have c35 := B3.out.cell 5 (.int .i64 y3) rfl
            have c36 := B3.out.cell 6 (.string u3) rfl
            have c37 := B3.out.cell 7 (.bool g3) rfl
            go_wp2_with fail
            refine (K1.out _).mono ?_
            rintro z w1 ⟨rfl, hb⟩
            have B1 := Lib.hid (B1.out.later hb)
            have B2 := Lib.hid (B2.out.later hb)
            have B3 := Lib.hid (B3.out.later hb)
            have G := Lib.hid (G.out.trans (hb.mono G.out.size))
            clear hb c10 c11 c12 c13 c14 c15 c16 c17 c20 c21 c22 c23 c24 c25 c26 c27 c30 c31 c32 c33 c34 c35 c36 c37
            have c10 := B1.out.cell 0 (.string k1) rfl
            have c11 := B1.out.cell 1 (.int .i64 b1) rfl
            have c12 := B1.out.cell 2 (.int .i64 e1) rfl
            have c13 := B1.out.cell 3 (.int .i64 s1) rfl
            have c14 := B1.out.cell 4 (.int .i64 x1) rfl
            have c15 := B1.out.cell 5 (.int .i64 y1) rfl
            have c16 := B1.out.cell 6 (.string u1) rfl
            have c17 := B1.out.cell 7 (.bool g1) rfl
            have c20 := B2.out.cell 0 (.string k1) rfl
            have c21 := B2.out.cell 1 (.int .i64 b1) rfl
            have c22 := B2.out.cell 2 (.int .i64 e1) rfl
            have c23 := B2.out.cell 3 (.int .i64 s1) rfl
            have c24 := B2.out.cell 4 (.int .i64 x1) rfl
            have c25 := B2.out.cell 5 (.int .i64 y2) rfl
            have c26 := B2.out.cell 6 (.string u2) rfl
            have c27 := B2.out.cell 7 (.bool g2) rfl
            have c30 := B3.out.cell 0 (.string k3) rfl
            have c31 := B3.out.cell 1 (.int .i64 b3) rfl
            have c32 := B3.out.cell 2 (.int .i64 e3) rfl
            have c33 := B3.out.cell 3 (.int .i64 s3) rfl
            have c34 := B3.out.cell 4 (.int .i64 x3) rfl
            have c35 := B3.out.cell 5 (.int .i64 y3) rfl
            have c36 := B3.out.cell 6 (.string u3) rfl
            have c37 := B3.out.cell 7 (.bool g3) rfl
            go_wp2_with fail
            refine (K0.out _).mono ?_
            rintro z w1 ⟨rfl, hb⟩
            have B1 := Lib.hid (B1.out.later hb)
            have B2 := Lib.hid (B2.out.later hb)
            have B3 := Lib.hid (B3.out.later hb)
            have G := Lib.hid (G.out.trans (hb.mono G.out.size))
            clear hb c10 c11 c12 c13 c14 c15 c16 c17 c20 c21 c22 c23 c24 c25 c26 c27 c30 c31 c32 c33 c34 c35 c36 c37
            have c10 := B1.out.cell 0 (.string k1) rfl
            have c11 := B1.out.cell 1 (.int .i64 b1) rfl
            have c12 := B1.out.cell 2 (.int .i64 e1) rfl
            have c13 := B1.out.cell 3 (.int .i64 s1) rfl
            have c14 := B1.out.cell 4 (.int .i64 x1) rfl
            have c15 := B1.out.cell 5 (.int .i64 y1) rfl
            have c16 := B1.out.cell 6 (.string u1) rfl
            have c17 := B1.out.cell 7 (.bool g1) rfl
            have c20 := B2.out.cell 0 (.string k1) rfl
            have c21 := B2.out.cell 1 (.int .i64 b1) rfl
            have c22 := B2.out.cell 2 (.int .i64 e1) rfl
            have c23 := B2.out.cell 3 (.int .i64 s1) rfl
            have c24 := B2.out.cell 4 (.int .i64 x1) rfl
            have c25 := B2.out.cell 5 (.int .i64 y2) rfl
            have c26 := B2.out.cell 6 (.string u2) rfl
            have c27 := B2.out.cell 7 (.bool g2) rfl
            have c30 := B3.out.cell 0 (.string k3) rfl
            have c31 := B3.out.cell 1 (.int .i64 b3) rfl
            have c32 := B3.out.cell 2 (.int .i64 e3) rfl
            have c33 := B3.out.cell 3 (.int .i64 s3) rfl
            have c34 := B3.out.cell 4 (.int .i64 x3) rfl
            have c35 := B3.out.cell 5 (.int .i64 y3) rfl
            have c36 := B3.out.cell 6 (.string u3) rfl
            have c37 := B3.out.cell 7 (.bool g3) rfl
            go_wp2_with fail
            refine (lives_any _).mono ?_
            rintro z w5 ⟨rfl, hb5⟩
            have G := Lib.hid (G.out.trans (hb5.mono G.out.size))
            clear hb5 c10 c11 c12 c13 c14 c15 c16 c17 c20 c21 c22 c23 c24 c25 c26 c27 c30 c31 c32 c33 c34 c35 c36 c37
            go_wp2_with fail
            go_ret
            exact ⟨rfl, G.out⟩
          · have d1 : decide (c1 ≤ 0) = true := by simpa using z1
            have d2 : decide (c2 ≤ 0) = false := by rw [decide_eq_false_iff_not]; omega
            go_enter Try.func8, Try.ntmps8
            go_wp2_with fail
            generalize ((w.alloc (.cells #[.string k1, .int .i64 b1, .int .i64 e1, .int .i64 s1, .int .i64 x1, .int .i64 y1, .string u1, .bool g1] 27)).alloc (.cells #[.string k1, .int .i64 b1, .int .i64 e1, .int .i64 s1, .int .i64 x1, .int .i64 y2, .string u2, .bool g2] 27)).alloc (.cells #[.string k3, .int .i64 b3, .int .i64 e3, .int .i64 s3, .int .i64 x3, .int .i64 y3, .string u3, .bool g3] 27) = w0 at *
            have c10 := B1.out.cell 0 (.string k1) rfl
            have c11 := B1.out.cell 1 (.int .i64 b1) rfl
            have c12 := B1.out.cell 2 (.int .i64 e1) rfl
            have c13 := B1.out.cell 3 (.int .i64 s1) rfl
            have c14 := B1.out.cell 4 (.int .i64 x1) rfl
            have c15 := B1.out.cell 5 (.int .i64 y1) rfl
            have c16 := B1.out.cell 6 (.string u1) rfl
            have c17 := B1.out.cell 7 (.bool g1) rfl
            have c20 := B2.out.cell 0 (.string k1) rfl
            have c21 := B2.out.cell 1 (.int .i64 b1) rfl
            have c22 := B2.out.cell 2 (.int .i64 e1) rfl
            have c23 := B2.out.cell 3 (.int .i64 s1) rfl
            have c24 := B2.out.cell 4 (.int .i64 x1) rfl
            have c25 := B2.out.cell 5 (.int .i64 y2) rfl
            have c26 := B2.out.cell 6 (.string u2) rfl
            have c27 := B2.out.cell 7 (.bool g2) rfl
            have c30 := B3.out.cell 0 (.string k3) rfl
            have c31 := B3.out.cell 1 (.int .i64 b3) rfl
            have c32 := B3.out.cell 2 (.int .i64 e3) rfl
            have c33 := B3.out.cell 3 (.int .i64 s3) rfl
            have c34 := B3.out.cell 4 (.int .i64 x3) rfl
            have c35 := B3.out.cell 5 (.int .i64 y3) rfl
            have c36 := B3.out.cell 6 (.string u3) rfl
            have c37 := B3.out.cell 7 (.bool g3) rfl
            go_wp2_with fail
            refine (K1.out _).mono ?_
            rintro z w1 ⟨rfl, hb⟩
            have B1 := Lib.hid (B1.out.later hb)
            have B2 := Lib.hid (B2.out.later hb)
            have B3 := Lib.hid (B3.out.later hb)
            have G := Lib.hid (G.out.trans (hb.mono G.out.size))
            clear hb c10 c11 c12 c13 c14 c15 c16 c17 c20 c21 c22 c23 c24 c25 c26 c27 c30 c31 c32 c33 c34 c35 c36 c37
            have c10 := B1.out.cell 0 (.string k1) rfl
            have c11 := B1.out.cell 1 (.int .i64 b1) rfl
            have c12 := B1.out.cell 2 (.int .i64 e1) rfl
            have c13 := B1.out.cell 3 (.int .i64 s1) rfl
            have c14 := B1.out.cell 4 (.int .i64 x1) rfl
            have c15 := B1.out.cell 5 (.int .i64 y1) rfl
            have c16 := B1.out.cell 6 (.string u1) rfl
            have c17 := B1.out.cell 7 (.bool g1) rfl
            have c20 := B2.out.cell 0 (.string k1) rfl
            have c21 := B2.out.cell 1 (.int .i64 b1) rfl
            have c22 := B2.out.cell 2 (.int .i64 e1) rfl
            have c23 := B2.out.cell 3 (.int .i64 s1) rfl
            have c24 := B2.out.cell 4 (.int .i64 x1) rfl
            have c25 := B2.out.cell 5 (.int .i64 y2) rfl
            have c26 := B2.out.cell 6 (.string u2) rfl
            have c27 := B2.out.cell 7 (.bool g2) rfl
            have c30 := B3.out.cell 0 (.string k3) rfl
            have c31 := B3.out.cell 1 (.int .i64 b3) rfl
            have c32 := B3.out.cell 2 (.int .i64 e3) rfl
            have c33 := B3.out.cell 3 (.int .i64 s3) rfl
            have c34 := B3.out.cell 4 (.int .i64 x3) rfl
            have c35 := B3.out.cell 5 (.int .i64 y3) rfl
            have c36 := B3.out.cell 6 (.string u3) rfl
            have c37 := B3.out.cell 7 (.bool g3) rfl
            go_wp2_with fail
            refine (K2.out _).mono ?_
            rintro z w1 ⟨rfl, hb⟩
            have B1 := Lib.hid (B1.out.later hb)
            have B2 := Lib.hid (B2.out.later hb)
            have B3 := Lib.hid (B3.out.later hb)
            have G := Lib.hid (G.out.trans (hb.mono G.out.size))
            clear hb c10 c11 c12 c13 c14 c15 c16 c17 c20 c21 c22 c23 c24 c25 c26 c27 c30 c31 c32 c33 c34 c35 c36 c37
            have c10 := B1.out.cell 0 (.string k1) rfl
            have c11 := B1.out.cell 1 (.int .i64 b1) rfl
            have c12 := B1.out.cell 2 (.int .i64 e1) rfl
            have c13 := B1.out.cell 3 (.int .i64 s1) rfl
            have c14 := B1.out.cell 4 (.int .i64 x1) rfl
            have c15 := B1.out.cell 5 (.int .i64 y1) rfl
            have c16 := B1.out.cell 6 (.string u1) rfl
            have c17 := B1.out.cell 7 (.bool g1) rfl
            have c20 := B2.out.cell 0 (.string k1) rfl
            have c21 := B2.out.cell 1 (.int .i64 b1) rfl
            have c22 := B2.out.cell 2 (.int .i64 e1) rfl
            have c23 := B2.out.cell 3 (.int .i64 s1) rfl
            have c24 := B2.out.cell 4 (.int .i64 x1) rfl
            have c25 := B2.out.cell 5 (.int .i64 y2) rfl
            have c26 := B2.out.cell 6 (.string u2) rfl
            have c27 := B2.out.cell 7 (.bool g2) rfl
            have c30 := B3.out.cell 0 (.string k3) rfl
            have c31 := B3.out.cell 1 (.int .i64 b3) rfl
            have c32 := B3.out.cell 2 (.int .i64 e3) rfl
            have c33 := B3.out.cell 3 (.int .i64 s3) rfl
            have c34 := B3.out.cell 4 (.int .i64 x3) rfl
            have c35 := B3.out.cell 5 (.int .i64 y3) rfl
            have c36 := B3.out.cell 6 (.string u3) rfl
            have c37 := B3.out.cell 7 (.bool g3) rfl
            go_wp2_with fail
            refine (K1.out _).mono ?_
            rintro z w1 ⟨rfl, hb⟩
            have B1 := Lib.hid (B1.out.later hb)
            have B2 := Lib.hid (B2.out.later hb)
            have B3 := Lib.hid (B3.out.later hb)
            have G := Lib.hid (G.out.trans (hb.mono G.out.size))
            clear hb c10 c11 c12 c13 c14 c15 c16 c17 c20 c21 c22 c23 c24 c25 c26 c27 c30 c31 c32 c33 c34 c35 c36 c37
            have c10 := B1.out.cell 0 (.string k1) rfl
            have c11 := B1.out.cell 1 (.int .i64 b1) rfl
            have c12 := B1.out.cell 2 (.int .i64 e1) rfl
            have c13 := B1.out.cell 3 (.int .i64 s1) rfl
            have c14 := B1.out.cell 4 (.int .i64 x1) rfl
            have c15 := B1.out.cell 5 (.int .i64 y1) rfl
            have c16 := B1.out.cell 6 (.string u1) rfl
            have c17 := B1.out.cell 7 (.bool g1) rfl
            have c20 := B2.out.cell 0 (.string k1) rfl
            have c21 := B2.out.cell 1 (.int .i64 b1) rfl
            have c22 := B2.out.cell 2 (.int .i64 e1) rfl
            have c23 := B2.out.cell 3 (.int .i64 s1) rfl
            have c24 := B2.out.cell 4 (.int .i64 x1) rfl
            have c25 := B2.out.cell 5 (.int .i64 y2) rfl
            have c26 := B2.out.cell 6 (.string u2) rfl
            have c27 := B2.out.cell 7 (.bool g2) rfl
            have c30 := B3.out.cell 0 (.string k3) rfl
            have c31 := B3.out.cell 1 (.int .i64 b3) rfl
            have c32 := B3.out.cell 2 (.int .i64 e3) rfl
            have c33 := B3.out.cell 3 (.int .i64 s3) rfl
            have c34 := B3.out.cell 4 (.int .i64 x3) rfl
            have c35 := B3.out.cell 5 (.int .i64 y3) rfl
            have c36 := B3.out.cell 6 (.string u3) rfl
            have c37 := B3.out.cell 7 (.bool g3) rfl
            go_wp2_with fail
            refine (K0.out _).mono ?_
            rintro z w1 ⟨rfl, hb⟩
            have B1 := Lib.hid (B1.out.later hb)
            have B2 := Lib.hid (B2.out.later hb)
            have B3 := Lib.hid (B3.out.later hb)
            have G := Lib.hid (G.out.trans (hb.mono G.out.size))
            clear hb c10 c11 c12 c13 c14 c15 c16 c17 c20 c21 c22 c23 c24 c25 c26 c27 c30 c31 c32 c33 c34 c35 c36 c37
            have c10 := B1.out.cell 0 (.string k1) rfl
            have c11 := B1.out.cell 1 (.int .i64 b1) rfl
            have c12 := B1.out.cell 2 (.int .i64 e1) rfl
            have c13 := B1.out.cell 3 (.int .i64 s1) rfl
            have c14 := B1.out.cell 4 (.int .i64 x1) rfl
            have c15 := B1.out.cell 5 (.int .i64 y1) rfl
            have c16 := B1.out.cell 6 (.string u1) rfl
            have c17 := B1.out.cell 7 (.bool g1) rfl
            have c20 := B2.out.cell 0 (.string k1) rfl
            have c21 := B2.out.cell 1 (.int .i64 b1) rfl
            have c22 := B2.out.cell 2 (.int .i64 e1) rfl
            have c23 := B2.out.cell 3 (.int .i64 s1) rfl
            have c24 := B2.out.cell 4 (.int .i64 x1) rfl
            have c25 := B2.out.cell 5 (.int .i64 y2) rfl
            have c26 := B2.out.cell 6 (.string u2) rfl
            have c27 := B2.out.cell 7 (.bool g2) rfl
            have c30 := B3.out.cell 0 (.string k3) rfl
            have c31 := B3.out.cell 1 (.int .i64 b3) rfl
            have c32 := B3.out.cell 2 (.int .i64 e3) rfl
            have c33 := B3.out.cell 3 (.int .i64 s3) rfl
            have c34 := B3.out.cell 4 (.int .i64 x3) rfl
            have c35 := B3.out.cell 5 (.int .i64 y3) rfl
            have c36 := B3.out.cell 6 (.string u3) rfl
            have c37 := B3.out.cell 7 (.bool g3) rfl
            go_wp2_with fail
            refine (lives_any _).mono ?_
            rintro z w5 ⟨rfl, hb5⟩
            have G := Lib.hid (G.out.trans (hb5.mono G.out.size))
            clear hb5 c10 c11 c12 c13 c14 c15 c16 c17 c20 c21 c22 c23 c24 c25 c26 c27 c30 c31 c32 c33 c34 c35 c36 c37
            go_wp2_with fail
            go_ret
            exact ⟨rfl, G.out⟩
        · have d1 : decide (c1 ≤ 0) = false := by rw [decide_eq_false_iff_not]; omega
          go_enter Try.func8, Try.ntmps8
          go_wp2_with fail
          generalize ((w.alloc (.cells #[.string k1, .int .i64 b1, .int .i64 e1, .int .i64 s1, .int .i64 x1, .int .i64 y1, .string u1, .bool g1] 27)).alloc (.cells #[.string k1, .int .i64 b1, .int .i64 e1, .int .i64 s1, .int .i64 x1, .int .i64 y2, .string u2, .bool g2] 27)).alloc (.cells #[.string k3, .int .i64 b3, .int .i64 e3, .int .i64 s3, .int .i64 x3, .int .i64 y3, .string u3, .bool g3] 27) = w0 at *
          have c10 := B1.out.cell 0 (.string k1) rfl
          have c11 := B1.out.cell 1 (.int .i64 b1) rfl
          have c12 := B1.out.cell 2 (.int .i64 e1) rfl
          have c13 := B1.out.cell 3 (.int .i64 s1) rfl
          have c14 := B1.out.cell 4 (.int .i64 x1) rfl
          have c15 := B1.out.cell 5 (.int .i64 y1) rfl
          have c16 := B1.out.cell 6 (.string u1) rfl
          have c17 := B1.out.cell 7 (.bool g1) rfl
          have c20 := B2.out.cell 0 (.string k1) rfl
          have c21 := B2.out.cell 1 (.int .i64 b1) rfl
          have c22 := B2.out.cell 2 (.int .i64 e1) rfl
          have c23 := B2.out.cell 3 (.int .i64 s1) rfl
          have c24 := B2.out.cell 4 (.int .i64 x1) rfl
          have c25 := B2.out.cell 5 (.int .i64 y2) rfl
          have c26 := B2.out.cell 6 (.string u2) rfl
          have c27 := B2.out.cell 7 (.bool g2) rfl
          have c30 := B3.out.cell 0 (.string k3) rfl
          have c31 := B3.out.cell 1 (.int .i64 b3) rfl
          have c32 := B3.out.cell 2 (.int .i64 e3) rfl
          have c33 := B3.out.cell 3 (.int .i64 s3) rfl
          have c34 := B3.out.cell 4 (.int .i64 x3) rfl
          have c35 := B3.out.cell 5 (.int .i64 y3) rfl
          have c36 := B3.out.cell 6 (.string u3) rfl
          have c37 := B3.out.cell 7 (.bool g3) rfl
          go_wp2_with fail
          refine (K1.out _).mono ?_
          rintro z w1 ⟨rfl, hb⟩
          have B1 := Lib.hid (B1.out.later hb)
          have B2 := Lib.hid (B2.out.later hb)
          have B3 := Lib.hid (B3.out.later hb)
          have G := Lib.hid (G.out.trans (hb.mono G.out.size))
          clear hb c10 c11 c12 c13 c14 c15 c16 c17 c20 c21 c22 c23 c24 c25 c26 c27 c30 c31 c32 c33 c34 c35 c36 c37
          have c10 := B1.out.cell 0 (.string k1) rfl
          have c11 := B1.out.cell 1 (.int .i64 b1) rfl
          have c12 := B1.out.cell 2 (.int .i64 e1) rfl
          have c13 := B1.out.cell 3 (.int .i64 s1) rfl
          have c14 := B1.out.cell 4 (.int .i64 x1) rfl
          have c15 := B1.out.cell 5 (.int .i64 y1) rfl
          have c16 := B1.out.cell 6 (.string u1) rfl
          have c17 := B1.out.cell 7 (.bool g1) rfl
          have c20 := B2.out.cell 0 (.string k1) rfl
          have c21 := B2.out.cell 1 (.int .i64 b1) rfl
          have c22 := B2.out.cell 2 (.int .i64 e1) rfl
          have c23 := B2.out.cell 3 (.int .i64 s1) rfl
          have c24 := B2.out.cell 4 (.int .i64 x1) rfl
          have c25 := B2.out.cell 5 (.int .i64 y2) rfl
          have c26 := B2.out.cell 6 (.string u2) rfl
          have c27 := B2.out.cell 7 (.bool g2) rfl
          have c30 := B3.out.cell 0 (.string k3) rfl
          have c31 := B3.out.cell 1 (.int .i64 b3) rfl
          have c32 := B3.out.cell 2 (.int .i64 e3) rfl
          have c33 := B3.out.cell 3 (.int .i64 s3) rfl
          have c34 := B3.out.cell 4 (.int .i64 x3) rfl
          have c35 := B3.out.cell 5 (.int .i64 y3) rfl
          have c36 := B3.out.cell 6 (.string u3) rfl
          have c37 := B3.out.cell 7 (.bool g3) rfl
          go_wp2_with fail
          refine (K1.out _).mono ?_
          rintro z w1 ⟨rfl, hb⟩
          have B1 := Lib.hid (B1.out.later hb)
          have B2 := Lib.hid (B2.out.later hb)
          have B3 := Lib.hid (B3.out.later hb)
          have G := Lib.hid (G.out.trans (hb.mono G.out.size))
          clear hb c10 c11 c12 c13 c14 c15 c16 c17 c20 c21 c22 c23 c24 c25 c26 c27 c30 c31 c32 c33 c34 c35 c36 c37
          have c10 := B1.out.cell 0 (.string k1) rfl
          have c11 := B1.out.cell 1 (.int .i64 b1) rfl
          have c12 := B1.out.cell 2 (.int .i64 e1) rfl
          have c13 := B1.out.cell 3 (.int .i64 s1) rfl
          have c14 := B1.out.cell 4 (.int .i64 x1) rfl
          have c15 := B1.out.cell 5 (.int .i64 y1) rfl
          have c16 := B1.out.cell 6 (.string u1) rfl
          have c17 := B1.out.cell 7 (.bool g1) rfl
          have c20 := B2.out.cell 0 (.string k1) rfl
          have c21 := B2.out.cell 1 (.int .i64 b1) rfl
          have c22 := B2.out.cell 2 (.int .i64 e1) rfl
          have c23 := B2.out.cell 3 (.int .i64 s1) rfl
          have c24 := B2.out.cell 4 (.int .i64 x1) rfl
          have c25 := B2.out.cell 5 (.int .i64 y2) rfl
          have c26 := B2.out.cell 6 (.string u2) rfl
          have c27 := B2.out.cell 7 (.bool g2) rfl
          have c30 := B3.out.cell 0 (.string k3) rfl
          have c31 := B3.out.cell 1 (.int .i64 b3) rfl
          have c32 := B3.out.cell 2 (.int .i64 e3) rfl
          have c33 := B3.out.cell 3 (.int .i64 s3) rfl
          have c34 := B3.out.cell 4 (.int .i64 x3) rfl
          have c35 := B3.out.cell 5 (.int .i64 y3) rfl
          have c36 := B3.out.cell 6 (.string u3) rfl
          have c37 := B3.out.cell 7 (.bool g3) rfl
          go_wp2_with fail
          refine (K0.out _).mono ?_
          rintro z w1 ⟨rfl, hb⟩
          have B1 := Lib.hid (B1.out.later hb)
          have B2 := Lib.hid (B2.out.later hb)
          have B3 := Lib.hid (B3.out.later hb)
          have G := Lib.hid (G.out.trans (hb.mono G.out.size))
          clear hb c10 c11 c12 c13 c14 c15 c16 c17 c20 c21 c22 c23 c24 c25 c26 c27 c30 c31 c32 c33 c34 c35 c36 c37
          have c10 := B1.out.cell 0 (.string k1) rfl
          have c11 := B1.out.cell 1 (.int .i64 b1) rfl
          have c12 := B1.out.cell 2 (.int .i64 e1) rfl
          have c13 := B1.out.cell 3 (.int .i64 s1) rfl
          have c14 := B1.out.cell 4 (.int .i64 x1) rfl
          have c15 := B1.out.cell 5 (.int .i64 y1) rfl
          have c16 := B1.out.cell 6 (.string u1) rfl
          have c17 := B1.out.cell 7 (.bool g1) rfl
          have c20 := B2.out.cell 0 (.string k1) rfl
          have c21 := B2.out.cell 1 (.int .i64 b1) rfl
          have c22 := B2.out.cell 2 (.int .i64 e1) rfl
          have c23 := B2.out.cell 3 (.int .i64 s1) rfl
          have c24 := B2.out.cell 4 (.int .i64 x1) rfl
          have c25 := B2.out.cell 5 (.int .i64 y2) rfl
          have c26 := B2.out.cell 6 (.string u2) rfl
          have c27 := B2.out.cell 7 (.bool g2) rfl
          have c30 := B3.out.cell 0 (.string k3) rfl
          have c31 := B3.out.cell 1 (.int .i64 b3) rfl
          have c32 := B3.out.cell 2 (.int .i64 e3) rfl
          have c33 := B3.out.cell 3 (.int .i64 s3) rfl
          have c34 := B3.out.cell 4 (.int .i64 x3) rfl
          have c35 := B3.out.cell 5 (.int .i64 y3) rfl
          have c36 := B3.out.cell 6 (.string u3) rfl
          have c37 := B3.out.cell 7 (.bool g3) rfl
          go_wp2_with fail
          refine (lives_any _).mono ?_
          rintro z w5 ⟨rfl, hb5⟩
          have G := Lib.hid (G.out.trans (hb5.mono G.out.size))
          clear hb5 c10 c11 c12 c13 c14 c15 c16 c17 c20 c21 c22 c23 c24 c25 c26 c27 c30 c31 c32 c33 c34 c35 c36 c37
          go_wp2_with fail
          go_ret
          exact ⟨rfl, G.out⟩
      · have hz : c1 ≠ 0 := fun h => hx (Z.out.1 h).2.2.2.2
        obtain ⟨hsb, hse, hss⟩ := hs
        subst hk hsb hse hss
        have dx : (x1 == x2) = false := by simpa using hx
        have dz : (c1 == 0) = false := by simpa using hz
        clear hz hx
        by_cases z1 : c1 ≤ 0
        · by_cases z2 : c2 ≤ 0
          · have z3 := T.out z1 z2
            have d1 : decide (c1 ≤ 0) = true := by simpa using z1
            have d2 : decide (c2 ≤ 0) = true := by simpa using z2
            have d3 : decide (0 < c3) = false := by rw [decide_eq_false_iff_not]; omega
            go_enter Try.func8, Try.ntmps8
            go_wp2_with fail
            generalize ((w.alloc (.cells #[.string k1, .int .i64 b1, .int .i64 e1, .int .i64 s1, .int .i64 x1, .int .i64 y1, .string u1, .bool g1] 27)).alloc (.cells #[.string k1, .int .i64 b1, .int .i64 e1, .int .i64 s1, .int .i64 x2, .int .i64 y2, .string u2, .bool g2] 27)).alloc (.cells #[.string k3, .int .i64 b3, .int .i64 e3, .int .i64 s3, .int .i64 x3, .int .i64 y3, .string u3, .bool g3] 27) = w0 at *
            have c10 := B1.out.cell 0 (.string k1) rfl
            have c11 := B1.out.cell 1 (.int .i64 b1) rfl
            have c12 := B1.out.cell 2 (.int .i64 e1) rfl
            have c13 := B1.out.cell 3 (.int .i64 s1) rfl
            have c14 := B1.out.cell 4 (.int .i64 x1) rfl
            have c15 := B1.out.cell 5 (.int .i64 y1) rfl
            have c16 := B1.out.cell 6 (.string u1) rfl
            have c17 := B1.out.cell 7 (.bool g1) rfl
            have c20 := B2.out.cell 0 (.string k1) rfl
            have c21 := B2.out.cell 1 (.int .i64 b1) rfl
            have c22 := B2.out.cell 2 (.int .i64 e1) rfl
            have c23 := B2.out.cell 3 (.int .i64 s1) rfl
            have c24 := B2.out.cell 4 (.int .i64 x2) rfl
            have c25 := B2.out.cell 5 (.int .i64 y2) rfl
            have c26 := B2.out.cell 6 (.string u2) rfl
            have c27 := B2.out.cell 7 (.bool g2) rfl
            have c30 := B3.out.cell 0 (.string k3) rfl
            have c31 := B3.out.cell 1 (.int .i64 b3) rfl
            have c32 := B3.out.cell 2 (.int .i64 e3) rfl
            have c33 := B3.out.cell 3 (.int .i64 s3) rfl
            have c34 := B3.out.cell 4 (.int .i64 x3) rfl
            have c35 := B3.out.cell 5 (.int .i64 y3) rfl
            have c36 := B3.out.cell 6 (.string u3) rfl
            have c37 := B3.out.cell 7 (.bool g3) rfl
            go_wp2_with fail
            refine (K1.out _).mono ?_
            rintro z w1 ⟨rfl, hb⟩
            have B1 := Lib.hid (B1.out.later hb)
            have B2 := Lib.hid (B2.out.later hb)
            have B3 := Lib.hid (B3.out.later hb)
            have G := Lib.hid (G.out.trans (hb.mono G.out.size))
            clear hb c10 c11 c12 c13 c14 c15 c16 c17 c20 c21 c22 c23 c24 c25 c26 c27 c30 c31 c32 c33 c34 c35 c36 c37
            have c10 := B1.out.cell 0 (.string k1) rfl
            have c11 := B1.out.cell 1 (.int .i64 b1) rfl
            have c12 := B1.out.cell 2 (.int .i64 e1) rfl
            have c13 := B1.out.cell 3 (.int .i64 s1) rfl
            have c14 := B1.out.cell 4 (.int .i64 x1) rfl
            have c15 := B1.out.cell 5 (.int .i64 y1) rfl
            have c16 := B1.out.cell 6 (.string u1) rfl
            have c17 := B1.out.cell 7 (.bool g1) rfl
            have c20 := B2.out.cell 0 (.string k1) rfl
            have c21 := B2.out.cell 1 (.int .i64 b1) rfl
            have c22 := B2.out.cell 2 (.int .i64 e1) rfl
            have c23 := B2.out.cell 3 (.int .i64 s1) rfl
            have c24 := B2.out.cell 4 (.int .i64 x2) rfl
            have c25 := B2.out.cell 5 (.int .i64 y2) rfl
            have c26 := B2.out.cell 6 (.string u2) rfl
            have c27 := B2.out.cell 7 (.bool g2) rfl
            have c30 := B3.out.cell 0 (.string k3) rfl
            have c31 := B3.out.cell 1 (.int .i64 b3) rfl
            have c32 := B3.out.cell 2 (.int .i64 e3) rfl
            have c33 := B3.out.cell 3 (.int .i64 s3) rfl
            have c34 := B3.out.cell 4 (.int .i64 x3) rfl
            have c35 := B3.out.cell 5 (.int .i64 y3) rfl
            have c36 := B3.out.cell 6 (.string u3) rfl
            have c37 := B3.out.cell 7 (.bool g3) rfl
            go_wp2_with fail
            refine (K2.out _).mono ?_
            rintro z w1 ⟨rfl, hb⟩
            have B1 := Lib.hid (B1.out.later hb)
            have B2 := Lib.hid (B2.out.later hb)
            have B3 := Lib.hid (B3.out.later hb)
            have G := Lib.hid (G.out.trans (hb.mono G.out.size))
            clear hb c10 c11 c12 c13 c14 c15 c16 c17 c20 c21 c22 c23 c24 c25 c26 c27 c30 c31 c32 c33 c34 c35 c36 c37
            have c10 := B1.out.cell 0 (.string k1) rfl
            have c11 := B1.out.cell 1 (.int .i64 b1) rfl
            have c12 := B1.out.cell 2 (.int .i64 e1) rfl
            have c13 := B1.out.cell 3 (.int .i64 s1) rfl
            have c14 := B1.out.cell 4 (.int .i64 x1) rfl
            have c15 := B1.out.cell 5 (.int .i64 y1) rfl
            have c16 := B1.out.cell 6 (.string u1) rfl
            have c17 := B1.out.cell 7 (.bool g1) rfl
            have c20 := B2.out.cell 0 (.string k1) rfl
            have c21 := B2.out.cell 1 (.int .i64 b1) rfl
            have c22 := B2.out.cell 2 (.int .i64 e1) rfl
            have c23 := B2.out.cell 3 (.int .i64 s1) rfl
            have c24 := B2.out.cell 4 (.int .i64 x2) rfl
            have c25 := B2.out.cell 5 (.int .i64 y2) rfl
            have c26 := B2.out.cell 6 (.string u2) rfl
            have c27 := B2.out.cell 7 (.bool g2) rfl
            have c30 := B3.out.cell 0 (.string k3) rfl
            have c31 := B3.out.cell 1 (.int .i64 b3) rfl
            have c32 := B3.out.cell 2 (.int .i64 e3) rfl
            have c33 := B3.out.cell 3 (.int .i64 s3) rfl
            have c34 := B3.out.cell 4 (.int .i64 x3) rfl
            have c35 := B3.out.cell 5 (.int .i64 y3) rfl
            have c36 := B3.out.cell 6 (.string u3) rfl
            have c37 := B3.out.cell 7 (.bool g3) rfl
            go_wp2_with fail
            refine (K3.out _).mono ?_
            rintro z w1 ⟨rfl, hb⟩
            have B1 := Lib.hid (B1.out.later hb)
            have B2 := Lib.hid (B2.out.later hb)
            have B3 := Lib.hid (B3.out.later hb)
            have G := Lib.hid (G.out.trans (hb.mono G.out.size))
            clear hb c10 c11 c12 c13 c14 c15 c16 c17 c20 c21 c22 c23 c24 c25 c26 c27 c30 c31 c32 c33 c34 c35 c36 c37
            have c10 := B1.out.cell 0 (.string k1) rfl
            have c11 := B1.out.cell 1 (.int .i64 b1) rfl
            have c12 := B1.out.cell 2 (.int .i64 e1) rfl
            have c13 := B1.out.cell 3 (.int .i64 s1) rfl
            have c14 := B1.out.cell 4 (.int .i64 x1) rfl
            have c15 := B1.out.cell 5 (.int .i64 y1) rfl
            have c16 := B1.out.cell 6 (.string u1) rfl
            have c17 := B1.out.cell 7 (.bool g1) rfl
            have c20 := B2.out.cell 0 (.string k1) rfl
            have c21 := B2.out.cell 1 (.int .i64 b1) rfl
            have c22 := B2.out.cell 2 (.int .i64 e1) rfl
            have c23 := B2.out.cell 3 (.int .i64 s1) rfl
            have c24 := B2.out.cell 4 (.int .i64 x2) rfl
            have c25 := B2.out.cell 5 (.int .i64 y2) rfl
            have c26 := B2.out.cell 6 (.string u2) rfl
            have c27 := B2.out.cell 7 (.bool g2) rfl
            have c30 := B3.out.cell 0 (.string k3) rfl
            have c31 := B3.out.cell 1 (.int .i64 b3) rfl
            have c32 := B3.out.cell 2 (.int .i64 e3) rfl
            have c33 := B3.out.cell 3 (.int .i64 s3) rfl
            have c34 := B3.out.cell 4 (.int .i64 x3) rfl
            have c35 := B3.out.cell 5 (.int .i64 y3) rfl
            have c36 := B3.out.cell 6 (.string u3) rfl
            have c37 := B3.out.cell 7 (.bool g3) rfl
            go_wp2_with fail
            refine (K1.out _).mono ?_
            rintro z w1 ⟨rfl, hb⟩
            have B1 := Lib.hid (B1.out.later hb)
            have B2 := Lib.hid (B2.out.later hb)
            have B3 := Lib.hid (B3.out.later hb)
            have G := Lib.hid (G.out.trans (hb.mono G.out.size))
            clear hb c10 c11 c12 c13 c14 c15 c16 c17 c20 c21 c22 c23 c24 c25 c26 c27 c30 c31 c32 c33 c34 c35 c36 c37
            have c10 := B1.out.cell 0 (.string k1) rfl
            have c11 := B1.out.cell 1 (.int .i64 b1) rfl
            have c12 := B1.out.cell 2 (.int .i64 e1) rfl
            have c13 := B1.out.cell 3 (.int .i64 s1) rfl
            have c14 := B1.out.cell 4 (.int .i64 x1) rfl
            have c15 := B1.out.cell 5 (.int .i64 y1) rfl
            have c16 := B1.out.cell 6 (.string u1) rfl
            have c17 := B1.out.cell 7 (.bool g1) rfl
            have c20 := B2.out.cell 0 (.string k1) rfl
            have c21 := B2.out.cell 1 (.int .i64 b1) rfl
            have c22 := B2.out.cell 2 (.int .i64 e1) rfl
            have c23 := B2.out.cell 3 (.int .i64 s1) rfl
            have c24 := B2.out.cell 4 (.int .i64 x2) rfl
            have c25 := B2.out.cell 5 (.int .i64 y2) rfl
            have c26 := B2.out.cell 6 (.string u2) rfl
            have c27 := B2.out.cell 7 (.bool g2) rfl
            have c30 := B3.out.cell 0 (.string k3) rfl
            have c31 := B3.out.cell 1 (.int .i64 b3) rfl
            have c32 := B3.out.cell 2 (.int .i64 e3) rfl
            have c33 := B3.out.cell 3 (.int .i64 s3) rfl
            have c34 := B3.out.cell 4 (.int .i64 x3) rfl
            have c35 := B3.out.cell 5 (.int .i64 y3) rfl
            have c36 := B3.out.cell 6 (.string u3) rfl
            have c37 := B3.out.cell 7 (.bool g3) rfl
            go_wp2_with fail
            refine (K0.out _).mono ?_
            rintro z w1 ⟨rfl, hb⟩
            have B1 := Lib.hid (B1.out.later hb)
            have B2 := Lib.hid (B2.out.later hb)
            have B3 := Lib.hid (B3.out.later hb)
            have G := Lib.hid (G.out.trans (hb.mono G.out.size))
            clear hb c10 c11 c12 c13 c14 c15 c16 c17 c20 c21 c22 c23 c24 c25 c26 c27 c30 c31 c32 c33 c34 c35 c36 c37
            have c10 := B1.out.cell 0 (.string k1) rfl
            have c11 := B1.out.cell 1 (.int .i64 b1) rfl
            have c12 := B1.out.cell 2 (.int .i64 e1) rfl
            have c13 := B1.out.cell 3 (.int .i64 s1) rfl
            have c14 := B1.out.cell 4 (.int .i64 x1) rfl
            have c15 := B1.out.cell 5 (.int .i64 y1) rfl
            have c16 := B1.out.cell 6 (.string u1) rfl
            have c17 := B1.out.cell 7 (.bool g1) rfl
            have c20 := B2.out.cell 0 (.string k1) rfl
            have c21 := B2.out.cell 1 (.int .i64 b1) rfl
            have c22 := B2.out.cell 2 (.int .i64 e1) rfl
            have c23 := B2.out.cell 3 (.int .i64 s1) rfl
            have c24 := B2.out.cell 4 (.int .i64 x2) rfl
            have c25 := B2.out.cell 5 (.int .i64 y2) rfl
            have c26 := B2.out.cell 6 (.string u2) rfl
            have c27 := B2.out.cell 7 (.bool g2) rfl
            have c30 := B3.out.cell 0 (.string k3) rfl
            have c31 := B3.out.cell 1 (.int .i64 b3) rfl
            have c32 := B3.out.cell 2 (.int .i64 e3) rfl
            have c33 := B3.out.cell 3 (.int .i64 s3) rfl
            have c34 := B3.out.cell 4 (.int .i64 x3) rfl
            have c35 := B3.out.cell 5 (.int .i64 y3) rfl
            have c36 := B3.out.cell 6 (.string u3) rfl
            have c37 := B3.out.cell 7 (.bool g3) rfl
            go_wp2_with fail
            refine (lives_any _).mono ?_
            rintro z w5 ⟨rfl, hb5⟩
            have G := Lib.hid (G.out.trans (hb5.mono G.out.size))
            clear hb5 c10 c11 c12 c13 c14 c15 c16 c17 c20 c21 c22 c23 c24 c25 c26 c27 c30 c31 c32 c33 c34 c35 c36 c37
            go_wp2_with fail
            go_ret
            exact ⟨rfl, G.out⟩
          · have d1 : decide (c1 ≤ 0) = true := by simpa using z1
            have d2 : decide (c2 ≤ 0) = false := by rw [decide_eq_false_iff_not]; omega
            go_enter Try.func8, Try.ntmps8
            go_wp2_with fail
            generalize ((w.alloc (.cells #[.string k1, .int .i64 b1, .int .i64 e1, .int .i64 s1, .int .i64 x1, .int .i64 y1, .string u1, .bool g1] 27)).alloc (.cells #[.string k1, .int .i64 b1, .int .i64 e1, .int .i64 s1, .int .i64 x2, .int .i64 y2, .string u2, .bool g2] 27)).alloc (.cells #[.string k3, .int .i64 b3, .int .i64 e3, .int .i64 s3, .int .i64 x3, .int .i64 y3, .string u3, .bool g3] 27) = w0 at *
            have c10 := B1.out.cell 0 (.string k1) rfl
            have c11 := B1.out.cell 1 (.int .i64 b1) rfl
            have c12 := B1.out.cell 2 (.int .i64 e1) rfl
            have c13 := B1.out.cell 3 (.int .i64 s1) rfl
            have c14 := B1.out.cell 4 (.int .i64 x1) rfl
            have c15 := B1.out.cell 5 (.int .i64 y1) rfl
            have c16 := B1.out.cell 6 (.string u1) rfl
            have c17 := B1.out.cell 7 (.bool g1) rfl
            have c20 := B2.out.cell 0 (.string k1) rfl
            have c21 := B2.out.cell 1 (.int .i64 b1) rfl
            have c22 := B2.out.cell 2 (.int .i64 e1) rfl
            have c23 := B2.out.cell 3 (.int .i64 s1) rfl
            have c24 := B2.out.cell 4 (.int .i64 x2) rfl
            have c25 := B2.out.cell 5 (.int .i64 y2) rfl
            have c26 := B2.out.cell 6 (.string u2) rfl
            have c27 := B2.out.cell 7 (.bool g2) rfl
            have c30 := B3.out.cell 0 (.string k3) rfl
            have c31 := B3.out.cell 1 (.int .i64 b3) rfl
            have c32 := B3.out.cell 2 (.int .i64 e3) rfl
            have c33 := B3.out.cell 3 (.int .i64 s3) rfl
            have c34 := B3.out.cell 4 (.int .i64 x3) rfl
            have c35 := B3.out.cell 5 (.int .i64 y3) rfl
            have c36 := B3.out.cell 6 (.string u3) rfl
            have c37 := B3.out.cell 7 (.bool g3) rfl
            go_wp2_with fail
            refine (K1.out _).mono ?_
            rintro z w1 ⟨rfl, hb⟩
            have B1 := Lib.hid (B1.out.later hb)
            have B2 := Lib.hid (B2.out.later hb)
            have B3 := Lib.hid (B3.out.later hb)
            have G := Lib.hid (G.out.trans (hb.mono G.out.size))
            clear hb c10 c11 c12 c13 c14 c15 c16 c17 c20 c21 c22 c23 c24 c25 c26 c27 c30 c31 c32 c33 c34 c35 c36 c37
            have c10 := B1.out.cell 0 (.string k1) rfl
            have c11 := B1.out.cell 1 (.int .i64 b1) rfl
            have c12 := B1.out.cell 2 (.int .i64 e1) rfl
            have c13 := B1.out.cell 3 (.int .i64 s1) rfl
            have c14 := B1.out.cell 4 (.int .i64 x1) rfl
            have c15 := B1.out.cell 5 (.int .i64 y1) rfl
            have c16 := B1.out.cell 6 (.string u1) rfl
            have c17 := B1.out.cell 7 (.bool g1) rfl
            have c20 := B2.out.cell 0 (.string k1) rfl
            have c21 := B2.out.cell 1 (.int .i64 b1) rfl
            have c22 := B2.out.cell 2 (.int .i64 e1) rfl
            have c23 := B2.out.cell 3 (.int .i64 s1) rfl
            have c24 := B2.out.cell 4 (.int .i64 x2) rfl
            have c25 := B2.out.cell 5 (.int .i64 y2) rfl
            have c26 := B2.out.cell 6 (.string u2) rfl
            have c27 := B2.out.cell 7 (.bool g2) rfl
            have c30 := B3.out.cell 0 (.string k3) rfl
            have c31 := B3.out.cell 1 (.int .i64 b3) rfl
            have c32 := B3.out.cell 2 (.int .i64 e3) rfl
            have c33 := B3.out.cell 3 (.int .i64 s3) rfl
            have c34 := B3.out.cell 4 (.int .i64 x3) rfl
            have c35 := B3.out.cell 5 (.int .i64 y3) rfl
            have c36 := B3.out.cell 6 (.string u3) rfl
            have c37 := B3.out.cell 7 (.bool g3) rfl
            go_wp2_with fail
            refine (K2.out _).mono ?_
            rintro z w1 ⟨rfl, hb⟩
            have B1 := Lib.hid (B1.out.later hb)
            have B2 := Lib.hid (B2.out.later hb)
            have B3 := Lib.hid (B3.out.later hb)
            have G := Lib.hid (G.out.trans (hb.mono G.out.size))
            clear hb c10 c11 c12 c13 c14 c15 c16 c17 c20 c21 c22 c23 c24 c25 c26 c27 c30 c31 c32 c33 c34 c35 c36 c37
            have c10 := B1.out.cell 0 (.string k1) rfl
            have c11 := B1.out.cell 1 (.int .i64 b1) rfl
            have c12 := B1.out.cell 2 (.int .i64 e1) rfl
            have c13 := B1.out.cell 3 (.int .i64 s1) rfl
            have c14 := B1.out.cell 4 (.int .i64 x1) rfl
            have c15 := B1.out.cell 5 (.int .i64 y1) rfl
            have c16 := B1.out.cell 6 (.string u1) rfl
            have c17 := B1.out.cell 7 (.bool g1) rfl
            have c20 := B2.out.cell 0 (.string k1) rfl
            have c21 := B2.out.cell 1 (.int .i64 b1) rfl
            have c22 := B2.out.cell 2 (.int .i64 e1) rfl
            have c23 := B2.out.cell 3 (.int .i64 s1) rfl
            have c24 := B2.out.cell 4 (.int .i64 x2) rfl
            have c25 := B2.out.cell 5 (.int .i64 y2) rfl
            have c26 := B2.out.cell 6 (.string u2) rfl
            have c27 := B2.out.cell 7 (.bool g2) rfl
            have c30 := B3.out.cell 0 (.string k3) rfl
            have c31 := B3.out.cell 1 (.int .i64 b3) rfl
            have c32 := B3.out.cell 2 (.int .i64 e3) rfl
            have c33 := B3.out.cell 3 (.int .i64 s3) rfl
            have c34 := B3.out.cell 4 (.int .i64 x3) rfl
            have c35 := B3.out.cell 5 (.int .i64 y3) rfl
            have c36 := B3.out.cell 6 (.string u3) rfl
            have c37 := B3.out.cell 7 (.bool g3) rfl
            go_wp2_with fail
            refine (K1.out _).mono ?_
            rintro z w1 ⟨rfl, hb⟩
            have B1 := Lib.hid (B1.out.later hb)
            have B2 := Lib.hid (B2.out.later hb)
            have B3 := Lib.hid (B3.out.later hb)
            have G := Lib.hid (G.out.trans (hb.mono G.out.size))
            clear hb c10 c11 c12 c13 c14 c15 c16 c17 c20 c21 c22 c23 c24 c25 c26 c27 c30 c31 c32 c33 c34 c35 c36 c37
            have c10 := B1.out.cell 0 (.string k1) rfl
            have c11 := B1.out.cell 1 (.int .i64 b1) rfl
            have c12 := B1.out.cell 2 (.int .i64 e1) rfl
            have c13 := B1.out.cell 3 (.int .i64 s1) rfl
            have c14 := B1.out.cell 4 (.int .i64 x1) rfl
            have c15 := B1.out.cell 5 (.int .i64 y1) rfl
            have c16 := B1.out.cell 6 (.string u1) rfl
            have c17 := B1.out.cell 7 (.bool g1) rfl
            have c20 := B2.out.cell 0 (.string k1) rfl
            have c21 := B2.out.cell 1 (.int .i64 b1) rfl
            have c22 := B2.out.cell 2 (.int .i64 e1) rfl
            have c23 := B2.out.cell 3 (.int .i64 s1) rfl
            have c24 := B2.out.cell 4 (.int .i64 x2) rfl
            have c25 := B2.out.cell 5 (.int .i64 y2) rfl
            have c26 := B2.out.cell 6 (.string u2) rfl
            have c27 := B2.out.cell 7 (.bool g2) rfl
            have c30 := B3.out.cell 0 (.string k3) rfl
            have c31 := B3.out.cell 1 (.int .i64 b3) rfl
            have c32 := B3.out.cell 2 (.int .i64 e3) rfl
            have c33 := B3.out.cell 3 (.int .i64 s3) rfl
            have c34 := B3.out.cell 4 (.int .i64 x3) rfl
            have c35 := B3.out.cell 5 (.int .i64 y3) rfl
            have c36 := B3.out.cell 6 (.string u3) rfl
            have c37 := B3.out.cell 7 (.bool g3) rfl
            go_wp2_with fail
            refine (K0.out _).mono ?_
            rintro z w1 ⟨rfl, hb⟩
            have B1 := Lib.hid (B1.out.later hb)
            have B2 := Lib.hid (B2.out.later hb)
            have B3 := Lib.hid (B3.out.later hb)
            have G := Lib.hid (G.out.trans (hb.mono G.out.size))
            clear hb c10 c11 c12 c13 c14 c15 c16 c17 c20 c21 c22 c23 c24 c25 c26 c27 c30 c31 c32 c33 c34 c35 c36 c37
            have c10 := B1.out.cell 0 (.string k1) rfl
            have c11 := B1.out.cell 1 (.int .i64 b1) rfl
            have c12 := B1.out.cell 2 (.int .i64 e1) rfl
            have c13 := B1.out.cell 3 (.int .i64 s1) rfl
            have c14 := B1.out.cell 4 (.int .i64 x1) rfl
            have c15 := B1.out.cell 5 (.int .i64 y1) rfl
            have c16 := B1.out.cell 6 (.string u1) rfl
            have c17 := B1.out.cell 7 (.bool g1) rfl
            have c20 := B2.out.cell 0 (.string k1) rfl
            have c21 := B2.out.cell 1 (.int .i64 b1) rfl
            have c22 := B2.out.cell 2 (.int .i64 e1) rfl
            have c23 := B2.out.cell 3 (.int .i64 s1) rfl
            have c24 := B2.out.cell 4 (.int .i64 x2) rfl
            have c25 := B2.out.cell 5 (.int .i64 y2) rfl
            have c26 := B2.out.cell 6 (.string u2) rfl
            have c27 := B2.out.cell 7 (.bool g2) rfl
            have c30 := B3.out.cell 0 (.string k3) rfl
            have c31 := B3.out.cell 1 (.int .i64 b3) rfl
            have c32 := B3.out.cell 2 (.int .i64 e3) rfl
            have c33 := B3.out.cell 3 (.int .i64 s3) rfl
            have c34 := B3.out.cell 4 (.int .i64 x3) rfl
            have c35 := B3.out.cell 5 (.int .i64 y3) rfl
            have c36 := B3.out.cell 6 (.string u3) rfl
            have c37 := B3.out.cell 7 (.bool g3) rfl
            go_wp2_with fail
            refine (lives_any _).mono ?_
            rintro z w5 ⟨rfl, hb5⟩
            have G := Lib.hid (G.out.trans (hb5.mono G.out.size))
            clear hb5 c10 c11 c12 c13 c14 c15 c16 c17 c20 c21 c22 c23 c24 c25 c26 c27 c30 c31 c32 c33 c34 c35 c36 c37
            go_wp2_with fail
            go_ret
            exact ⟨rfl, G.out⟩
        · have d1 : decide (c1 ≤ 0) = false := by rw [decide_eq_false_iff_not]; omega
          go_enter Try.func8, Try.ntmps8
          go_wp2_with fail
          generalize ((w.alloc (.cells #[.string k1, .int .i64 b1, .int .i64 e1, .int .i64 s1, .int .i64 x1, .int .i64 y1, .string u1, .bool g1] 27)).alloc (.cells #[.string k1, .int .i64 b1, .int .i64 e1, .int .i64 s1, .int .i64 x2, .int .i64 y2, .string u2, .bool g2] 27)).alloc (.cells #[.string k3, .int .i64 b3, .int .i64 e3, .int .i64 s3, .int .i64 x3, .int .i64 y3, .string u3, .bool g3] 27) = w0 at *
          have c10 := B1.out.cell 0 (.string k1) rfl
          have c11 := B1.out.cell 1 (.int .i64 b1) rfl
          have c12 := B1.out.cell 2 (.int .i64 e1) rfl
          have c13 := B1.out.cell 3 (.int .i64 s1) rfl
          have c14 := B1.out.cell 4 (.int .i64 x1) rfl
          have c15 := B1.out.cell 5 (.int .i64 y1) rfl
          have c16 := B1.out.cell 6 (.string u1) rfl
          have c17 := B1.out.cell 7 (.bool g1) rfl
          have c20 := B2.out.cell 0 (.string k1) rfl
          have c21 := B2.out.cell 1 (.int .i64 b1) rfl
          have c22 := B2.out.cell 2 (.int .i64 e1) rfl
          have c23 := B2.out.cell 3 (.int .i64 s1) rfl
          have c24 := B2.out.cell 4 (.int .i64 x2) rfl
          have c25 := B2.out.cell 5 (.int .i64 y2) rfl
          have c26 := B2.out.cell 6 (.string u2) rfl
          have c27 := B2.out.cell 7 (.bool g2) rfl
          have c30 := B3.out.cell 0 (.string k3) rfl
          have c31 := B3.out.cell 1 (.int .i64 b3) rfl
          have c32 := B3.out.cell 2 (.int .i64 e3) rfl
          have c33 := B3.out.cell 3 (.int .i64 s3) rfl
          have c34 := B3.out.cell 4 (.int .i64 x3) rfl
          have c35 := B3.out.cell 5 (.int .i64 y3) rfl
          have c36 := B3.out.cell 6 (.string u3) rfl
          have c37 := B3.out.cell 7 (.bool g3) rfl
          go_wp2_with fail
          refine (K1.out _).mono ?_
          rintro z w1 ⟨rfl, hb⟩
          have B1 := Lib.hid (B1.out.later hb)
          have B2 := Lib.hid (B2.out.later hb)
          have B3 := Lib.hid (B3.out.later hb)
          have G := Lib.hid (G.out.trans (hb.mono G.out.size))
          clear hb c10 c11 c12 c13 c14 c15 c16 c17 c20 c21 c22 c23 c24 c25 c26 c27 c30 c31 c32 c33 c34 c35 c36 c37
          have c10 := B1.out.cell 0 (.string k1) rfl
          have c11 := B1.out.cell 1 (.int .i64 b1) rfl
          have c12 := B1.out.cell 2 (.int .i64 e1) rfl
          have c13 := B1.out.cell 3 (.int .i64 s1) rfl
          have c14 := B1.out.cell 4 (.int .i64 x1) rfl
          have c15 := B1.out.cell 5 (.int .i64 y1) rfl
          have c16 := B1.out.cell 6 (.string u1) rfl
          have c17 := B1.out.cell 7 (.bool g1) rfl
          have c20 := B2.out.cell 0 (.string k1) rfl
          have c21 := B2.out.cell 1 (.int .i64 b1) rfl
          have c22 := B2.out.cell 2 (.int .i64 e1) rfl
          have c23 := B2.out.cell 3 (.int .i64 s1) rfl
          have c24 := B2.out.cell 4 (.int .i64 x2) rfl
          have c25 := B2.out.cell 5 (.int .i64 y2) rfl
          have c26 := B2.out.cell 6 (.string u2) rfl
          have c27 := B2.out.cell 7 (.bool g2) rfl
          have c30 := B3.out.cell 0 (.string k3) rfl
          have c31 := B3.out.cell 1 (.int .i64 b3) rfl
          have c32 := B3.out.cell 2 (.int .i64 e3) rfl
          have c33 := B3.out.cell 3 (.int .i64 s3) rfl
          have c34 := B3.out.cell 4 (.int .i64 x3) rfl
          have c35 := B3.out.cell 5 (.int .i64 y3) rfl
          have c36 := B3.out.cell 6 (.string u3) rfl
          have c37 := B3.out.cell 7 (.bool g3) rfl
          go_wp2_with fail
          refine (K1.out _).mono ?_
          rintro z w1 ⟨rfl, hb⟩
          have B1 := Lib.hid (B1.out.later hb)
          have B2 := Lib.hid (B2.out.later hb)
          have B3 := Lib.hid (B3.out.later hb)
          have G := Lib.hid (G.out.trans (hb.mono G.out.size))
          clear hb c10 c11 c12 c13 c14 c15 c16 c17 c20 c21 c22 c23 c24 c25 c26 c27 c30 c31 c32 c33 c34 c35 c36 c37
          have c10 := B1.out.cell 0 (.string k1) rfl
          have c11 := B1.out.cell 1 (.int .i64 b1) rfl
          have c12 := B1.out.cell 2 (.int .i64 e1) rfl
          have c13 := B1.out.cell 3 (.int .i64 s1) rfl
          have c14 := B1.out.cell 4 (.int .i64 x1) rfl
          have c15 := B1.out.cell 5 (.int .i64 y1) rfl
          have c16 := B1.out.cell 6 (.string u1) rfl
          have c17 := B1.out.cell 7 (.bool g1) rfl
          have c20 := B2.out.cell 0 (.string k1) rfl
          have c21 := B2.out.cell 1 (.int .i64 b1) rfl
          have c22 := B2.out.cell 2 (.int .i64 e1) rfl
          have c23 := B2.out.cell 3 (.int .i64 s1) rfl
          have c24 := B2.out.cell 4 (.int .i64 x2) rfl
          have c25 := B2.out.cell 5 (.int .i64 y2) rfl
          have c26 := B2.out.cell 6 (.string u2) rfl
          have c27 := B2.out.cell 7 (.bool g2) rfl
          have c30 := B3.out.cell 0 (.string k3) rfl
          have c31 := B3.out.cell 1 (.int .i64 b3) rfl
          have c32 := B3.out.cell 2 (.int .i64 e3) rfl
          have c33 := B3.out.cell 3 (.int .i64 s3) rfl
          have c34 := B3.out.cell 4 (.int .i64 x3) rfl
          have c35 := B3.out.cell 5 (.int .i64 y3) rfl
          have c36 := B3.out.cell 6 (.string u3) rfl
          have c37 := B3.out.cell 7 (.bool g3) rfl
          go_wp2_with fail
          refine (K0.out _).mono ?_
          rintro z w1 ⟨rfl, hb⟩
          have B1 := Lib.hid (B1.out.later hb)
          have B2 := Lib.hid (B2.out.later hb)
          have B3 := Lib.hid (B3.out.later hb)
          have G := Lib.hid (G.out.trans (hb.mono G.out.size))
          clear hb c10 c11 c12 c13 c14 c15 c16 c17 c20 c21 c22 c23 c24 c25 c26 c27 c30 c31 c32 c33 c34 c35 c36 c37
          have c10 := B1.out.cell 0 (.string k1) rfl
          have c11 := B1.out.cell 1 (.int .i64 b1) rfl
          have c12 := B1.out.cell 2 (.int .i64 e1) rfl
          have c13 := B1.out.cell 3 (.int .i64 s1) rfl
          have c14 := B1.out.cell 4 (.int .i64 x1) rfl
          have c15 := B1.out.cell 5 (.int .i64 y1) rfl
          have c16 := B1.out.cell 6 (.string u1) rfl
          have c17 := B1.out.cell 7 (.bool g1) rfl
          have c20 := B2.out.cell 0 (.string k1) rfl
          have c21 := B2.out.cell 1 (.int .i64 b1) rfl
          have c22 := B2.out.cell 2 (.int .i64 e1) rfl
          have c23 := B2.out.cell 3 (.int .i64 s1) rfl
          have c24 := B2.out.cell 4 (.int .i64 x2) rfl
          have c25 := B2.out.cell 5 (.int .i64 y2) rfl
          have c26 := B2.out.cell 6 (.string u2) rfl
          have c27 := B2.out.cell 7 (.bool g2) rfl
          have c30 := B3.out.cell 0 (.string k3) rfl
          have c31 := B3.out.cell 1 (.int .i64 b3) rfl
          have c32 := B3.out.cell 2 (.int .i64 e3) rfl
          have c33 := B3.out.cell 3 (.int .i64 s3) rfl
          have c34 := B3.out.cell 4 (.int .i64 x3) rfl
          have c35 := B3.out.cell 5 (.int .i64 y3) rfl
          have c36 := B3.out.cell 6 (.string u3) rfl
          have c37 := B3.out.cell 7 (.bool g3) rfl
          go_wp2_with fail
          refine (lives_any _).mono ?_
          rintro z w5 ⟨rfl, hb5⟩
          have G := Lib.hid (G.out.trans (hb5.mono G.out.size))
          clear hb5 c10 c11 c12 c13 c14 c15 c16 c17 c20 c21 c22 c23 c24 c25 c26 c27 c30 c31 c32 c33 c34 c35 c36 c37
          go_wp2_with fail
          go_ret
          exact ⟨rfl, G.out⟩
    · have hz : c1 ≠ 0 := fun h => hs ⟨(Z.out.1 h).2.1, (Z.out.1 h).2.2.1, (Z.out.1 h).2.2.2.1⟩
      subst hk
      have dse := fun W => stamp_eql_diff W b1 e1 s1 b2 e2 s2 hs
      have dz : (c1 == 0) = false := by simpa using hz
      clear hz hs
      by_cases z1 : c1 ≤ 0
      · by_cases z2 : c2 ≤ 0
        · have z3 := T.out z1 z2
          have d1 : decide (c1 ≤ 0) = true := by simpa using z1
          have d2 : decide (c2 ≤ 0) = true := by simpa using z2
          have d3 : decide (0 < c3) = false := by rw [decide_eq_false_iff_not]; omega
          go_enter Try.func8, Try.ntmps8
          go_wp2_with fail
          generalize ((w.alloc (.cells #[.string k1, .int .i64 b1, .int .i64 e1, .int .i64 s1, .int .i64 x1, .int .i64 y1, .string u1, .bool g1] 27)).alloc (.cells #[.string k1, .int .i64 b2, .int .i64 e2, .int .i64 s2, .int .i64 x2, .int .i64 y2, .string u2, .bool g2] 27)).alloc (.cells #[.string k3, .int .i64 b3, .int .i64 e3, .int .i64 s3, .int .i64 x3, .int .i64 y3, .string u3, .bool g3] 27) = w0 at *
          have c10 := B1.out.cell 0 (.string k1) rfl
          have c11 := B1.out.cell 1 (.int .i64 b1) rfl
          have c12 := B1.out.cell 2 (.int .i64 e1) rfl
          have c13 := B1.out.cell 3 (.int .i64 s1) rfl
          have c14 := B1.out.cell 4 (.int .i64 x1) rfl
          have c15 := B1.out.cell 5 (.int .i64 y1) rfl
          have c16 := B1.out.cell 6 (.string u1) rfl
          have c17 := B1.out.cell 7 (.bool g1) rfl
          have c20 := B2.out.cell 0 (.string k1) rfl
          have c21 := B2.out.cell 1 (.int .i64 b2) rfl
          have c22 := B2.out.cell 2 (.int .i64 e2) rfl
          have c23 := B2.out.cell 3 (.int .i64 s2) rfl
          have c24 := B2.out.cell 4 (.int .i64 x2) rfl
          have c25 := B2.out.cell 5 (.int .i64 y2) rfl
          have c26 := B2.out.cell 6 (.string u2) rfl
          have c27 := B2.out.cell 7 (.bool g2) rfl
          have c30 := B3.out.cell 0 (.string k3) rfl
          have c31 := B3.out.cell 1 (.int .i64 b3) rfl
          have c32 := B3.out.cell 2 (.int .i64 e3) rfl
          have c33 := B3.out.cell 3 (.int .i64 s3) rfl
          have c34 := B3.out.cell 4 (.int .i64 x3) rfl
          have c35 := B3.out.cell 5 (.int .i64 y3) rfl
          have c36 := B3.out.cell 6 (.string u3) rfl
          have c37 := B3.out.cell 7 (.bool g3) rfl
          go_wp2_with fail
          refine (K1.out _).mono ?_
          rintro z w1 ⟨rfl, hb⟩
          have B1 := Lib.hid (B1.out.later hb)
          have B2 := Lib.hid (B2.out.later hb)
          have B3 := Lib.hid (B3.out.later hb)
          have G := Lib.hid (G.out.trans (hb.mono G.out.size))
          clear hb c10 c11 c12 c13 c14 c15 c16 c17 c20 c21 c22 c23 c24 c25 c26 c27 c30 c31 c32 c33 c34 c35 c36 c37
          have c10 := B1.out.cell 0 (.string k1) rfl
          have c11 := B1.out.cell 1 (.int .i64 b1) rfl
          have c12 := B1.out.cell 2 (.int .i64 e1) rfl
          have c13 := B1.out.cell 3 (.int .i64 s1) rfl
          have c14 := B1.out.cell 4 (.int .i64 x1) rfl
          have c15 := B1.out.cell 5 (.int .i64 y1) rfl
          have c16 := B1.out.cell 6 (.string u1) rfl
          have c17 := B1.out.cell 7 (.bool g1) rfl
          have c20 := B2.out.cell 0 (.string k1) rfl
          have c21 := B2.out.cell 1 (.int .i64 b2) rfl
          have c22 := B2.out.cell 2 (.int .i64 e2) rfl
          have c23 := B2.out.cell 3 (.int .i64 s2) rfl
          have c24 := B2.out.cell 4 (.int .i64 x2) rfl
          have c25 := B2.out.cell 5 (.int .i64 y2) rfl
          have c26 := B2.out.cell 6 (.string u2) rfl
          have c27 := B2.out.cell 7 (.bool g2) rfl
          have c30 := B3.out.cell 0 (.string k3) rfl
          have c31 := B3.out.cell 1 (.int .i64 b3) rfl
          have c32 := B3.out.cell 2 (.int .i64 e3) rfl
          have c33 := B3.out.cell 3 (.int .i64 s3) rfl
          have c34 := B3.out.cell 4 (.int .i64 x3) rfl
          have c35 := B3.out.cell 5 (.int .i64 y3) rfl
          have c36 := B3.out.cell 6 (.string u3) rfl
          have c37 := B3.out.cell 7 (.bool g3) rfl
          go_wp2_with fail
          refine (K2.out _).mono ?_
          rintro z w1 ⟨rfl, hb⟩
          have B1 := Lib.hid (B1.out.later hb)
          have B2 := Lib.hid (B2.out.later hb)
          have B3 := Lib.hid (B3.out.later hb)
          have G := Lib.hid (G.out.trans (hb.mono G.out.size))
          clear hb c10 c11 c12 c13 c14 c15 c16 c17 c20 c21 c22 c23 c24 c25 c26 c27 c30 c31 c32 c33 c34 c35 c36 c37
          have c10 := B1.out.cell 0 (.string k1) rfl
          have c11 := B1.out.cell 1 (.int .i64 b1) rfl
          have c12 := B1.out.cell 2 (.int .i64 e1) rfl
          have c13 := B1.out.cell 3 (.int .i64 s1) rfl
          have c14 := B1.out.cell 4 (.int .i64 x1) rfl
          have c15 := B1.out.cell 5 (.int .i64 y1) rfl
          have c16 := B1.out.cell 6 (.string u1) rfl
          have c17 := B1.out.cell 7 (.bool g1) rfl
          have c20 := B2.out.cell 0 (.string k1) rfl
          have c21 := B2.out.cell 1 (.int .i64 b2) rfl
          have c22 := B2.out.cell 2 (.int .i64 e2) rfl
          have c23 := B2.out.cell 3 (.int .i64 s2) rfl
          have c24 := B2.out.cell 4 (.int .i64 x2) rfl
          have c25 := B2.out.cell 5 (.int .i64 y2) rfl
          have c26 := B2.out.cell 6 (.string u2) rfl
          have c27 := B2.out.cell 7 (.bool g2) rfl
          have c30 := B3.out.cell 0 (.string k3) rfl
          have c31 := B3.out.cell 1 (.int .i64 b3) rfl
          have c32 := B3.out.cell 2 (.int .i64 e3) rfl
          have c33 := B3.out.cell 3 (.int .i64 s3) rfl
          have c34 := B3.out.cell 4 (.int .i64 x3) rfl
          have c35 := B3.out.cell 5 (.int .i64 y3) rfl
          have c36 := B3.out.cell 6 (.string u3) rfl
          have c37 := B3.out.cell 7 (.bool g3) rfl
          go_wp2_with fail
          refine (K3.out _).mono ?_
          rintro z w1 ⟨rfl, hb⟩
          have B1 := Lib.hid (B1.out.later hb)
          have B2 := Lib.hid (B2.out.later hb)
          have B3 := Lib.hid (B3.out.later hb)
          have G := Lib.hid (G.out.trans (hb.mono G.out.size))
          clear hb c10 c11 c12 c13 c14 c15 c16 c17 c20 c21 c22 c23 c24 c25 c26 c27 c30 c31 c32 c33 c34 c35 c36 c37
          have c10 := B1.out.cell 0 (.string k1) rfl
          have c11 := B1.out.cell 1 (.int .i64 b1) rfl
          have c12 := B1.out.cell 2 (.int .i64 e1) rfl
          have c13 := B1.out.cell 3 (.int .i64 s1) rfl
          have c14 := B1.out.cell 4 (.int .i64 x1) rfl
          have c15 := B1.out.cell 5 (.int .i64 y1) rfl
          have c16 := B1.out.cell 6 (.string u1) rfl
          have c17 := B1.out.cell 7 (.bool g1) rfl
          have c20 := B2.out.cell 0 (.string k1) rfl
          have c21 := B2.out.cell 1 (.int .i64 b2) rfl
          have c22 := B2.out.cell 2 (.int .i64 e2) rfl
          have c23 := B2.out.cell 3 (.int .i64 s2) rfl
          have c24 := B2.out.cell 4 (.int .i64 x2) rfl
          have c25 := B2.out.cell 5 (.int .i64 y2) rfl
          have c26 := B2.out.cell 6 (.string u2) rfl
          have c27 := B2.out.cell 7 (.bool g2) rfl
          have c30 := B3.out.cell 0 (.string k3) rfl
          have c31 := B3.out.cell 1 (.int .i64 b3) rfl
          have c32 := B3.out.cell 2 (.int .i64 e3) rfl
          have c33 := B3.out.cell 3 (.int .i64 s3) rfl
          have c34 := B3.out.cell 4 (.int .i64 x3) rfl
          have c35 := B3.out.cell 5 (.int .i64 y3) rfl
          have c36 := B3.out.cell 6 (.string u3) rfl
          have c37 := B3.out.cell 7 (.bool g3) rfl
          go_wp2_with fail
          refine (K1.out _).mono ?_
          rintro z w1 ⟨rfl, hb⟩
          have B1 := Lib.hid (B1.out.later hb)
          have B2 := Lib.hid (B2.out.later hb)
          have B3 := Lib.hid (B3.out.later hb)
          have G := Lib.hid (G.out.trans (hb.mono G.out.size))
          clear hb c10 c11 c12 c13 c14 c15 c16 c17 c20 c21 c22 c23 c24 c25 c26 c27 c30 c31 c32 c33 c34 c35 c36 c37
          have c10 := B1.out.cell 0 (.string k1) rfl
          have c11 := B1.out.cell 1 (.int .i64 b1) rfl
          have c12 := B1.out.cell 2 (.int .i64 e1) rfl
          have c13 := B1.out.cell 3 (.int .i64 s1) rfl
          have c14 := B1.out.cell 4 (.int .i64 x1) rfl
          have c15 := B1.out.cell 5 (.int .i64 y1) rfl
          have c16 := B1.out.cell 6 (.string u1) rfl
          have c17 := B1.out.cell 7 (.bool g1) rfl
          have c20 := B2.out.cell 0 (.string k1) rfl
          have c21 := B2.out.cell 1 (.int .i64 b2) rfl
          have c22 := B2.out.cell 2 (.int .i64 e2) rfl
          have c23 := B2.out.cell 3 (.int .i64 s2) rfl
          have c24 := B2.out.cell 4 (.int .i64 x2) rfl
          have c25 := B2.out.cell 5 (.int .i64 y2) rfl
          have c26 := B2.out.cell 6 (.string u2) rfl
          have c27 := B2.out.cell 7 (.bool g2) rfl
          have c30 := B3.out.cell 0 (.string k3) rfl
          have c31 := B3.out.cell 1 (.int .i64 b3) rfl
          have c32 := B3.out.cell 2 (.int .i64 e3) rfl
          have c33 := B3.out.cell 3 (.int .i64 s3) rfl
          have c34 := B3.out.cell 4 (.int .i64 x3) rfl
          have c35 := B3.out.cell 5 (.int .i64 y3) rfl
          have c36 := B3.out.cell 6 (.string u3) rfl
          have c37 := B3.out.cell 7 (.bool g3) rfl
          go_wp2_with fail
          refine (K0.out _).mono ?_
          rintro z w1 ⟨rfl, hb⟩
          have B1 := Lib.hid (B1.out.later hb)
          have B2 := Lib.hid (B2.out.later hb)
          have B3 := Lib.hid (B3.out.later hb)
          have G := Lib.hid (G.out.trans (hb.mono G.out.size))
          clear hb c10 c11 c12 c13 c14 c15 c16 c17 c20 c21 c22 c23 c24 c25 c26 c27 c30 c31 c32 c33 c34 c35 c36 c37
          have c10 := B1.out.cell 0 (.string k1) rfl
          have c11 := B1.out.cell 1 (.int .i64 b1) rfl
          have c12 := B1.out.cell 2 (.int .i64 e1) rfl
          have c13 := B1.out.cell 3 (.int .i64 s1) rfl
          have c14 := B1.out.cell 4 (.int .i64 x1) rfl
          have c15 := B1.out.cell 5 (.int .i64 y1) rfl
          have c16 := B1.out.cell 6 (.string u1) rfl
          have c17 := B1.out.cell 7 (.bool g1) rfl
          have c20 := B2.out.cell 0 (.string k1) rfl
          have c21 := B2.out.cell 1 (.int .i64 b2) rfl
          have c22 := B2.out.cell 2 (.int .i64 e2) rfl
          have c23 := B2.out.cell 3 (.int .i64 s2) rfl
          have c24 := B2.out.cell 4 (.int .i64 x2) rfl
          have c25 := B2.out.cell 5 (.int .i64 y2) rfl
          have c26 := B2.out.cell 6 (.string u2) rfl
          have c27 := B2.out.cell 7 (.bool g2) rfl
          have c30 := B3.out.cell 0 (.string k3) rfl
          have c31 := B3.out.cell 1 (.int .i64 b3) rfl
          have c32 := B3.out.cell 2 (.int .i64 e3) rfl
          have c33 := B3.out.cell 3 (.int .i64 s3) rfl
          have c34 := B3.out.cell 4 (.int .i64 x3) rfl
          have c35 := B3.out.cell 5 (.int .i64 y3) rfl
          have c36 := B3.out.cell 6 (.string u3) rfl
          have c37 := B3.out.cell 7 (.bool g3) rfl
          go_wp2_with fail
          refine (lives_any _).mono ?_
          rintro z w5 ⟨rfl, hb5⟩
          have G := Lib.hid (G.out.trans (hb5.mono G.out.size))
          clear hb5 c10 c11 c12 c13 c14 c15 c16 c17 c20 c21 c22 c23 c24 c25 c26 c27 c30 c31 c32 c33 c34 c35 c36 c37
          go_wp2_with fail
          go_ret
          exact ⟨rfl, G.out⟩
        · have d1 : decide (c1 ≤ 0) = true := by simpa using z1
          have d2 : decide (c2 ≤ 0) = false := by rw [decide_eq_false_iff_not]; omega
          go_enter Try.func8, Try.ntmps8
          go_wp2_with fail
          generalize ((w.alloc (.cells #[.string k1, .int .i64 b1, .int .i64 e1, .int .i64 s1, .int .i64 x1, .int .i64 y1, .string u1, .bool g1] 27)).alloc (.cells #[.string k1, .int .i64 b2, .int .i64 e2, .int .i64 s2, .int .i64 x2, .int .i64 y2, .string u2, .bool g2] 27)).alloc (.cells #[.string k3, .int .i64 b3, .int .i64 e3, .int .i64 s3, .int .i64 x3, .int .i64 y3, .string u3, .bool g3] 27) = w0 at *
          have c10 := B1.out.cell 0 (.string k1) rfl
          have c11 := B1.out.cell 1 (.int .i64 b1) rfl
          have c12 := B1.out.cell 2 (.int .i64 e1) rfl
          have c13 := B1.out.cell 3 (.int .i64 s1) rfl
          have c14 := B1.out.cell 4 (.int .i64 x1) rfl
          have c15 := B1.out.cell 5 (.int .i64 y1) rfl
          have c16 := B1.out.cell 6 (.string u1) rfl
          have c17 := B1.out.cell 7 (.bool g1) rfl
          have c20 := B2.out.cell 0 (.string k1) rfl
          have c21 := B2.out.cell 1 (.int .i64 b2) rfl
          have c22 := B2.out.cell 2 (.int .i64 e2) rfl
          have c23 := B2.out.cell 3 (.int .i64 s2) rfl
          have c24 := B2.out.cell 4 (.int .i64 x2) rfl
          have c25 := B2.out.cell 5 (.int .i64 y2) rfl
          have c26 := B2.out.cell 6 (.string u2) rfl
          have c27 := B2.out.cell 7 (.bool g2) rfl
          have c30 := B3.out.cell 0 (.string k3) rfl
          have c31 := B3.out.cell 1 (.int .i64 b3) rfl
          have c32 := B3.out.cell 2 (.int .i64 e3) rfl
          have c33 := B3.out.cell 3 (.int .i64 s3) rfl
          have c34 := B3.out.cell 4 (.int .i64 x3) rfl
          have c35 := B3.out.cell 5 (.int .i64 y3) rfl
          have c36 := B3.out.cell 6 (.string u3) rfl
          have c37 := B3.out.cell 7 (.bool g3) rfl
          go_wp2_with fail
          refine (K1.out _).mono ?_
          rintro z w1 ⟨rfl, hb⟩
          have B1 := Lib.hid (B1.out.later hb)
          have B2 := Lib.hid (B2.out.later hb)
          have B3 := Lib.hid (B3.out.later hb)
          have G := Lib.hid (G.out.trans (hb.mono G.out.size))
          clear hb c10 c11 c12 c13 c14 c15 c16 c17 c20 c21 c22 c23 c24 c25 c26 c27 c30 c31 c32 c33 c34 c35 c36 c37
          have c10 := B1.out.cell 0 (.string k1) rfl
          have c11 := B1.out.cell 1 (.int .i64 b1) rfl
          have c12 := B1.out.cell 2 (.int .i64 e1) rfl
          have c13 := B1.out.cell 3 (.int .i64 s1) rfl
          have c14 := B1.out.cell 4 (.int .i64 x1) rfl
          have c15 := B1.out.cell 5 (.int .i64 y1) rfl
          have c16 := B1.out.cell 6 (.string u1) rfl
          have c17 := B1.out.cell 7 (.bool g1) rfl
          have c20 := B2.out.cell 0 (.string k1) rfl
          have c21 := B2.out.cell 1 (.int .i64 b2) rfl
          have c22 := B2.out.cell 2 (.int .i64 e2) rfl
          have c23 := B2.out.cell 3 (.int .i64 s2) rfl
          have c24 := B2.out.cell 4 (.int .i64 x2) rfl
          have c25 := B2.out.cell 5 (.int .i64 y2) rfl
          have c26 := B2.out.cell 6 (.string u2) rfl
          have c27 := B2.out.cell 7 (.bool g2) rfl
          have c30 := B3.out.cell 0 (.string k3) rfl
          have c31 := B3.out.cell 1 (.int .i64 b3) rfl
          have c32 := B3.out.cell 2 (.int .i64 e3) rfl
          have c33 := B3.out.cell 3 (.int .i64 s3) rfl
          have c34 := B3.out.cell 4 (.int .i64 x3) rfl
          have c35 := B3.out.cell 5 (.int .i64 y3) rfl
          have c36 := B3.out.cell 6 (.string u3) rfl
          have c37 := B3.out.cell 7 (.bool g3) rfl
          go_wp2_with fail
          refine (K2.out _).mono ?_
          rintro z w1 ⟨rfl, hb⟩
          have B1 := Lib.hid (B1.out.later hb)
          have B2 := Lib.hid (B2.out.later hb)
          have B3 := Lib.hid (B3.out.later hb)
          have G := Lib.hid (G.out.trans (hb.mono G.out.size))
          clear hb c10 c11 c12 c13 c14 c15 c16 c17 c20 c21 c22 c23 c24 c25 c26 c27 c30 c31 c32 c33 c34 c35 c36 c37
          have c10 := B1.out.cell 0 (.string k1) rfl
          have c11 := B1.out.cell 1 (.int .i64 b1) rfl
          have c12 := B1.out.cell 2 (.int .i64 e1) rfl
          have c13 := B1.out.cell 3 (.int .i64 s1) rfl
          have c14 := B1.out.cell 4 (.int .i64 x1) rfl
          have c15 := B1.out.cell 5 (.int .i64 y1) rfl
          have c16 := B1.out.cell 6 (.string u1) rfl
          have c17 := B1.out.cell 7 (.bool g1) rfl
          have c20 := B2.out.cell 0 (.string k1) rfl
          have c21 := B2.out.cell 1 (.int .i64 b2) rfl
          have c22 := B2.out.cell 2 (.int .i64 e2) rfl
          have c23 := B2.out.cell 3 (.int .i64 s2) rfl
          have c24 := B2.out.cell 4 (.int .i64 x2) rfl
          have c25 := B2.out.cell 5 (.int .i64 y2) rfl
          have c26 := B2.out.cell 6 (.string u2) rfl
          have c27 := B2.out.cell 7 (.bool g2) rfl
          have c30 := B3.out.cell 0 (.string k3) rfl
          have c31 := B3.out.cell 1 (.int .i64 b3) rfl
          have c32 := B3.out.cell 2 (.int .i64 e3) rfl
          have c33 := B3.out.cell 3 (.int .i64 s3) rfl
          have c34 := B3.out.cell 4 (.int .i64 x3) rfl
          have c35 := B3.out.cell 5 (.int .i64 y3) rfl
          have c36 := B3.out.cell 6 (.string u3) rfl
          have c37 := B3.out.cell 7 (.bool g3) rfl
          go_wp2_with fail
          refine (K1.out _).mono ?_
          rintro z w1 ⟨rfl, hb⟩
          have B1 := Lib.hid (B1.out.later hb)
          have B2 := Lib.hid (B2.out.later hb)
          have B3 := Lib.hid (B3.out.later hb)
          have G := Lib.hid (G.out.trans (hb.mono G.out.size))
          clear hb c10 c11 c12 c13 c14 c15 c16 c17 c20 c21 c22 c23 c24 c25 c26 c27 c30 c31 c32 c33 c34 c35 c36 c37
          have c10 := B1.out.cell 0 (.string k1) rfl
          have c11 := B1.out.cell 1 (.int .i64 b1) rfl
          have c12 := B1.out.cell 2 (.int .i64 e1) rfl
          have c13 := B1.out.cell 3 (.int .i64 s1) rfl
          have c14 := B1.out.cell 4 (.int .i64 x1) rfl
          have c15 := B1.out.cell 5 (.int .i64 y1) rfl
          have c16 := B1.out.cell 6 (.string u1) rfl
          have c17 := B1.out.cell 7 (.bool g1) rfl
          have c20 := B2.out.cell 0 (.string k1) rfl
          have c21 := B2.out.cell 1 (.int .i64 b2) rfl
          have c22 := B2.out.cell 2 (.int .i64 e2) rfl
          have c23 := B2.out.cell 3 (.int .i64 s2) rfl
          have c24 := B2.out.cell 4 (.int .i64 x2) rfl
          have c25 := B2.out.cell 5 (.int .i64 y2) rfl
          have c26 := B2.out.cell 6 (.string u2) rfl
          have c27 := B2.out.cell 7 (.bool g2) rfl
          have c30 := B3.out.cell 0 (.string k3) rfl
          have c31 := B3.out.cell 1 (.int .i64 b3) rfl
          have c32 := B3.out.cell 2 (.int .i64 e3) rfl
          have c33 := B3.out.cell 3 (.int .i64 s3) rfl
          have c34 := B3.out.cell 4 (.int .i64 x3) rfl
          have c35 := B3.out.cell 5 (.int .i64 y3) rfl
          have c36 := B3.out.cell 6 (.string u3) rfl
          have c37 := B3.out.cell 7 (.bool g3) rfl
          go_wp2_with fail
          refine (K0.out _).mono ?_
          rintro z w1 ⟨rfl, hb⟩
          have B1 := Lib.hid (B1.out.later hb)
          have B2 := Lib.hid (B2.out.later hb)
          have B3 := Lib.hid (B3.out.later hb)
          have G := Lib.hid (G.out.trans (hb.mono G.out.size))
          clear hb c10 c11 c12 c13 c14 c15 c16 c17 c20 c21 c22 c23 c24 c25 c26 c27 c30 c31 c32 c33 c34 c35 c36 c37
          have c10 := B1.out.cell 0 (.string k1) rfl
          have c11 := B1.out.cell 1 (.int .i64 b1) rfl
          have c12 := B1.out.cell 2 (.int .i64 e1) rfl
          have c13 := B1.out.cell 3 (.int .i64 s1) rfl
          have c14 := B1.out.cell 4 (.int .i64 x1) rfl
          have c15 := B1.out.cell 5 (.int .i64 y1) rfl
          have c16 := B1.out.cell 6 (.string u1) rfl
          have c17 := B1.out.cell 7 (.bool g1) rfl
          have c20 := B2.out.cell 0 (.string k1) rfl
          have c21 := B2.out.cell 1 (.int .i64 b2) rfl
          have c22 := B2.out.cell 2 (.int .i64 e2) rfl
          have c23 := B2.out.cell 3 (.int .i64 s2) rfl
          have c24 := B2.out.cell 4 (.int .i64 x2) rfl
          have c25 := B2.out.cell 5 (.int .i64 y2) rfl
          have c26 := B2.out.cell 6 (.string u2) rfl
          have c27 := B2.out.cell 7 (.bool g2) rfl
          have c30 := B3.out.cell 0 (.string k3) rfl
          have c31 := B3.out.cell 1 (.int .i64 b3) rfl
          have c32 := B3.out.cell 2 (.int .i64 e3) rfl
          have c33 := B3.out.cell 3 (.int .i64 s3) rfl
          have c34 := B3.out.cell 4 (.int .i64 x3) rfl
          have c35 := B3.out.cell 5 (.int .i64 y3) rfl
          have c36 := B3.out.cell 6 (.string u3) rfl
          have c37 := B3.out.cell 7 (.bool g3) rfl
          go_wp2_with fail
          refine (lives_any _).mono ?_
          rintro z w5 ⟨rfl, hb5⟩
          have G := Lib.hid (G.out.trans (hb5.mono G.out.size))
          clear hb5 c10 c11 c12 c13 c14 c15 c16 c17 c20 c21 c22 c23 c24 c25 c26 c27 c30 c31 c32 c33 c34 c35 c36 c37
          go_wp2_with fail
          go_ret
          exact ⟨rfl, G.out⟩
      · have d1 : decide (c1 ≤ 0) = false := by rw [decide_eq_false_iff_not]; omega
        go_enter Try.func8, Try.ntmps8
        go_wp2_with fail
        generalize ((w.alloc (.cells #[.string k1, .int .i64 b1, .int .i64 e1, .int .i64 s1, .int .i64 x1, .int .i64 y1, .string u1, .bool g1] 27)).alloc (.cells #[.string k1, .int .i64 b2, .int .i64 e2, .int .i64 s2, .int .i64 x2, .int .i64 y2, .string u2, .bool g2] 27)).alloc (.cells #[.string k3, .int .i64 b3, .int .i64 e3, .int .i64 s3, .int .i64 x3, .int .i64 y3, .string u3, .bool g3] 27) = w0 at *
        have c10 := B1.out.cell 0 (.string k1) rfl
        have c11 := B1.out.cell 1 (.int .i64 b1) rfl
        have c12 := B1.out.cell 2 (.int .i64 e1) rfl
        have c13 := B1.out.cell 3 (.int .i64 s1) rfl
        have c14 := B1.out.cell 4 (.int .i64 x1) rfl
        have c15 := B1.out.cell 5 (.int .i64 y1) rfl
        have c16 := B1.out.cell 6 (.string u1) rfl
        have c17 := B1.out.cell 7 (.bool g1) rfl
        have c20 := B2.out.cell 0 (.string k1) rfl
        have c21 := B2.out.cell 1 (.int .i64 b2) rfl
        have c22 := B2.out.cell 2 (.int .i64 e2) rfl
        have c23 := B2.out.cell 3 (.int .i64 s2) rfl
        have c24 := B2.out.cell 4 (.int .i64 x2) rfl
        have c25 := B2.out.cell 5 (.int .i64 y2) rfl
        have c26 := B2.out.cell 6 (.string u2) rfl
        have c27 := B2.out.cell 7 (.bool g2) rfl
        have c30 := B3.out.cell 0 (.string k3) rfl
        have c31 := B3.out.cell 1 (.int .i64 b3) rfl
        have c32 := B3.out.cell 2 (.int .i64 e3) rfl
        have c33 := B3.out.cell 3 (.int .i64 s3) rfl
        have c34 := B3.out.cell 4 (.int .i64 x3) rfl
        have c35 := B3.out.cell 5 (.int .i64 y3) rfl
        have c36 := B3.out.cell 6 (.string u3) rfl
        have c37 := B3.out.cell 7 (.bool g3) rfl
        go_wp2_with fail
        refine (K1.out _).mono ?_
        rintro z w1 ⟨rfl, hb⟩
        have B1 := Lib.hid (B1.out.later hb)
        have B2 := Lib.hid (B2.out.later hb)
        have B3 := Lib.hid (B3.out.later hb)
        have G := Lib.hid (G.out.trans (hb.mono G.out.size))
        clear hb c10 c11 c12 c13 c14 c15 c16 c17 c20 c21 c22 c23 c24 c25 c26 c27 c30 c31 c32 c33 c34 c35 c36 c37
        have c10 := B1.out.cell 0 (.string k1) rfl
        have c11 := B1.out.cell 1 (.int .i64 b1) rfl
        have c12 := B1.out.cell 2 (.int .i64 e1) rfl
        have c13 := B1.out.cell 3 (.int .i64 s1) rfl
        have c14 := B1.out.cell 4 (.int .i64 x1) rfl
        have c15 := B1.out.cell 5 (.int .i64 y1) rfl
        have c16 := B1.out.cell 6 (.string u1) rfl
        have c17 := B1.out.cell 7 (.bool g1) rfl
        have c20 := B2.out.cell 0 (.string k1) rfl
        have c21 := B2.out.cell 1 (.int .i64 b2) rfl
        have c22 := B2.out.cell 2 (.int .i64 e2) rfl
        have c23 := B2.out.cell 3 (.int .i64 s2) rfl
        have c24 := B2.out.cell 4 (.int .i64 x2) rfl
        have c25 := B2.out.cell 5 (.int .i64 y2) rfl
        have c26 := B2.out.cell 6 (.string u2) rfl
        have c27 := B2.out.cell 7 (.bool g2) rfl
        have c30 := B3.out.cell 0 (.string k3) rfl
        have c31 := B3.out.cell 1 (.int .i64 b3) rfl
        have c32 := B3.out.cell 2 (.int .i64 e3) rfl
        have c33 := B3.out.cell 3 (.int .i64 s3) rfl
        have c34 := B3.out.cell 4 (.int .i64 x3) rfl
        have c35 := B3.out.cell 5 (.int .i64 y3) rfl
        have c36 := B3.out.cell 6 (.string u3) rfl
        have c37 := B3.out.cell 7 (.bool g3) rfl
        go_wp2_with fail
        refine (K1.out _).mono ?_
        rintro z w1 ⟨rfl, hb⟩
        have B1 := Lib.hid (B1.out.later hb)
        have B2 := Lib.hid (B2.out.later hb)
        have B3 := Lib.hid (B3.out.later hb)
        have G := Lib.hid (G.out.trans (hb.mono G.out.size))
        clear hb c10 c11 c12 c13 c14 c15 c16 c17 c20 c21 c22 c23 c24 c25 c26 c27 c30 c31 c32 c33 c34 c35 c36 c37
        have c10 := B1.out.cell 0 (.string k1) rfl
        have c11 := B1.out.cell 1 (.int .i64 b1) rfl
        have c12 := B1.out.cell 2 (.int .i64 e1) rfl
        have c13 := B1.out.cell 3 (.int .i64 s1) rfl
        have c14 := B1.out.cell 4 (.int .i64 x1) rfl
        have c15 := B1.out.cell 5 (.int .i64 y1) rfl
        have c16 := B1.out.cell 6 (.string u1) rfl
        have c17 := B1.out.cell 7 (.bool g1) rfl
        have c20 := B2.out.cell 0 (.string k1) rfl
        have c21 := B2.out.cell 1 (.int .i64 b2) rfl
        have c22 := B2.out.cell 2 (.int .i64 e2) rfl
        have c23 := B2.out.cell 3 (.int .i64 s2) rfl
        have c24 := B2.out.cell 4 (.int .i64 x2) rfl
        have c25 := B2.out.cell 5 (.int .i64 y2) rfl
        have c26 := B2.out.cell 6 (.string u2) rfl
        have c27 := B2.out.cell 7 (.bool g2) rfl
        have c30 := B3.out.cell 0 (.string k3) rfl
        have c31 := B3.out.cell 1 (.int .i64 b3) rfl
        have c32 := B3.out.cell 2 (.int .i64 e3) rfl
        have c33 := B3.out.cell 3 (.int .i64 s3) rfl
        have c34 := B3.out.cell 4 (.int .i64 x3) rfl
        have c35 := B3.out.cell 5 (.int .i64 y3) rfl
        have c36 := B3.out.cell 6 (.string u3) rfl
        have c37 := B3.out.cell 7 (.bool g3) rfl
        go_wp2_with fail
        refine (K0.out _).mono ?_
        rintro z w1 ⟨rfl, hb⟩
        have B1 := Lib.hid (B1.out.later hb)
        have B2 := Lib.hid (B2.out.later hb)
        have B3 := Lib.hid (B3.out.later hb)
        have G := Lib.hid (G.out.trans (hb.mono G.out.size))
        clear hb c10 c11 c12 c13 c14 c15 c16 c17 c20 c21 c22 c23 c24 c25 c26 c27 c30 c31 c32 c33 c34 c35 c36 c37
        have c10 := B1.out.cell 0 (.string k1) rfl
        have c11 := B1.out.cell 1 (.int .i64 b1) rfl
        have c12 := B1.out.cell 2 (.int .i64 e1) rfl
        have c13 := B1.out.cell 3 (.int .i64 s1) rfl
        have c14 := B1.out.cell 4 (.int .i64 x1) rfl
        have c15 := B1.out.cell 5 (.int .i64 y1) rfl
        have c16 := B1.out.cell 6 (.string u1) rfl
        have c17 := B1.out.cell 7 (.bool g1) rfl
        have c20 := B2.out.cell 0 (.string k1) rfl
        have c21 := B2.out.cell 1 (.int .i64 b2) rfl
        have c22 := B2.out.cell 2 (.int .i64 e2) rfl
        have c23 := B2.out.cell 3 (.int .i64 s2) rfl
        have c24 := B2.out.cell 4 (.int .i64 x2) rfl
        have c25 := B2.out.cell 5 (.int .i64 y2) rfl
        have c26 := B2.out.cell 6 (.string u2) rfl
        have c27 := B2.out.cell 7 (.bool g2) rfl
        have c30 := B3.out.cell 0 (.string k3) rfl
        have c31 := B3.out.cell 1 (.int .i64 b3) rfl
        have c32 := B3.out.cell 2 (.int .i64 e3) rfl
        have c33 := B3.out.cell 3 (.int .i64 s3) rfl
        have c34 := B3.out.cell 4 (.int .i64 x3) rfl
        have c35 := B3.out.cell 5 (.int .i64 y3) rfl
        have c36 := B3.out.cell 6 (.string u3) rfl
        have c37 := B3.out.cell 7 (.bool g3) rfl
        go_wp2_with fail
        refine (lives_any _).mono ?_
        rintro z w5 ⟨rfl, hb5⟩
        have G := Lib.hid (G.out.trans (hb5.mono G.out.size))
        clear hb5 c10 c11 c12 c13 c14 c15 c16 c17 c20 c21 c22 c23 c24 c25 c26 c27 c30 c31 c32 c33 c34 c35 c36 c37
        go_wp2_with fail
        go_ret
        exact ⟨rfl, G.out⟩
  · have hz : c1 ≠ 0 := fun h => hk (Z.out.1 h).1
    have dk : (k1.toList == k2.toList) = false := by rw [beq_eq_false_iff_ne]; exact fun e => hk ((bytes_listR _ _).1 e)
    have dz : (c1 == 0) = false := by simpa using hz
    clear hz hk
    by_cases z1 : c1 ≤ 0
    · by_cases z2 : c2 ≤ 0
      · have z3 := T.out z1 z2
        have d1 : decide (c1 ≤ 0) = true := by simpa using z1
        have d2 : decide (c2 ≤ 0) = true := by simpa using z2
        have d3 : decide (0 < c3) = false := by rw [decide_eq_false_iff_not]; omega
        go_enter Try.func8, Try.ntmps8
        go_wp2_with fail
        generalize ((w.alloc (.cells #[.string k1, .int .i64 b1, .int .i64 e1, .int .i64 s1, .int .i64 x1, .int .i64 y1, .string u1, .bool g1] 27)).alloc (.cells #[.string k2, .int .i64 b2, .int .i64 e2, .int .i64 s2, .int .i64 x2, .int .i64 y2, .string u2, .bool g2] 27)).alloc (.cells #[.string k3, .int .i64 b3, .int .i64 e3, .int .i64 s3, .int .i64 x3, .int .i64 y3, .string u3, .bool g3] 27) = w0 at *
        have c10 := B1.out.cell 0 (.string k1) rfl
        have c11 := B1.out.cell 1 (.int .i64 b1) rfl
        have c12 := B1.out.cell 2 (.int .i64 e1) rfl
        have c13 := B1.out.cell 3 (.int .i64 s1) rfl
        have c14 := B1.out.cell 4 (.int .i64 x1) rfl
        have c15 := B1.out.cell 5 (.int .i64 y1) rfl
        have c16 := B1.out.cell 6 (.string u1) rfl
        have c17 := B1.out.cell 7 (.bool g1) rfl
        have c20 := B2.out.cell 0 (.string k2) rfl
        have c21 := B2.out.cell 1 (.int .i64 b2) rfl
        have c22 := B2.out.cell 2 (.int .i64 e2) rfl
        have c23 := B2.out.cell 3 (.int .i64 s2) rfl
        have c24 := B2.out.cell 4 (.int .i64 x2) rfl
        have c25 := B2.out.cell 5 (.int .i64 y2) rfl
        have c26 := B2.out.cell 6 (.string u2) rfl
        have c27 := B2.out.cell 7 (.bool g2) rfl
        have c30 := B3.out.cell 0 (.string k3) rfl
        have c31 := B3.out.cell 1 (.int .i64 b3) rfl
        have c32 := B3.out.cell 2 (.int .i64 e3) rfl
        have c33 := B3.out.cell 3 (.int .i64 s3) rfl
        have c34 := B3.out.cell 4 (.int .i64 x3) rfl
        have c35 := B3.out.cell 5 (.int .i64 y3) rfl
        have c36 := B3.out.cell 6 (.string u3) rfl
        have c37 := B3.out.cell 7 (.bool g3) rfl
        go_wp2_with fail
        refine (K1.out _).mono ?_
        rintro z w1 ⟨rfl, hb⟩
        have B1 := Lib.hid (B1.out.later hb)
        have B2 := Lib.hid (B2.out.later hb)
        have B3 := Lib.hid (B3.out.later hb)
        have G := Lib.hid (G.out.trans (hb.mono G.out.size))
        clear hb c10 c11 c12 c13 c14 c15 c16 c17 c20 c21 c22 c23 c24 c25 c26 c27 c30 c31 c32 c33 c34 c35 c36 c37
        have c10 := B1.out.cell 0 (.string k1) rfl
        have c11 := B1.out.cell 1 (.int .i64 b1) rfl
        have c12 := B1.out.cell 2 (.int .i64 e1) rfl
        have c13 := B1.out.cell 3 (.int .i64 s1) rfl
        have c14 := B1.out.cell 4 (.int .i64 x1) rfl
        have c15 := B1.out.cell 5 (.int .i64 y1) rfl
        have c16 := B1.out.cell 6 (.string u1) rfl
        have c17 := B1.out.cell 7 (.bool g1) rfl
        have c20 := B2.out.cell 0 (.string k2) rfl
        have c21 := B2.out.cell 1 (.int .i64 b2) rfl
        have c22 := B2.out.cell 2 (.int .i64 e2) rfl
        have c23 := B2.out.cell 3 (.int .i64 s2) rfl
        have c24 := B2.out.cell 4 (.int .i64 x2) rfl
        have c25 := B2.out.cell 5 (.int .i64 y2) rfl
        have c26 := B2.out.cell 6 (.string u2) rfl
        have c27 := B2.out.cell 7 (.bool g2) rfl
        have c30 := B3.out.cell 0 (.string k3) rfl
        have c31 := B3.out.cell 1 (.int .i64 b3) rfl
        have c32 := B3.out.cell 2 (.int .i64 e3) rfl
        have c33 := B3.out.cell 3 (.int .i64 s3) rfl
        have c34 := B3.out.cell 4 (.int .i64 x3) rfl
        have c35 := B3.out.cell 5 (.int .i64 y3) rfl
        have c36 := B3.out.cell 6 (.string u3) rfl
        have c37 := B3.out.cell 7 (.bool g3) rfl
        go_wp2_with fail
        refine (K2.out _).mono ?_
        rintro z w1 ⟨rfl, hb⟩
        have B1 := Lib.hid (B1.out.later hb)
        have B2 := Lib.hid (B2.out.later hb)
        have B3 := Lib.hid (B3.out.later hb)
        have G := Lib.hid (G.out.trans (hb.mono G.out.size))
        clear hb c10 c11 c12 c13 c14 c15 c16 c17 c20 c21 c22 c23 c24 c25 c26 c27 c30 c31 c32 c33 c34 c35 c36 c37
        have c10 := B1.out.cell 0 (.string k1) rfl
        have c11 := B1.out.cell 1 (.int .i64 b1) rfl
        have c12 := B1.out.cell 2 (.int .i64 e1) rfl
        have c13 := B1.out.cell 3 (.int .i64 s1) rfl
        have c14 := B1.out.cell 4 (.int .i64 x1) rfl
        have c15 := B1.out.cell 5 (.int .i64 y1) rfl
        have c16 := B1.out.cell 6 (.string u1) rfl
        have c17 := B1.out.cell 7 (.bool g1) rfl
        have c20 := B2.out.cell 0 (.string k2) rfl
        have c21 := B2.out.cell 1 (.int .i64 b2) rfl
        have c22 := B2.out.cell 2 (.int .i64 e2) rfl
        have c23 := B2.out.cell 3 (.int .i64 s2) rfl
        have c24 := B2.out.cell 4 (.int .i64 x2) rfl
        have c25 := B2.out.cell 5 (.int .i64 y2) rfl
        have c26 := B2.out.cell 6 (.string u2) rfl
        have c27 := B2.out.cell 7 (.bool g2) rfl
        have c30 := B3.out.cell 0 (.string k3) rfl
        have c31 := B3.out.cell 1 (.int .i64 b3) rfl
        have c32 := B3.out.cell 2 (.int .i64 e3) rfl
        have c33 := B3.out.cell 3 (.int .i64 s3) rfl
        have c34 := B3.out.cell 4 (.int .i64 x3) rfl
        have c35 := B3.out.cell 5 (.int .i64 y3) rfl
        have c36 := B3.out.cell 6 (.string u3) rfl
        have c37 := B3.out.cell 7 (.bool g3) rfl
        go_wp2_with fail
        refine (K3.out _).mono ?_
        rintro z w1 ⟨rfl, hb⟩
        have B1 := Lib.hid (B1.out.later hb)
        have B2 := Lib.hid (B2.out.later hb)
        have B3 := Lib.hid (B3.out.later hb)
        have G := Lib.hid (G.out.trans (hb.mono G.out.size))
        clear hb c10 c11 c12 c13 c14 c15 c16 c17 c20 c21 c22 c23 c24 c25 c26 c27 c30 c31 c32 c33 c34 c35 c36 c37
        have c10 := B1.out.cell 0 (.string k1) rfl
        have c11 := B1.out.cell 1 (.int .i64 b1) rfl
        have c12 := B1.out.cell 2 (.int .i64 e1) rfl
        have c13 := B1.out.cell 3 (.int .i64 s1) rfl
        have c14 := B1.out.cell 4 (.int .i64 x1) rfl
        have c15 := B1.out.cell 5 (.int .i64 y1) rfl
        have c16 := B1.out.cell 6 (.string u1) rfl
        have c17 := B1.out.cell 7 (.bool g1) rfl
        have c20 := B2.out.cell 0 (.string k2) rfl
        have c21 := B2.out.cell 1 (.int .i64 b2) rfl
        have c22 := B2.out.cell 2 (.int .i64 e2) rfl
        have c23 := B2.out.cell 3 (.int .i64 s2) rfl
        have c24 := B2.out.cell 4 (.int .i64 x2) rfl
        have c25 := B2.out.cell 5 (.int .i64 y2) rfl
        have c26 := B2.out.cell 6 (.string u2) rfl
        have c27 := B2.out.cell 7 (.bool g2) rfl
        have c30 := B3.out.cell 0 (.string k3) rfl
        have c31 := B3.out.cell 1 (.int .i64 b3) rfl
        have c32 := B3.out.cell 2 (.int .i64 e3) rfl
        have c33 := B3.out.cell 3 (.int .i64 s3) rfl
        have c34 := B3.out.cell 4 (.int .i64 x3) rfl
        have c35 := B3.out.cell 5 (.int .i64 y3) rfl
        have c36 := B3.out.cell 6 (.string u3) rfl
        have c37 := B3.out.cell 7 (.bool g3) rfl
        go_wp2_with fail
        refine (K1.out _).mono ?_
        rintro z w1 ⟨rfl, hb⟩
        have B1 := Lib.hid (B1.out.later hb)
        have B2 := Lib.hid (B2.out.later hb)
        have B3 := Lib.hid (B3.out.later hb)
        have G := Lib.hid (G.out.trans (hb.mono G.out.size))
        clear hb c10 c11 c12 c13 c14 c15 c16 c17 c20 c21 c22 c23 c24 c25 c26 c27 c30 c31 c32 c33 c34 c35 c36 c37
        have c10 := B1.out.cell 0 (.string k1) rfl
        have c11 := B1.out.cell 1 (.int .i64 b1) rfl
        have c12 := B1.out.cell 2 (.int .i64 e1) rfl
        have c13 := B1.out.cell 3 (.int .i64 s1) rfl
        have c14 := B1.out.cell 4 (.int .i64 x1) rfl
        have c15 := B1.out.cell 5 (.int .i64 y1) rfl
        have c16 := B1.out.cell 6 (.string u1) rfl
        have c17 := B1.out.cell 7 (.bool g1) rfl
        have c20 := B2.out.cell 0 (.string k2) rfl
        have c21 := B2.out.cell 1 (.int .i64 b2) rfl
        have c22 := B2.out.cell 2 (.int .i64 e2) rfl
        have c23 := B2.out.cell 3 (.int .i64 s2) rfl
        have c24 := B2.out.cell 4 (.int .i64 x2) rfl
        have c25 := B2.out.cell 5 (.int .i64 y2) rfl
        have c26 := B2.out.cell 6 (.string u2) rfl
        have c27 := B2.out.cell 7 (.bool g2) rfl
        have c30 := B3.out.cell 0 (.string k3) rfl
        have c31 := B3.out.cell 1 (.int .i64 b3) rfl
        have c32 := B3.out.cell 2 (.int .i64 e3) rfl
        have c33 := B3.out.cell 3 (.int .i64 s3) rfl
        have c34 := B3.out.cell 4 (.int .i64 x3) rfl
        have c35 := B3.out.cell 5 (.int .i64 y3) rfl
        have c36 := B3.out.cell 6 (.string u3) rfl
        have c37 := B3.out.cell 7 (.bool g3) rfl
        go_wp2_with fail
        refine (K0.out _).mono ?_
        rintro z w1 ⟨rfl, hb⟩
        have B1 := Lib.hid (B1.out.later hb)
        have B2 := Lib.hid (B2.out.later hb)
        have B3 := Lib.hid (B3.out.later hb)
        have G := Lib.hid (G.out.trans (hb.mono G.out.size))
        clear hb c10 c11 c12 c13 c14 c15 c16 c17 c20 c21 c22 c23 c24 c25 c26 c27 c30 c31 c32 c33 c34 c35 c36 c37
        have c10 := B1.out.cell 0 (.string k1) rfl
        have c11 := B1.out.cell 1 (.int .i64 b1) rfl
        have c12 := B1.out.cell 2 (.int .i64 e1) rfl
        have c13 := B1.out.cell 3 (.int .i64 s1) rfl
        have c14 := B1.out.cell 4 (.int .i64 x1) rfl
        have c15 := B1.out.cell 5 (.int .i64 y1) rfl
        have c16 := B1.out.cell 6 (.string u1) rfl
        have c17 := B1.out.cell 7 (.bool g1) rfl
        have c20 := B2.out.cell 0 (.string k2) rfl
        have c21 := B2.out.cell 1 (.int .i64 b2) rfl
        have c22 := B2.out.cell 2 (.int .i64 e2) rfl
        have c23 := B2.out.cell 3 (.int .i64 s2) rfl
        have c24 := B2.out.cell 4 (.int .i64 x2) rfl
        have c25 := B2.out.cell 5 (.int .i64 y2) rfl
        have c26 := B2.out.cell 6 (.string u2) rfl
        have c27 := B2.out.cell 7 (.bool g2) rfl
        have c30 := B3.out.cell 0 (.string k3) rfl
        have c31 := B3.out.cell 1 (.int .i64 b3) rfl
        have c32 := B3.out.cell 2 (.int .i64 e3) rfl
        have c33 := B3.out.cell 3 (.int .i64 s3) rfl
        have c34 := B3.out.cell 4 (.int .i64 x3) rfl
        have c35 := B3.out.cell 5 (.int .i64 y3) rfl
        have c36 := B3.out.cell 6 (.string u3) rfl
        have c37 := B3.out.cell 7 (.bool g3) rfl
        go_wp2_with fail
        refine (lives_any _).mono ?_
        rintro z w5 ⟨rfl, hb5⟩
        have G := Lib.hid (G.out.trans (hb5.mono G.out.size))
        clear hb5 c10 c11 c12 c13 c14 c15 c16 c17 c20 c21 c22 c23 c24 c25 c26 c27 c30 c31 c32 c33 c34 c35 c36 c37
        go_wp2_with fail
        go_ret
        exact ⟨rfl, G.out⟩
      · have d1 : decide (c1 ≤ 0) = true := by simpa using z1
        have d2 : decide (c2 ≤ 0) = false := by rw [decide_eq_false_iff_not]; omega
        go_enter Try.func8, Try.ntmps8
        go_wp2_with fail
        generalize ((w.alloc (.cells #[.string k1, .int .i64 b1, .int .i64 e1, .int .i64 s1, .int .i64 x1, .int .i64 y1, .string u1, .bool g1] 27)).alloc (.cells #[.string k2, .int .i64 b2, .int .i64 e2, .int .i64 s2, .int .i64 x2, .int .i64 y2, .string u2, .bool g2] 27)).alloc (.cells #[.string k3, .int .i64 b3, .int .i64 e3, .int .i64 s3, .int .i64 x3, .int .i64 y3, .string u3, .bool g3] 27) = w0 at *
        have c10 := B1.out.cell 0 (.string k1) rfl
        have c11 := B1.out.cell 1 (.int .i64 b1) rfl
        have c12 := B1.out.cell 2 (.int .i64 e1) rfl
        have c13 := B1.out.cell 3 (.int .i64 s1) rfl
        have c14 := B1.out.cell 4 (.int .i64 x1) rfl
        have c15 := B1.out.cell 5 (.int .i64 y1) rfl
        have c16 := B1.out.cell 6 (.string u1) rfl
        have c17 := B1.out.cell 7 (.bool g1) rfl
        have c20 := B2.out.cell 0 (.string k2) rfl
        have c21 := B2.out.cell 1 (.int .i64 b2) rfl
        have c22 := B2.out.cell 2 (.int .i64 e2) rfl
        have c23 := B2.out.cell 3 (.int .i64 s2) rfl
        have c24 := B2.out.cell 4 (.int .i64 x2) rfl
        have c25 := B2.out.cell 5 (.int .i64 y2) rfl
        have c26 := B2.out.cell 6 (.string u2) rfl
        have c27 := B2.out.cell 7 (.bool g2) rfl
        have c30 := B3.out.cell 0 (.string k3) rfl
        have c31 := B3.out.cell 1 (.int .i64 b3) rfl
        have c32 := B3.out.cell 2 (.int .i64 e3) rfl
        have c33 := B3.out.cell 3 (.int .i64 s3) rfl
        have c34 := B3.out.cell 4 (.int .i64 x3) rfl
        have c35 := B3.out.cell 5 (.int .i64 y3) rfl
        have c36 := B3.out.cell 6 (.string u3) rfl
        have c37 := B3.out.cell 7 (.bool g3) rfl
        go_wp2_with fail
        refine (K1.out _).mono ?_
        rintro z w1 ⟨rfl, hb⟩
        have B1 := Lib.hid (B1.out.later hb)
        have B2 := Lib.hid (B2.out.later hb)
        have B3 := Lib.hid (B3.out.later hb)
        have G := Lib.hid (G.out.trans (hb.mono G.out.size))
        clear hb c10 c11 c12 c13 c14 c15 c16 c17 c20 c21 c22 c23 c24 c25 c26 c27 c30 c31 c32 c33 c34 c35 c36 c37
        have c10 := B1.out.cell 0 (.string k1) rfl
        have c11 := B1.out.cell 1 (.int .i64 b1) rfl
        have c12 := B1.out.cell 2 (.int .i64 e1) rfl
        have c13 := B1.out.cell 3 (.int .i64 s1) rfl
        have c14 := B1.out.cell 4 (.int .i64 x1) rfl
        have c15 := B1.out.cell 5 (.int .i64 y1) rfl
        have c16 := B1.out.cell 6 (.string u1) rfl
        have c17 := B1.out.cell 7 (.bool g1) rfl
        have c20 := B2.out.cell 0 (.string k2) rfl
        have c21 := B2.out.cell 1 (.int .i64 b2) rfl
        have c22 := B2.out.cell 2 (.int .i64 e2) rfl
        have c23 := B2.out.cell 3 (.int .i64 s2) rfl
        have c24 := B2.out.cell 4 (.int .i64 x2) rfl
        have c25 := B2.out.cell 5 (.int .i64 y2) rfl
        have c26 := B2.out.cell 6 (.string u2) rfl
        have c27 := B2.out.cell 7 (.bool g2) rfl
        have c30 := B3.out.cell 0 (.string k3) rfl
        have c31 := B3.out.cell 1 (.int .i64 b3) rfl
        have c32 := B3.out.cell 2 (.int .i64 e3) rfl
        have c33 := B3.out.cell 3 (.int .i64 s3) rfl
        have c34 := B3.out.cell 4 (.int .i64 x3) rfl
        have c35 := B3.out.cell 5 (.int .i64 y3) rfl
        have c36 := B3.out.cell 6 (.string u3) rfl
        have c37 := B3.out.cell 7 (.bool g3) rfl
        go_wp2_with fail
        refine (K2.out _).mono ?_
        rintro z w1 ⟨rfl, hb⟩
        have B1 := Lib.hid (B1.out.later hb)
        have B2 := Lib.hid (B2.out.later hb)
        have B3 := Lib.hid (B3.out.later hb)
        have G := Lib.hid (G.out.trans (hb.mono G.out.size))
        clear hb c10 c11 c12 c13 c14 c15 c16 c17 c20 c21 c22 c23 c24 c25 c26 c27 c30 c31 c32 c33 c34 c35 c36 c37
        have c10 := B1.out.cell 0 (.string k1) rfl
        have c11 := B1.out.cell 1 (.int .i64 b1) rfl
        have c12 := B1.out.cell 2 (.int .i64 e1) rfl
        have c13 := B1.out.cell 3 (.int .i64 s1) rfl
        have c14 := B1.out.cell 4 (.int .i64 x1) rfl
        have c15 := B1.out.cell 5 (.int .i64 y1) rfl
        have c16 := B1.out.cell 6 (.string u1) rfl
        have c17 := B1.out.cell 7 (.bool g1) rfl
        have c20 := B2.out.cell 0 (.string k2) rfl
        have c21 := B2.out.cell 1 (.int .i64 b2) rfl
        have c22 := B2.out.cell 2 (.int .i64 e2) rfl
        have c23 := B2.out.cell 3 (.int .i64 s2) rfl
        have c24 := B2.out.cell 4 (.int .i64 x2) rfl
        have c25 := B2.out.cell 5 (.int .i64 y2) rfl
        have c26 := B2.out.cell 6 (.string u2) rfl
        have c27 := B2.out.cell 7 (.bool g2) rfl
        have c30 := B3.out.cell 0 (.string k3) rfl
        have c31 := B3.out.cell 1 (.int .i64 b3) rfl
        have c32 := B3.out.cell 2 (.int .i64 e3) rfl
        have c33 := B3.out.cell 3 (.int .i64 s3) rfl
        have c34 := B3.out.cell 4 (.int .i64 x3) rfl
        have c35 := B3.out.cell 5 (.int .i64 y3) rfl
        have c36 := B3.out.cell 6 (.string u3) rfl
        have c37 := B3.out.cell 7 (.bool g3) rfl
        go_wp2_with fail
        refine (K1.out _).mono ?_
        rintro z w1 ⟨rfl, hb⟩
        have B1 := Lib.hid (B1.out.later hb)
        have B2 := Lib.hid (B2.out.later hb)
        have B3 := Lib.hid (B3.out.later hb)
        have G := Lib.hid (G.out.trans (hb.mono G.out.size))
        clear hb c10 c11 c12 c13 c14 c15 c16 c17 c20 c21 c22 c23 c24 c25 c26 c27 c30 c31 c32 c33 c34 c35 c36 c37
        have c10 := B1.out.cell 0 (.string k1) rfl
        have c11 := B1.out.cell 1 (.int .i64 b1) rfl
        have c12 := B1.out.cell 2 (.int .i64 e1) rfl
        have c13 := B1.out.cell 3 (.int .i64 s1) rfl
        have c14 := B1.out.cell 4 (.int .i64 x1) rfl
        have c15 := B1.out.cell 5 (.int .i64 y1) rfl
        have c16 := B1.out.cell 6 (.string u1) rfl
        have c17 := B1.out.cell 7 (.bool g1) rfl
        have c20 := B2.out.cell 0 (.string k2) rfl
        have c21 := B2.out.cell 1 (.int .i64 b2) rfl
        have c22 := B2.out.cell 2 (.int .i64 e2) rfl
        have c23 := B2.out.cell 3 (.int .i64 s2) rfl
        have c24 := B2.out.cell 4 (.int .i64 x2) rfl
        have c25 := B2.out.cell 5 (.int .i64 y2) rfl
        have c26 := B2.out.cell 6 (.string u2) rfl
        have c27 := B2.out.cell 7 (.bool g2) rfl
        have c30 := B3.out.cell 0 (.string k3) rfl
        have c31 := B3.out.cell 1 (.int .i64 b3) rfl
        have c32 := B3.out.cell 2 (.int .i64 e3) rfl
        have c33 := B3.out.cell 3 (.int .i64 s3) rfl
        have c34 := B3.out.cell 4 (.int .i64 x3) rfl
        have c35 := B3.out.cell 5 (.int .i64 y3) rfl
        have c36 := B3.out.cell 6 (.string u3) rfl
        have c37 := B3.out.cell 7 (.bool g3) rfl
        go_wp2_with fail
        refine (K0.out _).mono ?_
        rintro z w1 ⟨rfl, hb⟩
        have B1 := Lib.hid (B1.out.later hb)
        have B2 := Lib.hid (B2.out.later hb)
        have B3 := Lib.hid (B3.out.later hb)
        have G := Lib.hid (G.out.trans (hb.mono G.out.size))
        clear hb c10 c11 c12 c13 c14 c15 c16 c17 c20 c21 c22 c23 c24 c25 c26 c27 c30 c31 c32 c33 c34 c35 c36 c37
        have c10 := B1.out.cell 0 (.string k1) rfl
        have c11 := B1.out.cell 1 (.int .i64 b1) rfl
        have c12 := B1.out.cell 2 (.int .i64 e1) rfl
        have c13 := B1.out.cell 3 (.int .i64 s1) rfl
        have c14 := B1.out.cell 4 (.int .i64 x1) rfl
        have c15 := B1.out.cell 5 (.int .i64 y1) rfl
        have c16 := B1.out.cell 6 (.string u1) rfl
        have c17 := B1.out.cell 7 (.bool g1) rfl
        have c20 := B2.out.cell 0 (.string k2) rfl
        have c21 := B2.out.cell 1 (.int .i64 b2) rfl
        have c22 := B2.out.cell 2 (.int .i64 e2) rfl
        have c23 := B2.out.cell 3 (.int .i64 s2) rfl
        have c24 := B2.out.cell 4 (.int .i64 x2) rfl
        have c25 := B2.out.cell 5 (.int .i64 y2) rfl
        have c26 := B2.out.cell 6 (.string u2) rfl
        have c27 := B2.out.cell 7 (.bool g2) rfl
        have c30 := B3.out.cell 0 (.string k3) rfl
        have c31 := B3.out.cell 1 (.int .i64 b3) rfl
        have c32 := B3.out.cell 2 (.int .i64 e3) rfl
        have c33 := B3.out.cell 3 (.int .i64 s3) rfl
        have c34 := B3.out.cell 4 (.int .i64 x3) rfl
        have c35 := B3.out.cell 5 (.int .i64 y3) rfl
        have c36 := B3.out.cell 6 (.string u3) rfl
        have c37 := B3.out.cell 7 (.bool g3) rfl
        go_wp2_with fail
        refine (lives_any _).mono ?_
        rintro z w5 ⟨rfl, hb5⟩
        have G := Lib.hid (G.out.trans (hb5.mono G.out.size))
        clear hb5 c10 c11 c12 c13 c14 c15 c16 c17 c20 c21 c22 c23 c24 c25 c26 c27 c30 c31 c32 c33 c34 c35 c36 c37
        go_wp2_with fail
        go_ret
        exact ⟨rfl, G.out⟩
    · have d1 : decide (c1 ≤ 0) = false := by rw [decide_eq_false_iff_not]; omega
      go_enter Try.func8, Try.ntmps8
      go_wp2_with fail
      generalize ((w.alloc (.cells #[.string k1, .int .i64 b1, .int .i64 e1, .int .i64 s1, .int .i64 x1, .int .i64 y1, .string u1, .bool g1] 27)).alloc (.cells #[.string k2, .int .i64 b2, .int .i64 e2, .int .i64 s2, .int .i64 x2, .int .i64 y2, .string u2, .bool g2] 27)).alloc (.cells #[.string k3, .int .i64 b3, .int .i64 e3, .int .i64 s3, .int .i64 x3, .int .i64 y3, .string u3, .bool g3] 27) = w0 at *
      have c10 := B1.out.cell 0 (.string k1) rfl
      have c11 := B1.out.cell 1 (.int .i64 b1) rfl
      have c12 := B1.out.cell 2 (.int .i64 e1) rfl
      have c13 := B1.out.cell 3 (.int .i64 s1) rfl
      have c14 := B1.out.cell 4 (.int .i64 x1) rfl
      have c15 := B1.out.cell 5 (.int .i64 y1) rfl
      have c16 := B1.out.cell 6 (.string u1) rfl
      have c17 := B1.out.cell 7 (.bool g1) rfl
      have c20 := B2.out.cell 0 (.string k2) rfl
      have c21 := B2.out.cell 1 (.int .i64 b2) rfl
      have c22 := B2.out.cell 2 (.int .i64 e2) rfl
      have c23 := B2.out.cell 3 (.int .i64 s2) rfl
      have c24 := B2.out.cell 4 (.int .i64 x2) rfl
      have c25 := B2.out.cell 5 (.int .i64 y2) rfl
      have c26 := B2.out.cell 6 (.string u2) rfl
      have c27 := B2.out.cell 7 (.bool g2) rfl
      have c30 := B3.out.cell 0 (.string k3) rfl
      have c31 := B3.out.cell 1 (.int .i64 b3) rfl
      have c32 := B3.out.cell 2 (.int .i64 e3) rfl
      have c33 := B3.out.cell 3 (.int .i64 s3) rfl
      have c34 := B3.out.cell 4 (.int .i64 x3) rfl
      have c35 := B3.out.cell 5 (.int .i64 y3) rfl
      have c36 := B3.out.cell 6 (.string u3) rfl
      have c37 := B3.out.cell 7 (.bool g3) rfl
      go_wp2_with fail
      refine (K1.out _).mono ?_
      rintro z w1 ⟨rfl, hb⟩
      have B1 := Lib.hid (B1.out.later hb)
      have B2 := Lib.hid (B2.out.later hb)
      have B3 := Lib.hid (B3.out.later hb)
      have G := Lib.hid (G.out.trans (hb.mono G.out.size))
      clear hb c10 c11 c12 c13 c14 c15 c16 c17 c20 c21 c22 c23 c24 c25 c26 c27 c30 c31 c32 c33 c34 c35 c36 c37
      have c10 := B1.out.cell 0 (.string k1) rfl
      have c11 := B1.out.cell 1 (.int .i64 b1) rfl
      have c12 := B1.out.cell 2 (.int .i64 e1) rfl
      have c13 := B1.out.cell 3 (.int .i64 s1) rfl
      have c14 := B1.out.cell 4 (.int .i64 x1) rfl
      have c15 := B1.out.cell 5 (.int .i64 y1) rfl
      have c16 := B1.out.cell 6 (.string u1) rfl
      have c17 := B1.out.cell 7 (.bool g1) rfl
      have c20 := B2.out.cell 0 (.string k2) rfl
      have c21 := B2.out.cell 1 (.int .i64 b2) rfl
      have c22 := B2.out.cell 2 (.int .i64 e2) rfl
      have c23 := B2.out.cell 3 (.int .i64 s2) rfl
      have c24 := B2.out.cell 4 (.int .i64 x2) rfl
      have c25 := B2.out.cell 5 (.int .i64 y2) rfl
      have c26 := B2.out.cell 6 (.string u2) rfl
      have c27 := B2.out.cell 7 (.bool g2) rfl
      have c30 := B3.out.cell 0 (.string k3) rfl
      have c31 := B3.out.cell 1 (.int .i64 b3) rfl
      have c32 := B3.out.cell 2 (.int .i64 e3) rfl
      have c33 := B3.out.cell 3 (.int .i64 s3) rfl
      have c34 := B3.out.cell 4 (.int .i64 x3) rfl
      have c35 := B3.out.cell 5 (.int .i64 y3) rfl
      have c36 := B3.out.cell 6 (.string u3) rfl
      have c37 := B3.out.cell 7 (.bool g3) rfl
      go_wp2_with fail
      refine (K1.out _).mono ?_
      rintro z w1 ⟨rfl, hb⟩
      have B1 := Lib.hid (B1.out.later hb)
      have B2 := Lib.hid (B2.out.later hb)
      have B3 := Lib.hid (B3.out.later hb)
      have G := Lib.hid (G.out.trans (hb.mono G.out.size))
      clear hb c10 c11 c12 c13 c14 c15 c16 c17 c20 c21 c22 c23 c24 c25 c26 c27 c30 c31 c32 c33 c34 c35 c36 c37
      have c10 := B1.out.cell 0 (.string k1) rfl
      have c11 := B1.out.cell 1 (.int .i64 b1) rfl
      have c12 := B1.out.cell 2 (.int .i64 e1) rfl
      have c13 := B1.out.cell 3 (.int .i64 s1) rfl
      have c14 := B1.out.cell 4 (.int .i64 x1) rfl
      have c15 := B1.out.cell 5 (.int .i64 y1) rfl
      have c16 := B1.out.cell 6 (.string u1) rfl
      have c17 := B1.out.cell 7 (.bool g1) rfl
      have c20 := B2.out.cell 0 (.string k2) rfl
      have c21 := B2.out.cell 1 (.int .i64 b2) rfl
      have c22 := B2.out.cell 2 (.int .i64 e2) rfl
      have c23 := B2.out.cell 3 (.int .i64 s2) rfl
      have c24 := B2.out.cell 4 (.int .i64 x2) rfl
      have c25 := B2.out.cell 5 (.int .i64 y2) rfl
      have c26 := B2.out.cell 6 (.string u2) rfl
      have c27 := B2.out.cell 7 (.bool g2) rfl
      have c30 := B3.out.cell 0 (.string k3) rfl
      have c31 := B3.out.cell 1 (.int .i64 b3) rfl
      have c32 := B3.out.cell 2 (.int .i64 e3) rfl
      have c33 := B3.out.cell 3 (.int .i64 s3) rfl
      have c34 := B3.out.cell 4 (.int .i64 x3) rfl
      have c35 := B3.out.cell 5 (.int .i64 y3) rfl
      have c36 := B3.out.cell 6 (.string u3) rfl
      have c37 := B3.out.cell 7 (.bool g3) rfl
      go_wp2_with fail
      refine (K0.out _).mono ?_
      rintro z w1 ⟨rfl, hb⟩
      have B1 := Lib.hid (B1.out.later hb)
      have B2 := Lib.hid (B2.out.later hb)
      have B3 := Lib.hid (B3.out.later hb)
      have G := Lib.hid (G.out.trans (hb.mono G.out.size))
      clear hb c10 c11 c12 c13 c14 c15 c16 c17 c20 c21 c22 c23 c24 c25 c26 c27 c30 c31 c32 c33 c34 c35 c36 c37
      have c10 := B1.out.cell 0 (.string k1) rfl
      have c11 := B1.out.cell 1 (.int .i64 b1) rfl
      have c12 := B1.out.cell 2 (.int .i64 e1) rfl
      have c13 := B1.out.cell 3 (.int .i64 s1) rfl
      have c14 := B1.out.cell 4 (.int .i64 x1) rfl
      have c15 := B1.out.cell 5 (.int .i64 y1) rfl
      have c16 := B1.out.cell 6 (.string u1) rfl
      have c17 := B1.out.cell 7 (.bool g1) rfl
      have c20 := B2.out.cell 0 (.string k2) rfl
      have c21 := B2.out.cell 1 (.int .i64 b2) rfl
      have c22 := B2.out.cell 2 (.int .i64 e2) rfl
      have c23 := B2.out.cell 3 (.int .i64 s2) rfl
      have c24 := B2.out.cell 4 (.int .i64 x2) rfl
      have c25 := B2.out.cell 5 (.int .i64 y2) rfl
      have c26 := B2.out.cell 6 (.string u2) rfl
      have c27 := B2.out.cell 7 (.bool g2) rfl
      have c30 := B3.out.cell 0 (.string k3) rfl
      have c31 := B3.out.cell 1 (.int .i64 b3) rfl
      have c32 := B3.out.cell 2 (.int .i64 e3) rfl
      have c33 := B3.out.cell 3 (.int .i64 s3) rfl
      have c34 := B3.out.cell 4 (.int .i64 x3) rfl
      have c35 := B3.out.cell 5 (.int .i64 y3) rfl
      have c36 := B3.out.cell 6 (.string u3) rfl
      have c37 := B3.out.cell 7 (.bool g3) rfl
      go_wp2_with fail
      refine (lives_any _).mono ?_
      rintro z w5 ⟨rfl, hb5⟩
      have G := Lib.hid (G.out.trans (hb5.mono G.out.size))
      clear hb5 c10 c11 c12 c13 c14 c15 c16 c17 c20 c21 c22 c23 c24 c25 c26 c27 c30 c31 c32 c33 c34 c35 c36 c37
      go_wp2_with fail
      go_ret
      exact ⟨rfl, G.out⟩
-- END
set_option maxRecDepth 100000 in
theorem lifted (os : Os) (started : os.Started) (H : Type) (enc : TypeId × Value → H) :
    ReturnsInHanded {} Try.checked os 8 .any (Rows.rowSortsSpec.pre6 enc Try.prog Try.f8 Rows.rowSortsRow.domain false) (Rows.rowSortsSpec.post enc Try.prog Try.f8 false true false false) := by
  refine returnsInHanded_of_change (C := Try.checked) Try.own started (by kernel_rfl) Try.func8
    (ChangeSpec.witness6 (enc := enc) (C := Try.checked) false ⟨#[], #[.agg #[.string ⟨#[]⟩, .int .i64 0, .int .i64 0, .int .i64 0, .int .i64 0, .int .i64 0, .string ⟨#[]⟩, .bool false], .agg #[.string ⟨#[]⟩, .int .i64 0, .int .i64 0, .int .i64 0, .int .i64 0, .int .i64 0, .string ⟨#[]⟩, .bool false], .agg #[.string ⟨#[]⟩, .int .i64 0, .int .i64 0, .int .i64 0, .int .i64 0, .int .i64 0, .string ⟨#[]⟩, .bool false]], []⟩ 8 (by kernel_rfl) (by kernel_rfl) (by kernel_rfl) (by kernel_rfl)) ?_
  intro W base args ds gs before hval0 hW _ _
  have hval : ∀ (j : Nat) t v, Try.f8.params[j]? = some t → args[j]? = some v → Value.okWide Try.prog W .any base t v := hval0
  have hW' := hW
  obtain ⟨p, q, hA0, hV, rfl, _, _⟩ := hW
  have hA : DataW.TrodAll enc Try.prog W 0 (fun _ => true) true Try.f8.params.toList args.toList ds p := hA0
  rw [Try.params8] at hA hval
  obtain ⟨v0, v1, v2, d0, d1, d2, p0, p1, p2, rfl, rfl, rfl, h0, h1, h2⟩ := trodAll_three hA
  obtain ⟨rfl, rfl⟩ := trodVars_none hV
  obtain ⟨a0, rfl, w0⟩ := open_ver (hval 0 _ v0 rfl rfl) h0
  obtain ⟨a1, rfl, w1⟩ := open_ver (hval 1 _ v1 rfl rfl) h1
  obtain ⟨a2, rfl, w2⟩ := open_ver (hval 2 _ v2 rfl rfl) h2
  refine (walk a0 a1 a2 _).mono fun e W' ⟨he, hb⟩ => ⟨_, he, ?_⟩
  exact law_post Try.laidOut (by decide +kernel) rfl Try.underlying4 rfl hW' rfl hb

theorem holds : Rows.RowSortsSaid :=
  OpenClaim.holds_of_wide 8 Try.f8 rfl rfl rfl rfl rfl rfl rfl ⟨rfl, rfl, rfl, rfl, rfl⟩ rfl rfl rfl rfl rfl (by kernel_rfl) Try.func8 (by kernel_rfl)
    (of_decide_eq_true (by kernel_rfl)) (by unfold Func.isWrapper; first | (rw [if_pos (by decide +kernel)]; kernel_rfl) | (rw [if_neg (by decide +kernel)]; exact ⟨rfl, rfl⟩))
    (fun os started H enc _ => lifted os started H enc)
end Go.Proofs.Ytmchiebpijnpiaa.L06
