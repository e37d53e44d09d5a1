/- Layer 5, the project's: rectangles of two complex numbers; their epochs and times, a point, a turned one. -/
import Derived.Test.YtjfneppjdgfecaaEg
import Derived.Test.YtjfneppjdgfecaaEf
import Derived.Test.YtjfneppjdgfecaaBflt
import Derived.Laws.Cover3
import Derived.Laws.FloatArith
import Derived.Laws.ComplexArith
namespace Go.Proofs.Ytjfneppjdgfecaa
open Go.RowKit
set_option linter.unusedVariables false

theorem sto_cx (P : Program) (w : World) (a : Addr) (m : Mode) (k : FloatKind) (x y : Nat) : (store a (.complex k x y) m).run P w = stored P w a (.complex k x y) m := run_store P w a _ m rfl
attribute [local go_sem] sto_cx

def fw (n : Int) : Nat := floatOfInt .f64 n
theorem fw_eq (n : Int) : floatOfInt .f64 n = fw n := rfl
theorem fw_FI {n : Int} (h : n.natAbs < 2 ^ 53) : FI (fw n) n := FI.ofInt h
theorem fw_zero : fw 0 = 0 := by unfold fw; decide +kernel
def reC (r : Re) : Value := .agg #[.complex .f64 (fw r.1.1) (fw r.2.1), .complex .f64 (fw r.1.2) (fw r.2.2)]
def Rc (v : Value) (r : Re) : Prop := ∃ a b c d, v = .agg #[.complex .f64 a b, .complex .f64 c d] ∧ FI a r.1.1 ∧ FI b r.2.1 ∧ FI c r.1.2 ∧ FI d r.2.2
theorem Rc.of {r : Re} (h : okR r) : Rc (reC r) r := by
  obtain ⟨h1, h2, h3, h4⟩ := okR_bounds h
  exact ⟨_, _, _, _, rfl, fw_FI (by omega), fw_FI (by omega), fw_FI (by omega), fw_FI (by omega)⟩

set_option maxHeartbeats 1000000 in
theorem p_epochs {v : Value} {r : Re} (hv : Rc v r) (hr : okR r) (w : World) :
    Calls Try.prog 25 #[v] w fun e w' => e = .returned (spV r.1) ∧ Below w.heap.size w w' := by
  obtain ⟨a, b, c, d, rfl, ha, hb, hc, hd⟩ := hv
  obtain ⟨h1, h2, h3, h4⟩ := okR_bounds hr
  have i1 := fun W => run_convert_float_int (P := Try.prog) W 62 3 .f64 .i64 a _ rfl rfl (ha.toInt (by omega))
  have i2 := fun W => run_convert_float_int (P := Try.prog) W 62 3 .f64 .i64 c _ rfl rfl (hc.toInt (by omega))
  obtain ⟨⟨x1, x2⟩, ⟨y1, y2⟩⟩ := r
  simp only at i1 i2
  unfold spV
  have G := Lib.hid (((Below.refl w.heap.size w).alloc (Nat.le_refl _) (.cells #[.complex .f64 a b, .complex .f64 c d] 28)).alloc (by simp) (.cells #[.int .i64 x1, .int .i64 x2] 23))
  clear ha hb hc hd h1 h2 h3 h4 hr
  go_enter Try.func25, Try.ntmps25
  go_wp2_with fail
  refine bodyPost_ret (v := .agg #[.int .i64 x1, .int .i64 x2]) ?_ rfl ⟨rfl, G.out⟩
  rw [results_cell1 rfl]
  go_simp

set_option maxHeartbeats 1000000 in
theorem p_times {v : Value} {r : Re} (hv : Rc v r) (hr : okR r) (w : World) :
    Calls Try.prog 26 #[v] w fun e w' => e = .returned (spV r.2) ∧ Below w.heap.size w w' := by
  obtain ⟨a, b, c, d, rfl, ha, hb, hc, hd⟩ := hv
  obtain ⟨h1, h2, h3, h4⟩ := okR_bounds hr
  have i1 := fun W => run_convert_float_int (P := Try.prog) W 62 3 .f64 .i64 b _ rfl rfl (hb.toInt (by omega))
  have i2 := fun W => run_convert_float_int (P := Try.prog) W 62 3 .f64 .i64 d _ rfl rfl (hd.toInt (by omega))
  obtain ⟨⟨x1, x2⟩, ⟨y1, y2⟩⟩ := r
  simp only at i1 i2
  unfold spV
  have G := Lib.hid (((Below.refl w.heap.size w).alloc (Nat.le_refl _) (.cells #[.complex .f64 a b, .complex .f64 c d] 28)).alloc (by simp) (.cells #[.int .i64 y1, .int .i64 y2] 23))
  clear ha hb hc hd h1 h2 h3 h4 hr
  go_enter Try.func26, Try.ntmps26
  go_wp2_with fail
  refine bodyPost_ret (v := .agg #[.int .i64 y1, .int .i64 y2]) ?_ rfl ⟨rfl, G.out⟩
  rw [results_cell1 rfl]
  go_simp

set_option maxHeartbeats 1000000 in
theorem p_long (s : Sp) (w : World) (h1 : 0 ≤ s.1 ∧ s.1 ≤ 1099511627776) (h2 : 0 ≤ s.2 ∧ s.2 ≤ 1099511627776) :
    Calls Try.prog 27 #[spV s] w fun e w' => e = .returned (.int .i64 (s.2 - s.1)) ∧ Below w.heap.size w w' := by
  obtain ⟨a, b⟩ := s
  unfold spV
  go_enter Try.func27, Try.ntmps27
  go_wp2
  go_ret
  exact ⟨ret_int (by simp only at *; first | done | go_num), alloc_below w _⟩

set_option maxHeartbeats 1000000 in
theorem p_point (x y : Int) (w : World) :
    Calls Try.prog 34 #[.int .i64 x, .int .i64 y] w fun e w' => e = .returned (.complex .f64 (fw x) (fw y)) ∧ Below w.heap.size w w' := by
  go_enter Try.func34, Try.ntmps34
  go_wp2
  go_ret
  exact ⟨rfl, Below.refl _ _⟩

theorem turn_mul {x y : Nat} {a b : Int} (hx : FI x a) (hy : FI y b) (ha : 0 ≤ a ∧ a ≤ 1099511627776) (hb : 0 ≤ b ∧ b ≤ 1099511627776) : ∃ re im, cMulBits 0 4607182418800017408 x (y ^^^ 2 ^ 63) = some (re, im) ∧ FI re b ∧ FI im a := by
  have hn := hy.neg
  obtain ⟨p1, e1, k1⟩ := FI.zero.mul hx (by omega)
  obtain ⟨p2, e2, k2⟩ := FI.one.mul hn (by omega)
  obtain ⟨p3, e3, k3⟩ := k1.sub k2 (by omega)
  obtain ⟨p4, e4, k4⟩ := FI.zero.mul hn (by omega)
  obtain ⟨p5, e5, k5⟩ := FI.one.mul hx (by omega)
  obtain ⟨p6, e6, k6⟩ := k4.sum k5 (by omega)
  refine ⟨p3, p6, ?_, ?_, ?_⟩
  · unfold cMulBits
    simp [e1, e2, e3, e4, e5, e6]
  · have : (0 * a - 1 * -b) = b := by omega
    rw [← this]; exact k3
  · have : (0 * -b + 1 * a) = a := by omega
    rw [← this]; exact k6

set_option maxHeartbeats 1000000 in
theorem p_turnc {x y : Nat} {a b : Int} (hx : FI x a) (hy : FI y b) (ha : 0 ≤ a ∧ a ≤ 1099511627776) (hb : 0 ≤ b ∧ b ≤ 1099511627776) (w : World) :
    Calls Try.prog 28 #[.complex .f64 x y] w fun e w' => ∃ p q, e = .returned (.complex .f64 p q) ∧ FI p b ∧ FI q a ∧ Below w.heap.size w w' := by
  obtain ⟨p, q, hm, h1, h2⟩ := turn_mul hx hy ha hb
  have im := fun W => run_complex_mul (P := Try.prog) W 26 _ _ _ _ _ _ hm
  have in1 : ∀ W : World, (Op.unary .neg (.float .f64 y)).run Try.prog W = .ok (.float .f64 (y ^^^ 2 ^ 63)) W := fun W => rfl
  clear hx hy ha hb hm
  generalize y ^^^ 2 ^ 63 = z at *
  go_enter Try.func28, Try.ntmps28
  go_wp2_with fail
  go_ret
  exact ⟨p, q, rfl, h1, h2, Below.refl _ _⟩
end Go.Proofs.Ytjfneppjdgfecaa
