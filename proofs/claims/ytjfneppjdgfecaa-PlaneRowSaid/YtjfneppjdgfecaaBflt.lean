/- Program-free: float64 words that stand for whole numbers of less than 2^53: made of an integer, turned back, summed, multiplied, compared: exact. -/
import Derived.Laws.ComplexArith
namespace Go.Proofs.Ytjfneppjdgfecaa
open Ieee
set_option linter.unusedVariables false

theorem log2_mul_pow (n k : Nat) (h : n ≠ 0) : (n * 2 ^ k).log2 = n.log2 + k := by
  induction k with
  | zero => simp
  | succ k ih =>
    rw [Nat.pow_succ, ← Nat.mul_assoc, Nat.mul_comm _ 2, Nat.log2_two_mul (by have := Nat.two_pow_pos k; exact Nat.mul_ne_zero h (by omega)), ih]
    omega
theorem cut_exact (way : Toward) (neg : Bool) (x d : Nat) (hd : d ≤ (x * 2 ^ d).log2 + 2) : way.cut neg (x * 2 ^ d) d = x := by
  unfold Toward.cut
  rw [Nat.min_eq_left hd]
  have hg : 1 <<< d = 2 ^ d := by rw [Nat.shiftLeft_eq, Nat.one_mul]
  have hp := Nat.two_pow_pos d
  simp only [hg]
  rw [Nat.mul_div_cancel _ hp, Nat.mul_mod_left]
  have h1 : decide (2 ^ d < 2 * 0) = false := by simp
  have h2 : ((2 ^ d == 2 * 0) : Bool) = false := by simp
  cases way <;> simp [h2]
/-- The word of a whole number, however it is written. -/
def wInt (neg : Bool) (n : Nat) : Nat := double.word neg ((n.log2 + 1022) * 2 ^ 52 + n * 2 ^ (52 - n.log2))
theorem log_bounds {n : Nat} (h0 : n ≠ 0) (h : n < 2 ^ 53) : n.log2 ≤ 52 ∧ 2 ^ 52 ≤ n * 2 ^ (52 - n.log2) ∧ n * 2 ^ (52 - n.log2) < 2 ^ 53 := by
  have h1 : n.log2 ≤ 52 := by have := (Nat.log2_lt h0).2 h; omega
  have h2 : 2 ^ n.log2 ≤ n := Nat.log2_self_le h0
  have h3 : n < 2 ^ (n.log2 + 1) := Nat.lt_log2_self
  refine ⟨h1, ?_, ?_⟩
  · have : 2 ^ 52 = 2 ^ n.log2 * 2 ^ (52 - n.log2) := by rw [← Nat.pow_add]; congr 1; omega
    rw [this]
    exact Nat.mul_le_mul_right _ h2
  · have : 2 ^ 53 = 2 ^ (n.log2 + 1) * 2 ^ (52 - n.log2) := by rw [← Nat.pow_add]; congr 1; omega
    rw [this]
    exact Nat.mul_lt_mul_of_pos_right h3 (Nat.two_pow_pos _)
theorem least_double : double.leastPlace = -1074 := by decide
theorem near_int (neg : Bool) (n k : Nat) (h0 : n ≠ 0) (h : n < 2 ^ 53) : double.nearest neg (n * 2 ^ k) (-(k : Int)) = wInt neg n := by
  obtain ⟨hl, hb1, hb2⟩ := log_bounds h0 h
  have hne : n * 2 ^ k ≠ 0 := by have := Nat.two_pow_pos k; exact Nat.mul_ne_zero h0 (by omega)
  have hlg := log2_mul_pow n k h0
  unfold Format.nearest
  rw [if_neg hne]
  have hfb : (double.fractionBits : Int) = 52 := rfl
  have hlast : max (-(k : Int) + ((n * 2 ^ k).log2 : Int) - (double.fractionBits : Int)) double.leastPlace = (n.log2 : Int) - 52 := by
    rw [hlg, least_double, hfb]; omega
  simp only [hlast]
  have hkept : Toward.even.cut neg ((n * 2 ^ k) <<< (-(k : Int) - ((n.log2 : Int) - 52)).toNat) ((n.log2 : Int) - 52 - -(k : Int)).toNat = n * 2 ^ (52 - n.log2) := by
    rcases Nat.lt_or_ge (52 - n.log2) k with hk | hk
    · have e1 : (-(k : Int) - ((n.log2 : Int) - 52)).toNat = 0 := by omega
      have e2 : ((n.log2 : Int) - 52 - -(k : Int)).toNat = k + n.log2 - 52 := by omega
      rw [e1, e2, Nat.shiftLeft_zero]
      have e3 : n * 2 ^ k = n * 2 ^ (52 - n.log2) * 2 ^ (k + n.log2 - 52) := by
        rw [Nat.mul_assoc, ← Nat.pow_add]; congr 2; omega
      rw [e3]
      refine cut_exact _ _ _ _ ?_
      rw [← e3, hlg]; omega
    · have e1 : (-(k : Int) - ((n.log2 : Int) - 52)).toNat = 52 - n.log2 - k := by omega
      have e2 : ((n.log2 : Int) - 52 - -(k : Int)).toNat = 0 := by omega
      rw [e1, e2, Nat.shiftLeft_eq, Nat.mul_assoc, ← Nat.pow_add, show k + (52 - n.log2 - k) = 52 - n.log2 from by omega]
      have := cut_exact .even neg (n * 2 ^ (52 - n.log2)) 0 (by omega)
      simpa using this
  rw [hkept]
  have e4 : ((n.log2 : Int) - 52 - double.leastPlace).toNat = n.log2 + 1022 := by rw [least_double]; omega
  rw [e4]
  have hbin : double.binade = 2 ^ 52 := rfl
  have hinf : double.infRung = 2047 * 2 ^ 52 := rfl
  rw [hbin, hinf, Nat.min_eq_left]
  · rfl
  · omega
theorem word_lt (neg : Bool) (rung : Nat) (h : rung < 2 ^ 63) : double.word neg rung < 2 ^ 64 := by
  unfold Format.word
  have : double.signWeight = 2 ^ 63 := rfl
  split <;> omega
theorem word_neg (neg : Bool) (rung : Nat) (h : rung < 2 ^ 63) : ((double.word neg rung / double.signWeight % 2 == 1) : Bool) = neg ∧ double.word neg rung % double.signWeight = rung := by
  have hs : double.signWeight = 2 ^ 63 := rfl
  unfold Format.word
  rw [hs]
  cases neg
  · simp only [Bool.false_eq_true, if_false]
    constructor
    · have : rung / 2 ^ 63 = 0 := Nat.div_eq_of_lt h
      rw [this]; rfl
    · exact Nat.mod_eq_of_lt h
  · simp only [if_true]
    constructor
    · have : (2 ^ 63 + rung) / 2 ^ 63 = 1 := by omega
      rw [this]; rfl
    · omega
theorem read_int (neg : Bool) (n : Nat) (h0 : n ≠ 0) (h : n < 2 ^ 53) : double.read (wInt neg n) = .number neg (n * 2 ^ (52 - n.log2)) (-((52 - n.log2 : Nat) : Int)) := by
  obtain ⟨hl, hb1, hb2⟩ := log_bounds h0 h
  unfold Format.read wInt
  obtain ⟨w1, w2⟩ := word_neg neg ((n.log2 + 1022) * 2 ^ 52 + n * 2 ^ (52 - n.log2)) (by omega)
  have hbin : double.binade = 2 ^ 52 := rfl
  have hinf : double.infRung = 2047 * 2 ^ 52 := rfl
  simp only [w1, w2, hbin, hinf, least_double]
  generalize hM : n * 2 ^ (52 - n.log2) = M at *
  rw [if_neg (by omega), if_pos (by omega)]
  have e1 : 2 ^ 52 + ((n.log2 + 1022) * 2 ^ 52 + M) % 2 ^ 52 = M := by omega
  have e2 : ((n.log2 + 1022) * 2 ^ 52 + M) / 2 ^ 52 - 1 = n.log2 + 1022 := by omega
  rw [e1, e2, show (-1074 + ((n.log2 + 1022 : Nat) : Int)) = -((52 - n.log2 : Nat) : Int) from by omega]
theorem read_zero (neg : Bool) : double.read (double.word neg 0) = .number neg 0 (-1074) := by
  obtain ⟨w1, w2⟩ := word_neg neg 0 (by decide)
  have hbin : double.binade = 2 ^ 52 := rfl
  unfold Format.read
  simp only [w1, w2, hbin, least_double]
  rw [if_pos (by decide)]

/-- The word stands for the whole number. -/
def FI (w : Nat) (n : Int) : Prop := w < 2 ^ 64 ∧ ∃ (s : Bool) (m k : Nat), double.read w = .number s m (-(k : Int)) ∧ signed s m 0 = n * 2 ^ k
theorem signed_up (s : Bool) (m u : Nat) : signed s m u = signed s m 0 * 2 ^ u := by
  unfold signed
  rw [Nat.shiftLeft_eq, Nat.shiftLeft_zero]
  cases s <;> simp [Int.natCast_mul, Int.natCast_pow, Int.neg_mul]
/-- What is written of a whole number, with so many places. -/
theorem FI.write {s : Bool} {m k : Nat} {n : Int} (h : signed s m 0 = n * 2 ^ k) (hn : n.natAbs < 2 ^ 53) : FI (double.write (.number s m (-(k : Int)))) n := by
  have hm : m = n.natAbs * 2 ^ k := by
    have := congrArg Int.natAbs h
    rw [Int.natAbs_mul, Int.natAbs_pow] at this
    unfold signed at this
    cases s <;> simpa using this
  unfold Format.write
  simp only
  by_cases h0 : n = 0
  · subst h0
    have hm0 : m = 0 := by simpa using hm
    subst hm0
    have : double.nearest s 0 (-(k : Int)) = double.word s 0 := by unfold Format.nearest; rw [if_pos rfl]
    rw [this]
    refine ⟨word_lt s 0 (by decide), s, 0, 1074, read_zero s, ?_⟩
    have h00 : signed s 0 0 = 0 := by unfold signed; cases s <;> rfl
    rw [h00, Int.zero_mul]
  · have hn0 : n.natAbs ≠ 0 := by omega
    obtain ⟨hl, hb1, hb2⟩ := log_bounds hn0 hn
    rw [hm, near_int s n.natAbs k hn0 hn]
    refine ⟨word_lt _ _ (by omega), s, _, _, read_int s n.natAbs hn0 hn, ?_⟩
    have hp : (0 : Int) < 2 ^ k := Int.pow_pos (by decide)
    have hsn : s = true ↔ n < 0 := by
      rw [hm] at h
      unfold signed at h
      have hpos : (0 : Int) < ((n.natAbs * 2 ^ k : Nat) : Int) := by
        have := Nat.mul_pos (Nat.pos_of_ne_zero hn0) (Nat.two_pow_pos k)
        exact Int.natCast_pos.2 this
      cases s
      · simp only [Bool.false_eq_true, if_false, Nat.shiftLeft_zero, false_iff, Int.not_lt] at h ⊢
        rw [h] at hpos
        rcases Int.lt_or_le n 0 with hn2 | hn2
        · have := Int.mul_le_mul_of_nonneg_right (Int.le_of_lt hn2) (Int.le_of_lt hp)
          rw [Int.zero_mul] at this
          omega
        · exact hn2
      · simp only [if_true, Nat.shiftLeft_zero, true_iff] at h ⊢
        rcases Int.lt_or_le n 0 with hn2 | hn2
        · exact hn2
        · have := Int.mul_le_mul_of_nonneg_right hn2 (Int.le_of_lt hp)
          rw [Int.zero_mul] at this
          omega
    unfold signed
    rw [Nat.shiftLeft_zero, Int.natCast_mul, Int.natCast_pow]
    cases s
    · have : ¬ n < 0 := fun k => by have := hsn.2 k; cases this
      simp only [Bool.false_eq_true, if_false]
      congr 1
      omega
    · have := hsn.1 rfl
      simp only [if_true]
      rw [← Int.neg_mul]
      congr 1
      omega
theorem FI.ofInt {n : Int} (hn : n.natAbs < 2 ^ 53) : FI (FloatKind.nearest .f64 n) n := by
  unfold FloatKind.nearest FloatKind.encode FloatKind.format
  have := FI.write (s := decide (n < 0)) (m := n.natAbs) (k := 0) (n := n) (by
    unfold signed
    rw [Nat.shiftLeft_zero]
    by_cases h : n < 0
    · simp only [h, decide_true, if_true]; omega
    · simp only [h, decide_false, Bool.false_eq_true, if_false]; omega) hn
  simpa using this
theorem sum_data {s t : Bool} {m n k j : Nat} {a b : Int} (h2 : signed s m 0 = a * 2 ^ k) (h4 : signed t n 0 = b * 2 ^ j) (hn : (a + b).natAbs < 2 ^ 53) :
    ∃ r, ((Datum.number s m (-(k : Int))).sum (.number t n (-(j : Int)))).map double.write = some r ∧ FI r (a + b) := by
  have hbase : min (-(k : Int)) (-(j : Int)) = -((max k j : Nat) : Int) := by omega
  have e1 : (-(k : Int) - -((max k j : Nat) : Int)).toNat = max k j - k := by omega
  have e2 : (-(j : Int) - -((max k j : Nat) : Int)).toNat = max k j - j := by omega
  have tot : signed s m (max k j - k) + signed t n (max k j - j) = (a + b) * 2 ^ (max k j) := by
    rw [signed_up s m, signed_up t n, h2, h4, Int.mul_assoc, Int.mul_assoc, ← Int.pow_add, ← Int.pow_add, show k + (max k j - k) = max k j from by omega, show j + (max k j - j) = max k j from by omega, Int.add_mul]
  refine ⟨_, ?_, FI.write (s := if (a + b) * 2 ^ (max k j) = 0 then s && t else decide ((a + b) * 2 ^ (max k j) < 0)) (m := ((a + b) * 2 ^ (max k j)).natAbs) (k := max k j) ?_ hn⟩
  · simp only [Datum.sum, hbase, e1, e2, tot, Option.map_some]
  · generalize (a + b) * 2 ^ (max k j) = T
    unfold signed
    rw [Nat.shiftLeft_zero]
    by_cases h0 : T = 0
    · subst h0; simp
    · rw [if_neg h0]
      by_cases h5 : T < 0
      · simp only [h5, decide_true, if_true]; omega
      · simp only [h5, decide_false, Bool.false_eq_true, if_false]; omega
theorem signed_not {t : Bool} {n : Nat} {b : Int} (h : signed t n 0 = b) : signed (!t) n 0 = -b := by
  subst h
  unfold signed
  cases t <;> simp
theorem FI.sum {x y : Nat} {a b : Int} (hx : FI x a) (hy : FI y b) (hn : (a + b).natAbs < 2 ^ 53) : ∃ r, floatBits .add .f64 x y = some r ∧ FI r (a + b) := by
  obtain ⟨_, s, m, k, h1, h2⟩ := hx
  obtain ⟨_, t, n, j, h3, h4⟩ := hy
  obtain ⟨r, h5, h6⟩ := sum_data h2 h4 hn
  refine ⟨r, ?_, h6⟩
  show double.add x y = _
  unfold Format.add
  rw [h1, h3]
  exact h5
theorem FI.sub {x y : Nat} {a b : Int} (hx : FI x a) (hy : FI y b) (hn : (a - b).natAbs < 2 ^ 53) : ∃ r, floatBits .sub .f64 x y = some r ∧ FI r (a - b) := by
  obtain ⟨_, s, m, k, h1, h2⟩ := hx
  obtain ⟨_, t, n, j, h3, h4⟩ := hy
  have h4' : signed (!t) n 0 = -b * 2 ^ j := by rw [signed_not h4, Int.neg_mul]
  obtain ⟨r, h5, h6⟩ := sum_data h2 h4' (by rw [← Int.sub_eq_add_neg]; exact hn)
  refine ⟨r, ?_, by rw [Int.sub_eq_add_neg]; exact h6⟩
  show double.sub x y = _
  unfold Format.sub
  rw [h1, h3]
  exact h5
theorem FI.mul {x y : Nat} {a b : Int} (hx : FI x a) (hy : FI y b) (hn : (a * b).natAbs < 2 ^ 53) : ∃ r, floatBits .mul .f64 x y = some r ∧ FI r (a * b) := by
  obtain ⟨_, s, m, k, h1, h2⟩ := hx
  obtain ⟨_, t, n, j, h3, h4⟩ := hy
  refine ⟨_, ?_, FI.write (s := s ^^ t) (m := m * n) (k := k + j) ?_ hn⟩
  · show double.mul x y = _
    unfold Format.mul
    rw [h1, h3]
    simp only [Datum.product, Option.map_some]
    rw [show -(k : Int) + -(j : Int) = -((k + j : Nat) : Int) from by omega]
  · have : signed (s ^^ t) (m * n) 0 = signed s m 0 * signed t n 0 := by
      unfold signed
      simp only [Nat.shiftLeft_zero]
      cases s <;> cases t <;> simp [Int.neg_mul, Int.mul_neg]
    rw [this, h2, h4, Int.pow_add, Int.mul_assoc, Int.mul_assoc]
    congr 1
    rw [← Int.mul_assoc, Int.mul_comm (2 ^ k) b, Int.mul_assoc]
theorem FI.order {x y : Nat} {a b : Int} (hx : FI x a) (hy : FI y b) : FloatKind.f64.format.order x y = some (compare a b) := by
  obtain ⟨_, s, m, k, h1, h2⟩ := hx
  obtain ⟨_, t, n, j, h3, h4⟩ := hy
  have hbase : min (-(k : Int)) (-(j : Int)) = -((max k j : Nat) : Int) := by omega
  have e1 : (-(k : Int) - -((max k j : Nat) : Int)).toNat = max k j - k := by omega
  have e2 : (-(j : Int) - -((max k j : Nat) : Int)).toNat = max k j - j := by omega
  show double.order x y = _
  unfold Format.order
  rw [h1, h3]
  simp only [Datum.order, hbase, e1, e2]
  rw [signed_up s m, signed_up t n, h2, h4, Int.mul_assoc, Int.mul_assoc, ← Int.pow_add, ← Int.pow_add, show k + (max k j - k) = max k j from by omega, show j + (max k j - j) = max k j from by omega]
  have hp : (0 : Int) < 2 ^ (max k j) := Int.pow_pos (by decide)
  generalize (2 : Int) ^ (max k j) = c at *
  congr 1
  simp only [compare, compareOfLessAndEq]
  have l1 : a * c < b * c ↔ a < b := by
    constructor
    · intro h
      rcases Int.lt_or_le a b with h5 | h5
      · exact h5
      · have := Int.mul_le_mul_of_nonneg_right h5 (Int.le_of_lt hp); omega
    · exact fun h => Int.mul_lt_mul_of_pos_right h hp
  have l2 : a * c = b * c ↔ a = b := by
    constructor
    · intro h
      rcases Int.lt_trichotomy a b with h5 | h5 | h5
      · have := Int.mul_lt_mul_of_pos_right h5 hp; omega
      · exact h5
      · have := Int.mul_lt_mul_of_pos_right h5 hp; omega
    · intro h; rw [h]
  simp only [l1, l2]
theorem FI.toInt {x : Nat} {a : Int} (hx : FI x a) (hn : a.natAbs < 2 ^ 53) : floatToIntVal .f64 x .i64 = some a := by
  obtain ⟨_, s, m, k, h1, h2⟩ := hx
  have hm : m = a.natAbs * 2 ^ k := by
    have := congrArg Int.natAbs h2
    rw [Int.natAbs_mul, Int.natAbs_pow] at this
    unfold signed at this
    cases s <;> simpa using this
  have hcut : Toward.zero.cut s (m <<< (-(k : Int)).toNat) (-(-(k : Int))).toNat = a.natAbs := by
    have e1 : (-(k : Int)).toNat = 0 := by omega
    have e2 : (-(-(k : Int))).toNat = k := by omega
    rw [e1, e2, Nat.shiftLeft_zero, hm]
    by_cases h0 : a.natAbs = 0
    · rw [h0]
      unfold Toward.cut
      simp
    · refine cut_exact _ _ _ _ ?_
      rw [log2_mul_pow _ _ h0]
      omega
  have hto : (FloatKind.f64.decode x).toInt .zero = some a := by
    show (double.read x).toInt .zero = _
    rw [h1]
    unfold Datum.toInt Datum.integral
    simp only [hcut]
    congr 1
    have hp : (0 : Int) < 2 ^ k := Int.pow_pos (by decide)
    unfold signed at h2 ⊢
    rw [Nat.shiftLeft_zero] at h2 ⊢
    cases s
    · simp only [Bool.false_eq_true, if_false] at h2 ⊢
      rcases Int.lt_or_le a 0 with h5 | h5
      · have := Int.mul_lt_mul_of_pos_right h5 hp
        rw [Int.zero_mul] at this
        omega
      · omega
    · simp only [if_true] at h2 ⊢
      rcases Int.lt_or_le 0 a with h5 | h5
      · have := Int.mul_lt_mul_of_pos_right h5 hp
        rw [Int.zero_mul] at this
        omega
      · omega
  unfold floatToIntVal
  rw [hto]
  simp only
  have hmin : IntKind.i64.min = -9223372036854775808 := by decide
  have hmax : IntKind.i64.max = 9223372036854775807 := by decide
  rw [if_pos]
  rw [hmin, hmax]
  omega
theorem xor_top (w : Nat) (h : w < 2 ^ 64) : w ^^^ 2 ^ 63 = if w < 2 ^ 63 then 2 ^ 63 + w else w - 2 ^ 63 := by
  split
  · rename_i h1
    apply Nat.eq_of_testBit_eq
    intro i
    rw [Nat.testBit_xor, Nat.testBit_two_pow]
    rcases Nat.lt_trichotomy i 63 with h2 | h2 | h2
    · rw [Nat.testBit_two_pow_add_gt h2]
      have : decide (63 = i) = false := by simp; omega
      rw [this]; simp
    · subst h2
      rw [Nat.testBit_two_pow_add_eq]
      simp
    · have e1 : w.testBit i = false := Nat.testBit_lt_two_pow (Nat.lt_of_lt_of_le h1 (Nat.pow_le_pow_right (by decide) (by omega)))
      have e2 : (2 ^ 63 + w).testBit i = false := Nat.testBit_lt_two_pow (Nat.lt_of_lt_of_le (show 2 ^ 63 + w < 2 ^ 64 from by omega) (Nat.pow_le_pow_right (by decide) (by omega)))
      have : decide (63 = i) = false := by simp; omega
      rw [e1, e2, this]; rfl
  · rename_i h1
    have hw : w = 2 ^ 63 + (w - 2 ^ 63) := by omega
    have h3 : w - 2 ^ 63 < 2 ^ 63 := by omega
    generalize w - 2 ^ 63 = v at *
    subst hw
    apply Nat.eq_of_testBit_eq
    intro i
    rw [Nat.testBit_xor, Nat.testBit_two_pow]
    rcases Nat.lt_trichotomy i 63 with h2 | h2 | h2
    · rw [Nat.testBit_two_pow_add_gt h2]
      have : decide (63 = i) = false := by simp; omega
      rw [this]; simp
    · subst h2
      rw [Nat.testBit_two_pow_add_eq]
      have : v.testBit 63 = false := Nat.testBit_lt_two_pow h3
      rw [this]; simp
    · have e1 : v.testBit i = false := Nat.testBit_lt_two_pow (Nat.lt_of_lt_of_le h3 (Nat.pow_le_pow_right (by decide) (by omega)))
      have e2 : (2 ^ 63 + v).testBit i = false := Nat.testBit_lt_two_pow (Nat.lt_of_lt_of_le (show 2 ^ 63 + v < 2 ^ 64 from by omega) (Nat.pow_le_pow_right (by decide) (by omega)))
      have : decide (63 = i) = false := by simp; omega
      rw [e1, e2, this]; rfl
/-- The sign turned: the number turned. -/
theorem FI.neg {x : Nat} {a : Int} (hx : FI x a) : FI (x ^^^ 2 ^ 63) (-a) := by
  obtain ⟨hl, s, m, k, h1, h2⟩ := hx
  have hx := xor_top x hl
  have hsw : double.signWeight = 2 ^ 63 := rfl
  have hd : (((x ^^^ 2 ^ 63) / double.signWeight % 2 == 1) : Bool) = !(x / double.signWeight % 2 == 1) ∧ (x ^^^ 2 ^ 63) % double.signWeight = x % double.signWeight := by
    rw [hx, hsw]
    split
    · rename_i h3
      have e1 : (2 ^ 63 + x) / 2 ^ 63 % 2 = 1 := by omega
      have e2 : x / 2 ^ 63 % 2 = 0 := by omega
      rw [e1, e2]
      exact ⟨rfl, by omega⟩
    · have e1 : (x - 2 ^ 63) / 2 ^ 63 % 2 = 0 := by omega
      have e2 : x / 2 ^ 63 % 2 = 1 := by omega
      rw [e1, e2]
      exact ⟨rfl, by omega⟩
  have hr : double.read (x ^^^ 2 ^ 63) = .number (!s) m (-(k : Int)) := by
    have h1' := h1
    unfold Format.read at h1' ⊢
    simp only [hd.1, hd.2]
    generalize x % double.signWeight = rung at *
    generalize ((x / double.signWeight % 2 == 1) : Bool) = sg at *
    simp only at h1' ⊢
    split at h1'
    · rename_i h3
      rw [if_pos h3]
      injection h1' with a1 a2 a3
      rw [a1, a2, a3]
    · rename_i h3
      rw [if_neg h3]
      split at h1'
      · rename_i h4
        rw [if_pos h4]
        injection h1' with a1 a2 a3
        rw [a1, a2, a3]
      · split at h1' <;> cases h1'
  refine ⟨?_, !s, m, k, hr, by rw [signed_not h2, Int.neg_mul]⟩
  rw [hx]
  split <;> omega
theorem FI.zero : FI 0 0 := ⟨by decide, false, 0, 1074, read_zero false, by
  have h00 : signed false 0 0 = 0 := rfl
  rw [h00, Int.zero_mul]⟩
theorem FI.one : FI 4607182418800017408 1 := by
  have h := FI.ofInt (n := 1) (by decide)
  have e : FloatKind.nearest .f64 1 = 4607182418800017408 := by decide +kernel
  rw [e] at h
  exact h
end Go.Proofs.Ytjfneppjdgfecaa
