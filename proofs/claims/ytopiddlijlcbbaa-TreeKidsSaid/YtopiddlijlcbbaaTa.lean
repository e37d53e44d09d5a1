/- Layer 11: which branches may be; whether one is there, not dropped: by the project. -/
import Derived.Test.YtopiddlijlcbbaaQk
namespace Go.Proofs.Ytopiddlijlcbbaa
open Go.RowKit
set_option linter.unusedVariables false

def epT (e : Int) : Bool := decide (0 ≤ e) && decide (e ≤ 10000)
theorem tr_epoch (e : Int) (w : World) :
    Calls Try.prog 29 #[.int .i64 e] w fun z w' => z = .returned (.bool (epT e)) ∧ w' = w := by
  go_enter Try.func29, Try.ntmps29
  cases c1 : decide (0 ≤ e)
  · have HR := Lib.hid (show epT e = false from by unfold epT; rw [c1]; rfl)
    go_wp2_with fail
    go_ret
    exact ⟨ret_bool HR.out.symm, rfl⟩
  · cases c2 : decide (e ≤ 10000)
    · have HR := Lib.hid (show epT e = false from by unfold epT; rw [c1, c2]; rfl)
      go_wp2_with fail
      go_ret
      exact ⟨ret_bool HR.out.symm, rfl⟩
    · have HR := Lib.hid (show epT e = true from by unfold epT; rw [c1, c2]; rfl)
      go_wp2_with fail
      go_ret
      exact ⟨ret_bool HR.out.symm, rfl⟩
theorem brOk_ep (i : Nat) (p f q : Int) (d : Bool) : brOk i ⟨p, f, q, d⟩ =
    (epT f && epT q && !((i == 0) && (p != -1 || f != 0)) && !(decide (0 < i) && (decide (p < 0) || decide ((i : Int) ≤ p)))) := by
  have h : (!(decide (q < 0) || decide (10000 < q) || decide (f < 0) || decide (10000 < f))) = (epT f && epT q) := by
    rw [Bool.eq_iff_iff]
    simp only [epT, Bool.and_eq_true, Bool.not_eq_true', Bool.or_eq_false_iff, decide_eq_true_eq, decide_eq_false_iff_not]
    omega
  simp only [brOk, h]
set_option maxHeartbeats 4000000 in
set_option maxRecDepth 100000 in
theorem tr_mayStand (i : Nat) (b : Br) (w : World) :
    Calls Try.prog 24 #[.int .i64 i, brV b] w fun z w' => z = .returned (.bool (brOk i b)) ∧ Below w.heap.size w w' := by
  obtain ⟨p, f, q, d⟩ := b
  have HR := Lib.hid (brOk_ep i p f q d)
  have G := Lib.hid (alloc_below w (.cells #[.int .i64 p, .int .i64 f, .int .i64 q, .bool d] 37))
  have E1 := Lib.hid (tr_epoch f)
  have E2 := Lib.hid (tr_epoch q)
  generalize brOk i ⟨p, f, q, d⟩ = R at *
  show Calls Try.prog 24 #[.int .i64 i, .agg #[.int .i64 p, .int .i64 f, .int .i64 q, .bool d]] w _
  go_enter Try.func24, Try.ntmps24
  go_wp2_with fail
  refine (E1.out _).mono ?_
  rintro z w1 ⟨rfl, rfl⟩
  generalize hc1 : epT f = c1 at *
  cases c1
  · have HN := Lib.hid (show R = false from HR.out.trans (by rfl))
    clear HR
    go_wp2_with fail
    go_ret
    exact ⟨ret_bool HN.out.symm, G.out⟩
  go_wp2_with fail
  refine (E2.out _).mono ?_
  rintro z w1 ⟨rfl, rfl⟩
  generalize hc2 : epT q = c2 at *
  cases c2
  · have HN := Lib.hid (show R = false from HR.out.trans (by rfl))
    clear HR
    go_wp2_with fail
    go_ret
    exact ⟨ret_bool HN.out.symm, G.out⟩
  clear hc1 hc2
  rcases Nat.eq_zero_or_pos i with hi | hi
  · have y0 : (i == 0) = true := by rw [beq_iff_eq]; exact hi
    have y1 : decide (0 < i) = false := by simp; exact hi
    have y2 : ((i : Int) == 0) = true := by rw [beq_iff_eq]; omega
    clear hi
    cases c5 : (p == -1)
    · have HN := Lib.hid (show R = false from by rw [HR.out, y0, y1, show (p != -1) = !(p == -1) from rfl, c5]; rfl)
      clear HR
      go_wp2_with fail
      go_ret
      exact ⟨ret_bool HN.out.symm, G.out⟩
    · cases c6 : (f == 0)
      · have HN := Lib.hid (show R = false from by rw [HR.out, y0, y1, show (p != -1) = !(p == -1) from rfl, c5, show (f != 0) = !(f == 0) from rfl, c6]; rfl)
        clear HR
        go_wp2_with fail
        go_ret
        exact ⟨ret_bool HN.out.symm, G.out⟩
      · have HN := Lib.hid (show R = true from by rw [HR.out, y0, y1, show (p != -1) = !(p == -1) from rfl, c5, show (f != 0) = !(f == 0) from rfl, c6]; rfl)
        clear HR
        go_wp2_with fail
        go_ret
        exact ⟨ret_bool HN.out.symm, G.out⟩
  · have y0 : (i == 0) = false := by rw [beq_eq_false_iff_ne]; omega
    have y1 : decide (0 < i) = true := by simp; omega
    have y2 : ((i : Int) == 0) = false := by rw [beq_eq_false_iff_ne]; omega
    clear hi
    rcases Int.lt_or_le p 0 with hp | hp
    · have c5 : decide (0 ≤ p) = false := by rw [decide_eq_false_iff_not]; omega
      have HN := Lib.hid (show R = false from by rw [HR.out, y0, y1, decide_eq_true hp]; rfl)
      clear HR hp
      go_wp2_with fail
      go_ret
      exact ⟨ret_bool HN.out.symm, G.out⟩
    · have c5 : decide (0 ≤ p) = true := by simp; exact hp
      have c7 : decide (p < 0) = false := by rw [decide_eq_false_iff_not]; omega
      rcases Int.lt_or_le p i with hq | hq
      · have c6 : decide (p < (i : Int)) = true := by simp; exact hq
        have HN := Lib.hid (show R = true from by rw [HR.out, y0, y1, c7, decide_eq_false (show ¬ (i : Int) ≤ p by omega)]; rfl)
        clear HR hq hp
        go_wp2_with fail
        go_ret
        exact ⟨ret_bool HN.out.symm, G.out⟩
      · have c6 : decide (p < (i : Int)) = false := by rw [decide_eq_false_iff_not]; omega
        have HN := Lib.hid (show R = false from by rw [HR.out, y0, y1, c7, decide_eq_true hq]; rfl)
        clear HR hq hp
        go_wp2_with fail
        go_ret
        exact ⟨ret_bool HN.out.symm, G.out⟩

set_option maxHeartbeats 4000000 in
set_option maxRecDepth 100000 in
theorem may_k : MayK := by
  intro va l w ha
  have HA := Lib.hid ha
  obtain ⟨A, ca, rfl, hla, hca, -⟩ := ha
  rcases Nat.lt_or_ge l.length 1 with h1 | h1
  · have z1 : decide ((l.length : Int) < 1) = true := by simp; omega
    have HM := Lib.hid (may_short h1)
    clear h1 hla hca
    go_enter Try.func13, Try.ntmps13
    go_wp2_with fail
    go_ret
    exact ⟨ret_bool HM.out.symm, Below.refl _ _⟩
  have z1 : decide ((l.length : Int) < 1) = false := by simp; omega
  rcases Nat.lt_or_ge 16 l.length with h2 | h2
  · have z2 : decide (16 < (l.length : Int)) = true := by simp; omega
    have z2n : decide (16 < l.length) = true := by simp; omega
    have HM := Lib.hid (may_long h2)
    clear h1 h2 hla hca
    go_enter Try.func13, Try.ntmps13
    go_wp2_with fail
    go_ret
    exact ⟨ret_bool HM.out.symm, Below.refl _ _⟩
  have z2 : decide (16 < (l.length : Int)) = false := by rw [decide_eq_false_iff_not]; omega
  have z2n : decide (16 < l.length) = false := by rw [decide_eq_false_iff_not]; omega
  have HM := Lib.hid (may_mid h1 h2)
  have HL := Lib.hid h2
  generalize mayT l = R at *
  clear h1 h2 hla hca
  go_enter Try.func13, Try.ntmps13
  go_wp2_with fail
  clear z1 z2 z2n
  go_loopw [15] (fun i wr => ∃ k : Nat, i = .int .i64 k ∧ k ≤ l.length ∧ R = okFrom k (l.drop k) ∧ Below w.heap.size w wr) (fun i _ => l.length - (intOf i).toNat)
  case atStart => exact ⟨0, rfl, Nat.zero_le _, by rw [List.drop_zero]; exact HM.out, Below.refl _ _⟩
  case round =>
    obtain ⟨k, rfl, hk, hR, hbw⟩ := hrel
    rename World => wo
    have G := Lib.hid hbw
    clear hbw
    by_cases hlt : k < l.length
    · have zl : decide ((k : Int) < (l.length : Int)) = true := by simp; omega
      have hw64 : IntKind.i64.wrap ((k : Int) + 1) = (k : Int) + 1 := by rw [IntKind.wrap_i64]; have := HL.out; omega
      obtain ⟨x, hx⟩ : ∃ x, l[k] = x := ⟨_, rfl⟩
      have MS := Lib.hid (tr_mayStand k x)
      obtain ⟨p, f, q, d⟩ := x
      obtain ⟨b, o, rfl, -, e0, e1, e2, e3⟩ := RdX.br (HA.out.below G.out) k hlt hx
      rw [okFrom_drop hlt, hx] at hR
      have HR := Lib.hid hR
      have G := Lib.hid (G.out.alloc G.out.size (.cells #[.int .i64 p, .int .i64 f, .int .i64 q, .bool d] 37))
      clear hR hx
      go_wp2_with fail
      refine (MS.out _).mono ?_
      rintro z w1 ⟨rfl, hb1⟩
      have G := Lib.hid (G.out.trans (hb1.mono G.out.size))
      clear hb1 MS
      generalize brOk k ⟨p, f, q, d⟩ = c1 at *
      cases c1
      · have HF := Lib.hid (show R = false from by rw [HR.out]; rfl)
        clear HR
        go_wp2_with fail
        go_ret
        exact ⟨ret_bool HF.out.symm, G.out⟩
      · have HF := Lib.hid (show R = okFrom (k + 1) (l.drop (k + 1)) from by rw [HR.out]; rfl)
        clear HR
        go_wp2_with fail
        go_roundw
        case rel => exact ⟨k + 1, by go_num, by omega, HF.out, G.out⟩
        case measure => simp [intOf]; omega
    · have hkl : k = l.length := by omega
      subst hkl
      have zl : decide ((l.length : Int) < (l.length : Int)) = false := by simp
      have HT := Lib.hid (show R = true from by rw [hR, List.drop_length]; rfl)
      clear hlt hR
      go_wp2_with fail
      go_ret
      exact ⟨ret_bool HT.out.symm, G.out⟩

theorem live_off {l : List Br} {b : Int} (h : mayT l = false) : liveT l b = false := by unfold liveT; rw [h]; rfl
theorem live_neg {l : List Br} {b : Int} (h : b < 0) : liveT l b = false := by unfold liveT; rw [decide_eq_false (show ¬ 0 ≤ b by omega)]; simp
theorem live_big {l : List Br} {b : Int} (h : (l.length : Int) ≤ b) : liveT l b = false := by unfold liveT; rw [decide_eq_false (show ¬ b < l.length by omega)]; simp
theorem live_at {l : List Br} {k : Nat} (hm : mayT l = true) (h : k < l.length) : liveT l k = !l[k].drop := by
  unfold liveT
  rw [hm, decide_eq_true (show (0 : Int) ≤ k by omega), decide_eq_true (show (k : Int) < l.length by omega), Int.toNat_natCast, List.getElem?_eq_getElem h]
  rfl
set_option maxHeartbeats 4000000 in
set_option maxRecDepth 100000 in
theorem live_k : LiveK := by
  intro va l b w ha
  have HA := Lib.hid ha
  have MY := Lib.hid (may_k va l w ha)
  obtain ⟨A, ca, rfl, -⟩ := ha
  cases hm : mayT l
  · have HN := Lib.hid (live_off (b := b) hm)
    rw [hm] at MY
    clear hm
    go_enter Try.func20, Try.ntmps20
    go_wp2_with fail
    refine MY.out.mono ?_
    rintro z w1 ⟨rfl, hb1⟩
    have G := Lib.hid hb1
    clear hb1
    go_wp2_with fail
    go_ret
    exact ⟨ret_bool HN.out.symm, G.out⟩
  rw [hm] at MY
  rcases Int.lt_or_le b 0 with h0 | h0
  · have z1 : decide (0 ≤ b) = false := by rw [decide_eq_false_iff_not]; omega
    have HN := Lib.hid (live_neg (l := l) h0)
    clear hm h0
    go_enter Try.func20, Try.ntmps20
    go_wp2_with fail
    refine MY.out.mono ?_
    rintro z w1 ⟨rfl, hb1⟩
    have G := Lib.hid hb1
    clear hb1
    go_wp2_with fail
    go_ret
    exact ⟨ret_bool HN.out.symm, G.out⟩
  obtain ⟨k, rfl⟩ : ∃ k : Nat, b = (k : Int) := ⟨b.toNat, by omega⟩
  have z1 : decide ((0 : Int) ≤ (k : Int)) = true := by simp
  rcases Nat.lt_or_ge k l.length with hk | hk
  · have z2 : decide ((k : Int) < (l.length : Int)) = true := by simp; omega
    have z2n : decide (k < l.length) = true := by simp; omega
    have hki : (k : Int) < (l.length : Int) := by omega
    have HN := Lib.hid (live_at hm hk)
    obtain ⟨x, hx⟩ : ∃ x, l[k] = x := ⟨_, rfl⟩
    rw [hx] at HN
    obtain ⟨p, f, q, d⟩ := x
    have HX := Lib.hid hx
    have HK := Lib.hid hk
    obtain ⟨bb, o, rfl, -, -⟩ := RdX.br HA.out k hk hx
    clear hm h0 hx
    go_enter Try.func20, Try.ntmps20
    go_wp2_with fail
    refine MY.out.mono ?_
    rintro z w1 ⟨rfl, hb1⟩
    have G := Lib.hid hb1
    obtain ⟨bb2, o2, hbo, -, e0, e1, e2, e3⟩ := RdX.br (HA.out.below G.out) k HK.out HX.out
    cases hbo
    clear hb1 e0 e1 e2
    go_wp2_with fail
    go_ret
    exact ⟨ret_bool HN.out.symm, G.out⟩
  · have z2 : decide ((k : Int) < (l.length : Int)) = false := by rw [decide_eq_false_iff_not]; omega
    have z2n : decide (k < l.length) = false := by rw [decide_eq_false_iff_not]; omega
    have HN := Lib.hid (live_big (l := l) (b := (k : Int)) (by omega))
    clear hm h0 hk
    go_enter Try.func20, Try.ntmps20
    go_wp2_with fail
    refine MY.out.mono ?_
    rintro z w1 ⟨rfl, hb1⟩
    have G := Lib.hid hb1
    clear hb1
    go_wp2_with fail
    go_ret
    exact ⟨ret_bool HN.out.symm, G.out⟩
end Go.Proofs.Ytopiddlijlcbbaa
