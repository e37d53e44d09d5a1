/- Layer 11: branches as elements; which may be, by the document. -/
import Derived.Test.YtopiddlijlcbbaaQa
namespace Go.Proofs.Ytopiddlijlcbbaa
open Go.RowKit
set_option linter.unusedVariables false

def brL : Lay Br := ⟨4, fun b => [.int .i64 b.par, .int .i64 b.fork, .int .i64 b.floor, .bool b.drop], fun _ => rfl, fun b u hu => by simp at hu; rcases hu with rfl | rfl | rfl | rfl <;> rfl, by omega⟩
def lgL : Lay (Int × Int) := ⟨2, fun g => [.int .i64 g.1, .int .i64 g.2], fun _ => rfl, fun b u hu => by simp at hu; rcases hu with rfl | rfl <;> rfl, by omega⟩
def brV (b : Br) : Value := .agg #[.int .i64 b.par, .int .i64 b.fork, .int .i64 b.floor, .bool b.drop]
def lgV (g : Int × Int) : Value := .agg #[.int .i64 g.1, .int .i64 g.2]
theorem RdX.br {w : World} {B n c : Nat} {A : Option Addr} {l : List Br} (h : RdX brL w B (.slice A n c) l) (k : Nat) (hk : k < l.length) {p f q : Int} {d : Bool} (e : l[k] = ⟨p, f, q, d⟩) : ∃ b o, A = some ⟨b, o, none⟩ ∧ b < B ∧
    w.cell? ⟨b, o + k * 4, none⟩ = some (.int .i64 p) ∧ w.cell? ⟨b, o + k * 4 + 1, none⟩ = some (.int .i64 f) ∧ w.cell? ⟨b, o + k * 4 + 2, none⟩ = some (.int .i64 q) ∧ w.cell? ⟨b, o + k * 4 + 3, none⟩ = some (.bool d) := by
  obtain ⟨b, o, rfl, hb, hc⟩ := h.at k hk
  rw [e] at hc
  exact ⟨b, o, rfl, hb, hc 0 _ rfl, hc 1 _ rfl, hc 2 _ rfl, hc 3 _ rfl⟩
theorem RdX.lg {w : World} {B n c : Nat} {A : Option Addr} {l : List (Int × Int)} (h : RdX lgL w B (.slice A n c) l) (k : Nat) (hk : k < l.length) {p f : Int} (e : l[k] = (p, f)) : ∃ b o, A = some ⟨b, o, none⟩ ∧ b < B ∧
    w.cell? ⟨b, o + k * 2, none⟩ = some (.int .i64 p) ∧ w.cell? ⟨b, o + k * 2 + 1, none⟩ = some (.int .i64 f) := by
  obtain ⟨b, o, rfl, hb, hc⟩ := h.at k hk
  rw [e] at hc
  exact ⟨b, o, rfl, hb, hc 0 _ rfl, hc 1 _ rfl⟩
theorem may_short {l : List Br} (h : l.length < 1) : mayT l = false := by
  unfold mayT; rw [decide_eq_false (by omega)]; rfl
theorem may_long {l : List Br} (h : 16 < l.length) : mayT l = false := by
  unfold mayT; rw [decide_eq_false (show ¬ l.length ≤ 16 by omega)]; simp
theorem may_mid {l : List Br} (h : 1 ≤ l.length) (h2 : l.length ≤ 16) : mayT l = okFrom 0 l := by
  unfold mayT; rw [decide_eq_true h, decide_eq_true h2]; rfl

set_option maxHeartbeats 4000000 in
set_option maxRecDepth 100000 in
theorem ref_may (va : Value) (l : List Br) (w : World) (ha : RdX brL w w.heap.size va l) :
    Calls Try.prog 14 #[va] w fun e w' => e = .returned (.bool (mayT l)) ∧ Below w.heap.size w w' := by
  have HA := Lib.hid ha
  obtain ⟨A, ca, rfl, hla, hca, -⟩ := ha
  rcases Nat.lt_or_ge l.length 1 with h1 | h1
  · have z1 : decide ((l.length : Int) < 1) = true := by simp; omega
    have HM := Lib.hid (may_short h1)
    clear h1 hla hca
    go_enter Try.func14, Try.ntmps14
    go_wp2_with fail
    go_ret
    exact ⟨ret_bool HM.out.symm, Below.refl _ _⟩
  have z1 : decide ((l.length : Int) < 1) = false := by simp; omega
  rcases Nat.lt_or_ge 16 l.length with h2 | h2
  · have z2 : decide (16 < (l.length : Int)) = true := by simp; omega
    have z2n : decide (16 < l.length) = true := by simp; omega
    have HM := Lib.hid (may_long h2)
    clear h1 h2 hla hca
    go_enter Try.func14, Try.ntmps14
    go_wp2_with fail
    go_ret
    exact ⟨ret_bool HM.out.symm, Below.refl _ _⟩
  have z2 : decide (16 < (l.length : Int)) = false := by rw [decide_eq_false_iff_not]; omega
  have z2n : decide (16 < l.length) = false := by rw [decide_eq_false_iff_not]; omega
  have HM := Lib.hid (may_mid h1 h2)
  have HL := Lib.hid h2
  generalize mayT l = R at *
  clear h1 h2 hla hca
  go_enter Try.func14, Try.ntmps14
  go_wp2_with fail
  clear z1 z2 z2n
  go_loopw [3] (fun i wr => ∃ k : Nat, i = .int .i64 k ∧ k ≤ l.length ∧ R = okFrom k (l.drop k) ∧ Below w.heap.size w wr) (fun i _ => l.length - (intOf i).toNat)
  case atStart => exact ⟨0, rfl, Nat.zero_le _, by rw [List.drop_zero]; exact HM.out, Below.refl _ _⟩
  case round =>
    obtain ⟨k, rfl, hk, hR, hbw⟩ := hrel
    rename World => wo
    have G := Lib.hid hbw
    clear hbw
    by_cases hlt : k < l.length
    · have zl : decide ((k : Int) < (l.length : Int)) = true := by simp; omega
      have hw64 : IntKind.i64.wrap ((k : Int) + 1) = (k : Int) + 1 := by rw [IntKind.wrap_i64]; have := HL.out; omega
      obtain ⟨x, hx⟩ : ∃ x, l[k] = x := ⟨_, rfl⟩
      obtain ⟨p, f, q, d⟩ := x
      obtain ⟨b, o, rfl, -, e0, e1, e2, e3⟩ := RdX.br (HA.out.below G.out) k hlt hx
      rw [okFrom_drop hlt, hx] at hR
      have HR := Lib.hid hR
      have G := Lib.hid (G.out.alloc G.out.size (.cells #[.int .i64 p, .int .i64 f, .int .i64 q, .bool d] 37))
      clear hR hx
      rcases Nat.eq_zero_or_pos k with hk0 | hk0
      · have y0 : (k == 0) = true := by rw [beq_iff_eq]; exact hk0
        have y1 : decide (0 < k) = false := by simp; exact hk0
        have y2 : ((k : Int) == 0) = true := by rw [beq_iff_eq]; omega
        have y3 : decide (0 < (k : Int)) = false := by simp; omega
        have HK0 := Lib.hid hk0
        clear hk0
        cases c1 : decide (q < 0)
        · cases c2 : decide (10000 < q)
          · cases c3 : decide (f < 0)
            · cases c4 : decide (10000 < f)
              · cases c5 : (p != -1)
                · cases c6 : (f != 0)
                  · have HF := Lib.hid (show R = okFrom (k + 1) (l.drop (k + 1)) from by rw [HR.out]; simp only [brOk, y0, y1, c1, c2, c3, c4, c5, c6]; rfl)
                    clear HR
                    go_wp2_with fail
                    go_roundw
                    case rel => exact ⟨k + 1, by go_num, by omega, HF.out, G.out⟩
                    case measure => simp [intOf]; omega
                  · have HF := Lib.hid (show R = false from by rw [HR.out]; simp only [brOk, y0, y1, c1, c2, c3, c4, c5, c6]; rfl)
                    clear HR
                    go_wp2_with fail
                    go_ret
                    exact ⟨ret_bool HF.out.symm, G.out⟩
                · have HF := Lib.hid (show R = false from by rw [HR.out]; simp only [brOk, y0, y1, c1, c2, c3, c4, c5]; rfl)
                  clear HR
                  go_wp2_with fail
                  go_ret
                  exact ⟨ret_bool HF.out.symm, G.out⟩
              · have HF := Lib.hid (show R = false from by rw [HR.out]; simp only [brOk, y0, y1, c1, c2, c3, c4]; rfl)
                clear HR
                go_wp2_with fail
                go_ret
                exact ⟨ret_bool HF.out.symm, G.out⟩
            · have HF := Lib.hid (show R = false from by rw [HR.out]; simp only [brOk, y0, y1, c1, c2, c3]; rfl)
              clear HR
              go_wp2_with fail
              go_ret
              exact ⟨ret_bool HF.out.symm, G.out⟩
          · have HF := Lib.hid (show R = false from by rw [HR.out]; simp only [brOk, y0, y1, c1, c2]; rfl)
            clear HR
            go_wp2_with fail
            go_ret
            exact ⟨ret_bool HF.out.symm, G.out⟩
        · have HF := Lib.hid (show R = false from by rw [HR.out]; simp only [brOk, y0, y1, c1]; rfl)
          clear HR
          go_wp2_with fail
          go_ret
          exact ⟨ret_bool HF.out.symm, G.out⟩
      · have y0 : (k == 0) = false := by rw [beq_eq_false_iff_ne]; omega
        have y1 : decide (0 < k) = true := by simp; omega
        have y2 : ((k : Int) == 0) = false := by rw [beq_eq_false_iff_ne]; omega
        have y3 : decide (0 < (k : Int)) = true := by simp; omega
        have HK0 := Lib.hid hk0
        clear hk0
        cases c1 : decide (q < 0)
        · cases c2 : decide (10000 < q)
          · cases c3 : decide (f < 0)
            · cases c4 : decide (10000 < f)
              · cases c5 : decide (p < 0)
                · cases c6 : decide ((k : Int) ≤ p)
                  · have HF := Lib.hid (show R = okFrom (k + 1) (l.drop (k + 1)) from by rw [HR.out]; simp only [brOk, y0, y1, c1, c2, c3, c4, c5, c6]; rfl)
                    clear HR
                    go_wp2_with fail
                    go_roundw
                    case rel => exact ⟨k + 1, by go_num, by omega, HF.out, G.out⟩
                    case measure => simp [intOf]; omega
                  · have HF := Lib.hid (show R = false from by rw [HR.out]; simp only [brOk, y0, y1, c1, c2, c3, c4, c5, c6]; rfl)
                    clear HR
                    go_wp2_with fail
                    go_ret
                    exact ⟨ret_bool HF.out.symm, G.out⟩
                · have HF := Lib.hid (show R = false from by rw [HR.out]; simp only [brOk, y0, y1, c1, c2, c3, c4, c5]; rfl)
                  clear HR
                  go_wp2_with fail
                  go_ret
                  exact ⟨ret_bool HF.out.symm, G.out⟩
              · have HF := Lib.hid (show R = false from by rw [HR.out]; simp only [brOk, y0, y1, c1, c2, c3, c4]; rfl)
                clear HR
                go_wp2_with fail
                go_ret
                exact ⟨ret_bool HF.out.symm, G.out⟩
            · have HF := Lib.hid (show R = false from by rw [HR.out]; simp only [brOk, y0, y1, c1, c2, c3]; rfl)
              clear HR
              go_wp2_with fail
              go_ret
              exact ⟨ret_bool HF.out.symm, G.out⟩
          · have HF := Lib.hid (show R = false from by rw [HR.out]; simp only [brOk, y0, y1, c1, c2]; rfl)
            clear HR
            go_wp2_with fail
            go_ret
            exact ⟨ret_bool HF.out.symm, G.out⟩
        · have HF := Lib.hid (show R = false from by rw [HR.out]; simp only [brOk, y0, y1, c1]; rfl)
          clear HR
          go_wp2_with fail
          go_ret
          exact ⟨ret_bool HF.out.symm, G.out⟩
    · have hkl : k = l.length := by omega
      subst hkl
      have zl : decide ((l.length : Int) < (l.length : Int)) = false := by simp
      have HT := Lib.hid (show R = true from by rw [hR, List.drop_length]; rfl)
      clear hlt hR
      go_wp2_with fail
      go_ret
      exact ⟨ret_bool HT.out.symm, G.out⟩
end Go.Proofs.Ytopiddlijlcbbaa
