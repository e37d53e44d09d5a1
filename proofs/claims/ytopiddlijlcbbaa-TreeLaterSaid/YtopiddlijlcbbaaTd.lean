/- Layer 11: a branch's branches: by the project. -/
import Derived.Test.YtopiddlijlcbbaaQk
namespace Go.Proofs.Ytopiddlijlcbbaa
open Go.RowKit
set_option linter.unusedVariables false

theorem kids_neg {b : Int} (h : b < 0) : ∀ (l : List Br) (k : Nat), kidsFrom b k l = []
  | [], _ => rfl
  | x :: r, k => by
    rw [kidsFrom, kids_neg h r (k + 1), if_neg]
    · rfl
    · unfold kidT
      rw [decide_eq_false (show ¬ 0 ≤ b by omega)]
      simp
set_option maxHeartbeats 4000000 in
set_option maxRecDepth 100000 in
theorem kids_k : KidsK := by
  intro va l b w ha hl
  have HA := Lib.hid ha
  have HL := Lib.hid hl
  obtain ⟨A, ca, rfl, -⟩ := ha
  clear hl
  rcases Int.lt_or_le b 0 with hb | hb
  · have z1 : decide (b < 0) = true := by simp; omega
    have HN := Lib.hid (show kidsT l b = [] from kids_neg hb l 0)
    clear hb
    go_enter Try.func18, Try.ntmps18
    go_wp2_with fail
    go_ret
    exact ⟨_, rfl, by rw [HN.out]; exact OwnX.nil _ _, Below.refl _ _⟩
  have z1 : decide (b < 0) = false := by rw [decide_eq_false_iff_not]; omega
  have HB := Lib.hid (show decide (0 ≤ b) = true from by simp; omega)
  clear hb
  go_enter Try.func18, Try.ntmps18
  go_wp2_with fail
  go_loopw [5, 12] (fun x i wr => ∃ (k : Nat) (r : List Int), i = .int .i64 k ∧ k ≤ l.length ∧ kidsT l b = r ++ kidsFrom b k (l.drop k) ∧ r.length ≤ k ∧ OwnX intL 3 wr w.heap.size x r ∧ Below w.heap.size w wr) (fun _ i _ => l.length - (intOf i).toNat)
  case atStart => exact ⟨0, [], rfl, Nat.zero_le _, rfl, Nat.le_refl _, OwnX.nil _ _, Below.refl _ _⟩
  case round =>
    obtain ⟨k, r, rfl, hk, hR, hrl, ho, hbw⟩ := hrel
    rename World => wo
    have G := Lib.hid hbw
    have O := Lib.hid ho
    have HR := Lib.hid hR
    have HRL := Lib.hid hrl
    clear hbw hR ho hrl
    by_cases hlt : k < l.length
    · have zl : decide ((k : Int) < (l.length : Int)) = true := by simp; omega
      have hki : (k : Int) < (l.length : Int) := by omega
      have hw64 : IntKind.i64.wrap ((k : Int) + 1) = (k : Int) + 1 := by rw [IntKind.wrap_i64]; have := HL.out; omega
      have HS := Lib.hid (kids_drop hlt b)
      obtain ⟨x, hx⟩ : ∃ x, l[k] = x := ⟨_, rfl⟩
      rw [hx] at HS
      obtain ⟨p, f, q, d⟩ := x
      obtain ⟨bb, o, rfl, -, e0, e1, e2, e3⟩ := RdX.br (HA.out.below G.out) k hlt hx
      clear hx
      have off : kidT b ⟨p, f, q, d⟩ = false → kidsT l b = r ++ kidsFrom b (k + 1) (l.drop (k + 1)) := fun h => by rw [HR.out, HS.out, h]; simp
      have on : kidT b ⟨p, f, q, d⟩ = true → kidsT l b = (r ++ [(k : Int)]) ++ kidsFrom b (k + 1) (l.drop (k + 1)) := fun h => by rw [HR.out, HS.out, h]; simp
      have G2 := Lib.hid (G.out.alloc G.out.size (.cells #[.int .i64 p, .int .i64 f, .int .i64 q, .bool d] 37))
      have O2 := Lib.hid (O.out.on (alloc_below wo (.cells #[.int .i64 p, .int .i64 f, .int .i64 q, .bool d] 37)))
      cases c2 : (p == b)
      case' false =>
        have HN := Lib.hid (off (by simp only [kidT, HB.out, c2]; rfl))
      case' true =>
        cases d
        case' true =>
          have HN := Lib.hid (off (by simp only [kidT, HB.out, c2]; rfl))
        case' false =>
          have HP := Lib.hid (on (by simp only [kidT, HB.out, c2]; rfl))
          clear off on HS HR
          go_wp2_with (at_builtin; refine wpl_appX (L := intL) rfl (.tmp 26) (.tmp 28) rfl Try.underlying34 int_info rfl w.heap.size _ r [(k : Int)] _ 1 1 rfl rfl (by rw [World.size_alloc]; rfl) rfl O2.out G2.out.size (by rw [List.length_singleton]; have := HRL.out; have := HL.out; omega) (by decide) ?_; intro v5 w5 ho5 hg5 hb5)
          go_roundw
          case rel => exact ⟨k + 1, _, by go_num, by omega, HP.out, by rw [List.length_append, List.length_singleton]; have := HRL.out; omega, ho5, G2.out.trans hb5⟩
          case measure => simp [intOf]; omega
      all_goals
        clear off on HS HR
        go_wp2_with fail
        go_roundw
        case rel => exact ⟨k + 1, r, by go_num, by omega, HN.out, Nat.le_succ_of_le HRL.out, O2.out, G2.out⟩
        case measure => simp [intOf]; omega
    · have hkl : k = l.length := by omega
      subst hkl
      have HN := Lib.hid (show kidsT l b = r from by rw [HR.out, List.drop_length]; simp [kidsFrom])
      have zl : decide ((l.length : Int) < (l.length : Int)) = false := by simp
      clear hlt
      go_wp2_with fail
      go_ret
      exact ⟨_, rfl, by rw [HN.out]; exact O.out, G.out⟩
end Go.Proofs.Ytopiddlijlcbbaa
