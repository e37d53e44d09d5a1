/- Layer 11: what a path sees, a branch's branches, by the document. -/
import Derived.Test.YtopiddlijlcbbaaQc
import Derived.Test.YtopiddlijlcbbaaBxx
namespace Go.Proofs.Ytopiddlijlcbbaa
open Go.RowKit
set_option linter.unusedVariables false

theorem sees_drop {p : List (Int × Int)} {k : Nat} (hk : k < p.length) {x y : Int} (hx : p[k] = (x, y)) (b e : Int) : seesT (p.drop k) b e = ((x == b && decide (e ≤ y)) || seesT (p.drop (k + 1)) b e) := by
  unfold seesT
  rw [List.drop_eq_getElem_cons hk, List.any_cons, hx]
set_option maxHeartbeats 4000000 in
set_option maxRecDepth 100000 in
theorem ref_sees (va : Value) (p : List (Int × Int)) (b e q : Int) (w : World) (ha : RdX lgL w w.heap.size va p) (hl : p.length ≤ 1000) :
    Calls Try.prog 17 #[va, .agg #[.int .i64 b, .int .i64 e, .int .i64 q]] w fun z w' => z = .returned (.bool (seesT p b e)) ∧ Below w.heap.size w w' := by
  have HA := Lib.hid ha
  have HL := Lib.hid hl
  have G0 := Lib.hid (alloc_below w (.cells #[.int .i64 b, .int .i64 e, .int .i64 q] 32))
  have BX := Lib.hid (Box.new w #[.int .i64 b, .int .i64 e, .int .i64 q] 32 _ rfl)
  obtain ⟨A, ca, rfl, -⟩ := ha
  clear hl
  go_enter Try.func17, Try.ntmps17
  go_wp2_with fail
  go_loopw [5] (fun i wr => ∃ k : Nat, i = .int .i64 k ∧ k ≤ p.length ∧ seesT p b e = seesT (p.drop k) b e ∧ Box wr w.heap.size #[.int .i64 b, .int .i64 e, .int .i64 q] 32 ∧ Below w.heap.size w wr) (fun i _ => p.length - (intOf i).toNat)
  case atStart => exact ⟨0, rfl, Nat.zero_le _, rfl, BX.out, G0.out⟩
  case round =>
    obtain ⟨k, rfl, hk, hR, hbx, hbw⟩ := hrel
    rename World => wo
    have G := Lib.hid hbw
    have BY := Lib.hid hbx
    have HR := Lib.hid hR
    clear hbw BX G0 hR
    by_cases hlt : k < p.length
    · have zl : decide ((k : Int) < (p.length : Int)) = true := by simp; omega
      have hki : (k : Int) < (p.length : Int) := by omega
      have hw64 : IntKind.i64.wrap ((k : Int) + 1) = (k : Int) + 1 := by rw [IntKind.wrap_i64]; have := HL.out; omega
      obtain ⟨g, hg⟩ : ∃ g, p[k] = g := ⟨_, rfl⟩
      obtain ⟨x, y⟩ := g
      have HS := Lib.hid (sees_drop hlt hg b e)
      obtain ⟨bb, o, rfl, -, e0, e1⟩ := RdX.lg (HA.out.below G.out) k hlt hg
      have d0 := hbx.cell 0 _ rfl
      have d1 := hbx.cell 1 _ rfl
      clear hbx hg
      cases c1 : (x == b)
      · have HN := Lib.hid (show seesT p b e = seesT (p.drop (k + 1)) b e from by rw [HR.out, HS.out, c1]; rfl)
        clear HS HR
        go_wp2_with fail
        go_quiet (fail)
        have G := Lib.hid (G.out.drewN nq)
        have BY := Lib.hid (BY.out.drewN nq)
        go_wp2_with fail
        go_roundw
        case rel => exact ⟨k + 1, by go_num, by omega, HN.out, BY.out, G.out⟩
        case measure => simp [intOf]; omega
      · cases c2 : decide (e ≤ y)
        · have HN := Lib.hid (show seesT p b e = seesT (p.drop (k + 1)) b e from by rw [HR.out, HS.out, c1, c2]; rfl)
          clear HS HR
          go_wp2_with fail
          go_quiet (fail)
          have G := Lib.hid (G.out.drewN nq)
          have BY := Lib.hid (BY.out.drewN nq)
          go_wp2_with fail
          go_roundw
          case rel => exact ⟨k + 1, by go_num, by omega, HN.out, BY.out, G.out⟩
          case measure => simp [intOf]; omega
        · have HN := Lib.hid (show seesT p b e = true from by rw [HR.out, HS.out, c1, c2]; rfl)
          clear HS HR
          go_wp2_with fail
          go_quiet (fail)
          have G := Lib.hid (G.out.drewN nq)
          go_wp2_with fail
          go_ret
          exact ⟨ret_bool HN.out.symm, G.out⟩
    · have hkl : k = p.length := by omega
      subst hkl
      have HN := Lib.hid (show seesT p b e = false from by rw [HR.out, List.drop_length]; rfl)
      have zl : decide ((p.length : Int) < (p.length : Int)) = false := by simp
      clear hlt hbx
      go_wp2_with fail
      go_ret
      exact ⟨ret_bool HN.out.symm, G.out⟩

theorem kids_drop {l : List Br} {k : Nat} (hk : k < l.length) (b : Int) : kidsFrom b k (l.drop k) = (if kidT b l[k] = true then [(k : Int)] else []) ++ kidsFrom b (k + 1) (l.drop (k + 1)) := by
  rw [List.drop_eq_getElem_cons hk, kidsFrom]
theorem kids_len (b : Int) : ∀ (l : List Br) (k : Nat), (kidsFrom b k l).length ≤ l.length
  | [], _ => Nat.le_refl _
  | x :: r, k => by
    have := kids_len b r (k + 1)
    rw [kidsFrom, List.length_append, List.length_cons]
    split <;> simp <;> omega
theorem int_info : (Try.prog.info? 3).map (fun i => (i.zero, i.size, i.bytes)) = some (some (.int .i64 0), intL.sz, 8) := by kernel_rfl
set_option maxHeartbeats 4000000 in
set_option maxRecDepth 100000 in
theorem ref_kids (va : Value) (l : List Br) (b : Int) (w : World) (ha : RdX brL w w.heap.size va l) (hl : l.length ≤ 1000) :
    Calls Try.prog 19 #[va, .int .i64 b] w fun z w' => ∃ v', z = .returned v' ∧ OwnX intL 3 w' w.heap.size v' (kidsT l b) ∧ Below w.heap.size w w' := by
  have HA := Lib.hid ha
  have HL := Lib.hid hl
  obtain ⟨A, ca, rfl, -⟩ := ha
  clear hl
  go_enter Try.func19, Try.ntmps19
  go_wp2_with fail
  go_loopw [5, 6] (fun x i wr => ∃ (k : Nat) (r : List Int), i = .int .i64 k ∧ k ≤ l.length ∧ kidsT l b = r ++ kidsFrom b k (l.drop k) ∧ r.length ≤ k ∧ OwnX intL 3 wr w.heap.size x r ∧ Below w.heap.size w wr) (fun _ i _ => l.length - (intOf i).toNat)
  case atStart => exact ⟨0, [], rfl, Nat.zero_le _, rfl, Nat.le_refl _, OwnX.nil _ _, Below.refl _ _⟩
  case round =>
    obtain ⟨k, r, rfl, hk, hR, hrl, ho, hbw⟩ := hrel
    rename World => wo
    have G := Lib.hid hbw
    have O := Lib.hid ho
    have HR := Lib.hid hR
    have HRL := Lib.hid hrl
    clear hbw hR ho hrl
    by_cases hlt : k < l.length
    · have zl : decide ((k : Int) < (l.length : Int)) = true := by simp; omega
      have hki : (k : Int) < (l.length : Int) := by omega
      have hw64 : IntKind.i64.wrap ((k : Int) + 1) = (k : Int) + 1 := by rw [IntKind.wrap_i64]; have := HL.out; omega
      have HS := Lib.hid (kids_drop hlt b)
      obtain ⟨x, hx⟩ : ∃ x, l[k] = x := ⟨_, rfl⟩
      rw [hx] at HS
      obtain ⟨p, f, q, d⟩ := x
      obtain ⟨bb, o, rfl, -, e0, e1, e2, e3⟩ := RdX.br (HA.out.below G.out) k hlt hx
      clear hx
      have off : kidT b ⟨p, f, q, d⟩ = false → kidsT l b = r ++ kidsFrom b (k + 1) (l.drop (k + 1)) := fun h => by rw [HR.out, HS.out, h]; simp
      have on : kidT b ⟨p, f, q, d⟩ = true → kidsT l b = (r ++ [(k : Int)]) ++ kidsFrom b (k + 1) (l.drop (k + 1)) := fun h => by rw [HR.out, HS.out, h]; simp
      cases c1 : decide (0 ≤ b)
      case' false =>
        have HN := Lib.hid (off (by simp only [kidT, c1]; rfl))
      case' true =>
        cases c2 : (p == b)
        case' false =>
          have HN := Lib.hid (off (by simp only [kidT, c1, c2]; rfl))
        case' true =>
          cases d
          case' true =>
            have HN := Lib.hid (off (by simp only [kidT, c1, c2]; rfl))
          case' false =>
            have HP := Lib.hid (on (by simp only [kidT, c1, c2]; rfl))
            clear off on HS HR
            go_wp2_with (at_builtin; refine wpl_appX (L := intL) rfl (.tmp 32) (.tmp 34) rfl Try.underlying34 int_info rfl w.heap.size _ r [(k : Int)] _ _ _ rfl rfl rfl rfl O.out G.out.size (by rw [List.length_singleton]; have := HRL.out; have := HL.out; omega) (by decide) ?_; intro v5 w5 ho5 hg5 hb5)
            go_roundw
            case rel => exact ⟨k + 1, _, by go_num, by omega, HP.out, by rw [List.length_append, List.length_singleton]; have := HRL.out; omega, ho5, G.out.trans hb5⟩
            case measure => simp [intOf]; omega
      all_goals
        clear off on HS HR
        go_wp2_with fail
        go_roundw
        case rel => exact ⟨k + 1, r, by go_num, by omega, HN.out, Nat.le_succ_of_le HRL.out, O.out, G.out⟩
        case measure => simp [intOf]; omega
    · have hkl : k = l.length := by omega
      subst hkl
      have HN := Lib.hid (show kidsT l b = r from by rw [HR.out, List.drop_length]; simp [kidsFrom])
      have zl : decide ((l.length : Int) < (l.length : Int)) = false := by simp
      clear hlt
      go_wp2_with fail
      go_ret
      exact ⟨_, rfl, by rw [HN.out]; exact O.out, G.out⟩
end Go.Proofs.Ytopiddlijlcbbaa
