/- container/heap over lists of versions' heads: what goes up. -/
import Derived.Test.YtnioiojafnkmhaaMh
import Derived.Test.YtnioiojafnkmhaaBE
import Derived.Test.YtnioiojafnkmhaaRows
namespace Go.Proofs.Ytnioiojafnkmhaa
open Go.RowKit
set_option linter.unusedVariables false

section
variable {α : Type} {lt : α → α → Bool}
set_option maxHeartbeats 4000000 in
set_option maxRecDepth 100000 in
theorem heapS_up (HR : World → List α → Prop) (o : Ahead lt) (p : Value)
    (LESS : ∀ (W : World) (xs : List α) (i j : Nat) (hi : i < xs.length) (hj : j < xs.length), HR W xs → Calls Try.prog 86 #[p, .int .i64 i, .int .i64 j] W fun e W' => e = .returned (.bool (lt xs[i] xs[j])) ∧ HR W' xs)
    (SWAP : ∀ (W : World) (xs : List α) (i j : Nat) (hi : i < xs.length) (hj : j < xs.length), HR W xs → Calls Try.prog 89 #[p, .int .i64 i, .int .i64 j] W fun e W' => (∃ v, e = .returned v) ∧ HR W' (swapL xs i j))
    (xs : List α) (j : Nat) (w : World) (hx : HR w xs) (hj : j < xs.length) (hl : xs.length ≤ 1000000) (hu : UpTo lt xs xs.length j) :
    Calls Try.prog 59 #[.iface 87 p, .int .i64 j] w fun e w' => (∃ v, e = .returned v) ∧ ∃ ys, HR w' ys ∧ ys.Perm xs ∧ HeapTo lt ys ys.length := by
  have HX := Lib.hid hx
  have HU := Lib.hid hu
  have LE := Lib.hid LESS
  have SW := Lib.hid SWAP
  clear hx hu LESS SWAP
  go_enter Try.func59, Try.ntmps59
  go_wp2_with fail
  go_loopw [1] (fun i wr => ∃ (k : Nat) (ys : List α), i = .int .i64 k ∧ k < xs.length ∧ HR wr ys ∧ ys.Perm xs ∧ UpTo lt ys xs.length k) (fun i _ => (intOf i).toNat)
  case atStart => exact ⟨j, xs, rfl, hj, HX.out, List.Perm.refl _, HU.out⟩
  case round =>
    obtain ⟨k, ys, rfl, hk, hr, hp, hup⟩ := hrel
    rename World => wo
    have R := Lib.hid hr
    have PM := Lib.hid hp
    have U := Lib.hid hup
    have LN := Lib.hid hp.length_eq
    clear hr hp hup
    by_cases hk0 : k = 0
    · subst hk0
      go_wp2_with fail
      refine bodyPost_end (v := .tuple #[]) (results_none rfl _ _ _) rfl ?_
      exact ⟨⟨_, rfl⟩, ys, R.out, PM.out, by rw [LN.out]; exact U.out.stop (.inl rfl)⟩
    · obtain ⟨m, hm⟩ : ∃ m, m = (k - 1) / 2 := ⟨_, rfl⟩
      have hq : Int.tdiv ((k : Int) - 1) 2 = (m : Int) := by
        rw [show (k : Int) - 1 = ((k - 1 : Nat) : Int) from by omega, hm]
        rfl
      have hmk : m < k := by omega
      have hne : ((m : Int) == (k : Int)) = false := by rw [beq_eq_false_iff_ne]; omega
      have HM := Lib.hid hm
      have H1 := Lib.hid (show k < ys.length from by rw [LN.out]; exact hk)
      have H2 := Lib.hid (show m < ys.length from by rw [LN.out]; omega)
      clear hm
      cases hlt : lt (ys[k]'H1.out) (ys[m]'H2.out)
      · have L1 := Lib.hid (LE.out wo ys k m H1.out H2.out R.out)
        rw [hlt] at L1
        have LF := Lib.hid hlt
        clear hlt
        go_wp2_with fail
        refine L1.out.mono ?_
        rintro z w1 ⟨rfl, hr1⟩
        have R1 := Lib.hid hr1
        clear hr1
        go_wp2_with fail
        refine bodyPost_end (v := .tuple #[]) (results_none rfl _ _ _) rfl ?_
        have hf : HeapTo lt ys xs.length := U.out.stop (.inr fun a b ha hb => by
          rw [← HM.out] at hb
          rw [List.getElem?_eq_getElem H1.out] at ha
          rw [List.getElem?_eq_getElem H2.out] at hb
          cases ha; cases hb
          exact LF.out)
        exact ⟨⟨_, rfl⟩, ys, R1.out, PM.out, by rw [LN.out]; exact hf⟩
      · have L1 := Lib.hid (LE.out wo ys k m H1.out H2.out R.out)
        rw [hlt] at L1
        have LF := Lib.hid hlt
        clear hlt
        go_wp2_with fail
        refine L1.out.mono ?_
        rintro z w1 ⟨rfl, hr1⟩
        have S1 := Lib.hid (SW.out w1 ys m k H2.out H1.out hr1)
        clear hr1
        go_wp2_with fail
        refine S1.out.mono ?_
        rintro z w2 ⟨⟨v2, rfl⟩, hr2⟩
        have R2 := Lib.hid hr2
        clear hr2
        go_wp2_with fail
        go_roundw
        case rel =>
          refine ⟨m, swapL ys m k, by go_num, by omega, R2.out, swap_perm.trans PM.out, ?_⟩
          have h1 := U.out.step o (by rw [LN.out]; exact Nat.le_refl _) hk (by omega) (List.getElem?_eq_getElem H1.out) (by rw [← HM.out]; exact List.getElem?_eq_getElem H2.out) LF.out
          rw [← HM.out] at h1
          exact h1
        case measure => simp [intOf]; omega
end
end Go.Proofs.Ytnioiojafnkmhaa
