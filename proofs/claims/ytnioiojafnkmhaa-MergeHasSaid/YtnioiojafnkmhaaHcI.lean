/- container/heap over lists' heads: Push, Pop. -/
import Derived.Test.YtnioiojafnkmhaaHbI
namespace Go.Proofs.Ytnioiojafnkmhaa
open Go.RowKit
set_option linter.unusedVariables false

section
variable {α : Type} {lt : α → α → Bool}
/-- What a heap's methods do: HR W xs says that in the world W the heap stands as xs. -/
structure HeapI (HR : World → List α → Prop) (lt : α → α → Bool) (p : Value) (enc : α → Value) (Ok : α → Prop) : Prop where
  less : ∀ (W : World) (xs : List α) (i j : Nat) (hi : i < xs.length) (hj : j < xs.length), HR W xs → Calls Try.prog 80 #[p, .int .i64 i, .int .i64 j] W fun e W' => e = .returned (.bool (lt xs[i] xs[j])) ∧ HR W' xs
  swap : ∀ (W : World) (xs : List α) (i j : Nat) (hi : i < xs.length) (hj : j < xs.length), HR W xs → Calls Try.prog 83 #[p, .int .i64 i, .int .i64 j] W fun e W' => (∃ v, e = .returned v) ∧ HR W' (swapL xs i j)
  size : ∀ (W : World) (xs : List α), HR W xs → Calls Try.prog 48 #[p] W fun e W' => e = .returned (.int .i64 xs.length) ∧ HR W' xs
  push : ∀ (W : World) (xs : List α) (a : α), Ok a → HR W xs → xs.length ≤ 100000 → Calls Try.prog 82 #[p, enc a] W fun e W' => (∃ v, e = .returned v) ∧ HR W' (xs ++ [a])
  pop : ∀ (W : World) (xs : List α) (a : α), HR W (xs ++ [a]) → Calls Try.prog 81 #[p] W fun e W' => e = .returned (enc a) ∧ HR W' xs

set_option maxHeartbeats 4000000 in
set_option maxRecDepth 100000 in
theorem heapI_push {HR : World → List α → Prop} {p : Value} {enc : α → Value} {Ok : α → Prop} (H : HeapI HR lt p enc Ok) (o : Ahead lt) (xs : List α) (a : α) (hok : Ok a) (w : World) (hx : HR w xs) (hl : xs.length ≤ 100000) (hh : HeapTo lt xs xs.length) :
    Calls Try.prog 55 #[.iface 85 p, enc a] w fun e w' => (∃ v, e = .returned v) ∧ ∃ ys, HR w' ys ∧ ys.Perm (a :: xs) ∧ HeapTo lt ys ys.length := by
  have P1 := Lib.hid (H.push w xs a hok hx hl)
  have SZ := Lib.hid H.size
  have UP := Lib.hid (fun w => heapI_up HR o p H.less H.swap (xs ++ [a]) xs.length w)
  have HU := Lib.hid (hh.up a rfl)
  have HL := Lib.hid hl
  have hlb : (xs.length : Int) ≤ 100000 := by omega
  have hll : (((xs ++ [a]).length : Nat) : Int) = (xs.length : Int) + 1 := by rw [List.length_append, List.length_singleton]; omega
  have HLL := Lib.hid hll
  clear hx hl hh hll
  generalize hE : enc a = E at *
  clear hE
  go_enter Try.func55, Try.ntmps55
  go_wp2_with fail
  refine P1.out.mono ?_
  rintro z w1 ⟨⟨v1, rfl⟩, hr1⟩
  have S1 := Lib.hid (SZ.out w1 _ hr1)
  clear hr1
  rw [HLL.out] at S1
  go_wp2_with fail
  refine S1.out.mono ?_
  rintro z w2 ⟨rfl, hr2⟩
  have U1 := Lib.hid (UP.out w2 hr2 (by simp) (by have := HL.out; simp; omega) (by rw [List.length_append]; exact HU.out))
  clear hr2
  go_wp2_with fail
  refine U1.out.mono ?_
  rintro z w3 ⟨⟨v3, rfl⟩, ys, hr3, hp3, hh3⟩
  have R3 := Lib.hid hr3
  have R4 := Lib.hid hp3
  have R5 := Lib.hid hh3
  clear hr3 hp3 hh3
  go_wp2_with fail
  refine bodyPost_end (v := .tuple #[]) (results_none rfl _ _ _) rfl ?_
  exact ⟨⟨_, rfl⟩, ys, R3.out, R4.out.trans (List.perm_append_singleton _ _), R5.out⟩

set_option maxHeartbeats 4000000 in
set_option maxRecDepth 100000 in
theorem heapI_pop {HR : World → List α → Prop} {p : Value} {enc : α → Value} {Ok : α → Prop} (H : HeapI HR lt p enc Ok) (o : Ahead lt) (xs : List α) (r : α) (w : World) (hx : HR w (r :: xs)) (hl : xs.length ≤ 100000) (hh : HeapTo lt (r :: xs) (r :: xs).length) :
    Calls Try.prog 45 #[.iface 85 p] w fun e w' => e = .returned (enc r) ∧ ∃ ys, HR w' ys ∧ (r :: ys).Perm (r :: xs) ∧ HeapTo lt ys ys.length := by
  have S1 := Lib.hid (H.size w _ hx)
  have SW := Lib.hid (fun w => H.swap w (r :: xs) 0 xs.length (by simp) (by simp))
  have DN := Lib.hid (fun w => heapI_down HR o p H.less H.swap (swapL (r :: xs) 0 xs.length) 0 xs.length w)
  have PP := Lib.hid H.pop
  have HD := Lib.hid (HeapTo.down (m := xs.length) hh rfl)
  have HL := Lib.hid hl
  have hlb : (xs.length : Int) ≤ 100000 := by omega
  have hll : (((r :: xs).length : Nat) : Int) = (xs.length : Int) + 1 := by rw [List.length_cons]; omega
  have HLL := Lib.hid hll
  clear hx hl hh hll
  rw [HLL.out] at S1
  go_enter Try.func45, Try.ntmps45
  go_wp2_with fail
  refine S1.out.mono ?_
  rintro z w1 ⟨rfl, hr1⟩
  have S2 := Lib.hid (SW.out w1 hr1)
  clear hr1
  go_wp2_with fail
  refine S2.out.mono ?_
  rintro z w2 ⟨⟨v2, rfl⟩, hr2⟩
  have S3 := Lib.hid (DN.out w2 hr2 (by rw [swap_len]; simp) (Nat.zero_le _) (by have := HL.out; rw [swap_len]; simp; omega) HD.out)
  clear hr2
  go_wp2_with fail
  refine S3.out.mono ?_
  rintro z w3 ⟨⟨v3, rfl⟩, ys, hr3, hp3, hh3, ht3⟩
  have hlen : ys.length = xs.length + 1 := by rw [hp3.length_eq, swap_len]; rfl
  have hlast : ys[xs.length]? = some r := by
    rw [ht3 _ (Nat.le_refl _), swap_get (by simp) (by simp), if_pos rfl]; rfl
  have hys : ys = ys.take xs.length ++ [r] := by
    have h1 := List.take_append_drop xs.length ys
    have h2 : ys.drop xs.length = [r] := by
      obtain ⟨hi, he⟩ := List.getElem?_eq_some_iff.1 hlast
      rw [List.drop_eq_getElem_cons hi, he, List.drop_eq_nil_of_le (by omega)]
    rw [h2] at h1
    exact h1.symm
  have R3 := Lib.hid (PP.out w3 (ys.take xs.length) r (by rw [← hys]; exact hr3))
  have R4 := Lib.hid (show (r :: ys.take xs.length).Perm (r :: xs) from by
    refine List.Perm.trans ?_ (hp3.trans swap_perm)
    conv => rhs; rw [hys]
    exact (List.perm_append_singleton _ _).symm)
  have R5 := Lib.hid (show HeapTo lt (ys.take xs.length) (ys.take xs.length).length from by
    rw [List.length_take, Nat.min_eq_left (by omega)]; exact hh3.cut)
  clear hr3 hp3 hh3 ht3 hlen hlast hys
  go_wp2_with fail
  refine R3.out.mono ?_
  rintro z w4 ⟨rfl, hr4⟩
  have R6 := Lib.hid hr4
  clear hr4
  go_wp2_with fail
  go_ret
  exact ⟨rfl, _, R6.out, R4.out, R5.out⟩
end
end Go.Proofs.Ytnioiojafnkmhaa
