/- Layer 10: what the project's functions promise, as the laws ask it. -/
import Derived.Test.YtnioiojafnkmhaaMe
import Derived.Test.YtnioiojafnkmhaaMd
import Derived.Test.YtnioiojafnkmhaaMs
import Derived.Test.YtnioiojafnkmhaaMf
namespace Go.Proofs.Ytnioiojafnkmhaa
open Go.RowKit
set_option linter.unusedVariables false

theorem ver_eql_diff (W : World) (a b : Ver) (h : a ≠ b) : (binOp .eql 33 (verV a) (verV b)).run Try.prog W = .ok (.bool false) W := by
  obtain ⟨k1, b1, e1, s1, ⟨x1, y1⟩, u1, g1⟩ := a
  obtain ⟨k2, b2, e2, s2, ⟨x2, y2⟩, u2, g2⟩ := b
  unfold verV
  have h1 := bytes_list6 k1 k2
  have h2 := bytes_list6 u1 u2
  go_simp
  intro a1 a2 a3 a4 a5 a6 a7 a8
  subst a1 a2 a3 a4 a5 a6 a7 a8
  exact h rfl
/-- How many of a list are v. -/
def eqV (a b : Ver) : Bool := decide (a.key = b.key) && decide (a.b = b.b) && decide (a.e = b.e) && decide (a.s = b.s) && decide (a.sp = b.sp) && decide (a.val = b.val) && decide (a.gone = b.gone)
theorem eqV_iff {a b : Ver} : eqV a b = true ↔ a = b := by
  obtain ⟨k1, b1, e1, s1, x1, u1, g1⟩ := a
  obtain ⟨k2, b2, e2, s2, x2, u2, g2⟩ := b
  simp only [eqV, Bool.and_eq_true, decide_eq_true_eq, Ver.mk.injEq, and_assoc]
def manyV (v : Ver) : List Ver → Nat
  | [] => 0
  | x :: l => (if eqV x v = true then 1 else 0) + manyV v l
theorem many_append (v : Ver) (l m : List Ver) : manyV v (l ++ m) = manyV v l + manyV v m := by
  induction l with
  | nil => simp [manyV]
  | cons x l ih => simp only [List.cons_append, manyV, ih]; omega
theorem many_same (v : Ver) (l : List Ver) (x : Ver) (h : x = v) : manyV v (l ++ [x]) = manyV v l + 1 := by rw [many_append]; simp [manyV, eqV_iff.2 h]
theorem many_diff (v : Ver) (l : List Ver) (x : Ver) (h : x ≠ v) : manyV v (l ++ [x]) = manyV v l := by rw [many_append]; simp only [manyV]; rw [if_neg (fun e => h (eqV_iff.1 e))]; rfl
theorem many_le (v : Ver) (l : List Ver) : manyV v l ≤ l.length := by
  induction l with
  | nil => exact Nat.le_refl _
  | cons x l ih => simp only [manyV, List.length_cons]; split <;> omega
theorem many_perm (v : Ver) {l m : List Ver} (h : l.Perm m) : manyV v l = manyV v m := by
  induction h with
  | nil => rfl
  | cons x _ ih => simp only [manyV, ih]
  | swap x y l => simp only [manyV]; omega
  | trans _ _ h1 h2 => rw [h1, h2]

def cmpF : Value := .func (.func 13) #[] #[]
def AllK : Prop := ∀ (va : Value) (ls : List (List Ver)) (w : World), RdXX verL w w.heap.size va ls → (∀ l ∈ ls, Asc lessV l) → ls.flatten.length ≤ 1000 →
  Calls Try.prog 12 #[cmpF, va] w fun e w' => ∃ v', e = .returned v' ∧ OwnVr w' w.heap.size v' (sortR lessV ls.flatten) ∧ Below w.heap.size w w'
def NumK : Prop := ∀ (va : Value) (ls : List (List Int)) (w : World), RdXX intL w w.heap.size va ls → (∀ l ∈ ls, Asc intLt l) → ls.flatten.length ≤ 1000 →
  Calls Try.prog 18 #[va] w fun e w' => ∃ v', e = .returned v' ∧ OwnX intL 3 w' w.heap.size v' (sortR intLt ls.flatten) ∧ Below w.heap.size w w'
def StrK : Prop := ∀ (va : Value) (ls : List (List ByteArray)) (w : World), RdXX strL w w.heap.size va ls → (∀ l ∈ ls, Asc strLt l) → ls.flatten.length ≤ 1000 →
  Calls Try.prog 19 #[va] w fun e w' => ∃ v', e = .returned v' ∧ OwnX strL 9 w' w.heap.size v' (sortR strLt ls.flatten) ∧ Below w.heap.size w w'
def OnceK : Prop := ∀ (va : Value) (l : List Ver) (w : World), RdVr w w.heap.size va l → l.length ≤ 1000 →
  Calls Try.prog 21 #[cmpF, va] w fun e w' => ∃ v', e = .returned v' ∧ OwnVr w' w.heap.size v' (onceTo alikeV l l.length) ∧ Below w.heap.size w w'

/-- A literal of slices. -/
theorem RdXX.lit {α : Type} {L : Lay α} (w : World) (us : List Value) (ls : List (List α)) (t : TypeId) (n : Nat) (hn : n = ls.length) (hl : us.length = ls.length) (hb : n ≤ 1000000)
    (h : ∀ (i : Nat) (u : Value) (l : List α), us[i]? = some u → ls[i]? = some l → RdX L w w.heap.size u l) :
    RdXX L (w.alloc (.cells us.toArray t)) (w.alloc (.cells us.toArray t)).heap.size (.slice (some ⟨w.heap.size, 0, none⟩) n n) ls := by
  subst hn
  refine ⟨us, hl, ⟨_, _, rfl, Nat.le_refl _, by omega, fun hp => ⟨w.heap.size, 0, rfl, by simp, fun k u hu => ?_⟩⟩, fun i u l hu hi => (h i u l hu hi).on (alloc_below w _)⟩
  rw [cell_of_row _ _ _ _ _ (0, 0) (heap_alloc_new w _)]
  simpa using hu

theorem lit1 {α : Type} {L : Lay α} {w : World} {u : Value} {l : List α} (t : TypeId) (h : RdX L w w.heap.size u l) : RdXX L (w.alloc (.cells #[u] t)) (w.alloc (.cells #[u] t)).heap.size (.slice (some ⟨w.heap.size, 0, none⟩) 1 1) [l] :=
  RdXX.lit w [u] [l] t 1 rfl rfl (by decide) (fun i x m hx hm => by
    match i with
    | 0 => simp at hx hm; subst hx hm; exact h
    | i + 1 => simp at hx)
theorem lit2 {α : Type} {L : Lay α} {w : World} {u u2 : Value} {l l2 : List α} (t : TypeId) (h : RdX L w w.heap.size u l) (h2 : RdX L w w.heap.size u2 l2) : RdXX L (w.alloc (.cells #[u, u2] t)) (w.alloc (.cells #[u, u2] t)).heap.size (.slice (some ⟨w.heap.size, 0, none⟩) 2 2) [l, l2] :=
  RdXX.lit w [u, u2] [l, l2] t 2 rfl rfl (by decide) (fun i x m hx hm => by
    match i with
    | 0 => simp at hx hm; subst hx hm; exact h
    | 1 => simp at hx hm; subst hx hm; exact h2
    | i + 2 => simp at hx)
theorem lit3 {α : Type} {L : Lay α} {w : World} {u u2 u3 : Value} {l l2 l3 : List α} (t : TypeId) (h : RdX L w w.heap.size u l) (h2 : RdX L w w.heap.size u2 l2) (h3 : RdX L w w.heap.size u3 l3) : RdXX L (w.alloc (.cells #[u, u2, u3] t)) (w.alloc (.cells #[u, u2, u3] t)).heap.size (.slice (some ⟨w.heap.size, 0, none⟩) 3 3) [l, l2, l3] :=
  RdXX.lit w [u, u2, u3] [l, l2, l3] t 3 rfl rfl (by decide) (fun i x m hx hm => by
    match i with
    | 0 => simp at hx hm; subst hx hm; exact h
    | 1 => simp at hx hm; subst hx hm; exact h2
    | 2 => simp at hx hm; subst hx hm; exact h3
    | i + 3 => simp at hx)

theorem lives_list : sortR intLt [1, 4, 2, 3, 9] = [1, 2, 3, 4, 9] := by decide
set_option maxHeartbeats 2000000 in
set_option maxRecDepth 100000 in
theorem law10_lives (K : NumK) (w : World) :
    Calls Try.prog 15 #[] w fun e w' => e = .returned (.bool true) ∧ Below w.heap.size w w' := by
  have B1 : Below w.heap.size w (((w.alloc (.cells #[.int .i64 1, .int .i64 4] 3)).alloc (.cells #[.int .i64 2, .int .i64 3, .int .i64 9] 3)).alloc (.cells #[.slice (some ⟨w.heap.size, 0, none⟩) 2 2, .slice (some ⟨w.heap.size + 1, 0, none⟩) 3 3] 43)) :=
    (((Below.refl _ w).alloc (Nat.le_refl _) _).alloc (by simp) _).alloc (by simp; omega) _
  have R0 : RdX intL (w.alloc (.cells #[.int .i64 1, .int .i64 4] 3)) (w.alloc (.cells #[.int .i64 1, .int .i64 4] 3)).heap.size (.slice (some ⟨w.heap.size, 0, none⟩) 2 2) [1, 4] := (OwnX.new (L := intL) (e := 3) w #[.int .i64 1, .int .i64 4] [1, 4] 2 rfl rfl (by decide)).rd
  have R1 := R0.on (alloc_below (w.alloc (.cells #[.int .i64 1, .int .i64 4] 3)) (.cells #[.int .i64 2, .int .i64 3, .int .i64 9] 3))
  have R2 := (OwnX.new (L := intL) (e := 3) (w.alloc (.cells #[.int .i64 1, .int .i64 4] 3)) #[.int .i64 2, .int .i64 3, .int .i64 9] [2, 3, 9] 3 rfl rfl (by decide)).rd
  rw [show (w.alloc (.cells #[.int .i64 1, .int .i64 4] 3)).heap.size = w.heap.size + 1 from by simp] at R2
  have R3 := RdXX.lit (L := intL) ((w.alloc (.cells #[.int .i64 1, .int .i64 4] 3)).alloc (.cells #[.int .i64 2, .int .i64 3, .int .i64 9] 3)) [.slice (some ⟨w.heap.size, 0, none⟩) 2 2, .slice (some ⟨w.heap.size + 1, 0, none⟩) 3 3] [[1, 4], [2, 3, 9]] 43 2 rfl rfl (by decide) (fun i u l hu hi => by
    match i with
    | 0 => simp at hu hi; subst hu hi; exact R1
    | 1 => simp at hu hi; subst hu hi; exact R2
    | i + 2 => simp at hu)
  rw [show ((w.alloc (.cells #[.int .i64 1, .int .i64 4] 3)).alloc (.cells #[.int .i64 2, .int .i64 3, .int .i64 9] 3)).heap.size = w.heap.size + 1 + 1 from by simp] at R3
  have KK := Lib.hid (K _ _ _ R3 (fun l hl => by
    rcases List.mem_cons.1 hl with rfl | hl
    · unfold Asc; decide
    · rcases List.mem_cons.1 hl with rfl | hl
      · unfold Asc; decide
      · cases hl) (by decide))
  have G := Lib.hid B1
  clear B1 R0 R1 R2 R3
  go_enter Try.func15, Try.ntmps15
  go_wp2_with fail
  refine KK.out.mono ?_
  rintro z w3 ⟨v3, rfl, ho, hb⟩
  rw [show sortR intLt [[1, 4], [2, 3, 9]].flatten = [1, 2, 3, 4, 9] from lives_list] at ho
  obtain ⟨g, c, rfl, -, -⟩ := ho.pos (by decide)
  have e0 := ho.cell 0 (by decide) 0 _ rfl
  have e1 := ho.cell 1 (by decide) 0 _ rfl
  have e2 := ho.cell 2 (by decide) 0 _ rfl
  have e3 := ho.cell 3 (by decide) 0 _ rfl
  have e4 := ho.cell 4 (by decide) 0 _ rfl
  simp only [show intL.sz = 1 from rfl, Nat.mul_one, Nat.add_zero] at e0 e1 e2 e3 e4
  have GX := Lib.hid (G.out.trans (hb.mono G.out.size))
  clear ho hb
  go_wp2_with fail
  go_ret
  exact ⟨rfl, GX.out⟩
end Go.Proofs.Ytnioiojafnkmhaa
