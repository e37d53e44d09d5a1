/- Layer 11: what the project's functions promise, as the laws ask it; the law's own helpers. -/
import Derived.Test.YtopiddlijlcbbaaQo
namespace Go.Proofs.Ytopiddlijlcbbaa
open Go.RowKit
set_option linter.unusedVariables false

def MayK : Prop := ∀ (va : Value) (l : List Br) (w : World), RdX brL w w.heap.size va l →
  Calls Try.prog 13 #[va] w fun e w' => e = .returned (.bool (mayT l)) ∧ Below w.heap.size w w'
def PathK : Prop := ∀ (va : Value) (l : List Br) (b e : Int) (w : World), RdX brL w w.heap.size va l →
  Calls Try.prog 11 #[va, .int .i64 b, .int .i64 e] w fun z w' => ∃ v', z = .returned v' ∧ OwnX lgL 28 w' w.heap.size v' (pathT l b e) ∧ Below w.heap.size w w'
def SeesK : Prop := ∀ (va : Value) (p : List (Int × Int)) (b e q : Int) (w : World), RdX lgL w w.heap.size va p → p.length ≤ 1000 →
  Calls Try.prog 16 #[va, .agg #[.int .i64 b, .int .i64 e, .int .i64 q]] w fun z w' => z = .returned (.bool (seesT p b e)) ∧ Below w.heap.size w w'
def KidsK : Prop := ∀ (va : Value) (l : List Br) (b : Int) (w : World), RdX brL w w.heap.size va l → l.length ≤ 1000 →
  Calls Try.prog 18 #[va, .int .i64 b] w fun z w' => ∃ v', z = .returned v' ∧ OwnX intL 3 w' w.heap.size v' (kidsT l b) ∧ Below w.heap.size w w'
def LiveK : Prop := ∀ (va : Value) (l : List Br) (b : Int) (w : World), RdX brL w w.heap.size va l →
  Calls Try.prog 20 #[va, .int .i64 b] w fun z w' => z = .returned (.bool (liveT l b)) ∧ Below w.heap.size w w'
def CommonK : Prop := ∀ (va : Value) (l : List Br) (a b : Int) (w : World), RdX brL w w.heap.size va l →
  Calls Try.prog 21 #[va, .int .i64 a, .int .i64 b] w fun z w' => z = .returned (.int .i64 (commonT l a b)) ∧ Below w.heap.size w w'

theorem br_size (w : World) : (Go.sizeOf 37).run Try.prog w = .ok brL.sz w := by kernel_rfl
theorem lg_size (w : World) : (Go.sizeOf 28).run Try.prog w = .ok lgL.sz w := by kernel_rfl
set_option maxHeartbeats 1000000 in
/-- The first 20 branches. -/
theorem law_few (va : Value) (l : List Br) (w : World) (ha : RdX brL w w.heap.size va l) :
    Calls Try.prog 10 #[va] w fun z w' => ∃ v', z = .returned v' ∧ RdX brL w w.heap.size v' (l.take 20) ∧ w' = w := by
  have HA := Lib.hid ha
  obtain ⟨A, ca, rfl, -⟩ := ha
  rcases Nat.lt_or_ge 20 l.length with hg | hg
  · have z1 : decide ((20 : Int) < (l.length : Int)) = true := by simp; omega
    have z2 : decide (20 < l.length) = true := by simp; omega
    obtain ⟨A1, cc1, h1, rm⟩ := slX_head HA.out Try.underlying22 br_size 20 (20 : Int) rfl (by omega)
    have RM := Lib.hid rm
    clear rm hg
    go_enter Try.func10, Try.ntmps10
    go_wp2_with fail
    go_ret
    exact ⟨_, rfl, RM.out, rfl⟩
  · have z1 : decide ((20 : Int) < (l.length : Int)) = false := by rw [decide_eq_false_iff_not]; omega
    have z2 : decide (20 < l.length) = false := by rw [decide_eq_false_iff_not]; omega
    have RM := Lib.hid (show RdX brL w w.heap.size (.slice A l.length ca) (l.take 20) from by rw [List.take_of_length_le hg]; exact HA.out)
    clear hg
    go_enter Try.func10, Try.ntmps10
    go_wp2_with fail
    go_ret
    exact ⟨_, rfl, RM.out, rfl⟩
theorem lives_path : pathT [⟨-1, 0, 0, false⟩, ⟨0, 5, 0, false⟩] 1 9 = [(1, 9), (0, 5)] := by decide
theorem lives_live : liveT [⟨-1, 0, 0, false⟩, ⟨0, 5, 0, false⟩] 1 = true := by decide
set_option maxHeartbeats 2000000 in
set_option maxRecDepth 100000 in
theorem law11_lives (KP : PathK) (KL : LiveK) (w : World) :
    Calls Try.prog 15 #[] w fun e w' => e = .returned (.bool true) ∧ Below w.heap.size w w' := by
  have hb0 := alloc_below w (.cells #[.int .i64 (-1), .int .i64 0, .int .i64 0, .bool false, .int .i64 0, .int .i64 5, .int .i64 0, .bool false] 37)
  have R0 : RdX brL (w.alloc (.cells #[.int .i64 (-1), .int .i64 0, .int .i64 0, .bool false, .int .i64 0, .int .i64 5, .int .i64 0, .bool false] 37)) (w.alloc (.cells #[.int .i64 (-1), .int .i64 0, .int .i64 0, .bool false, .int .i64 0, .int .i64 5, .int .i64 0, .bool false] 37)).heap.size (.slice (some ⟨w.heap.size, 0, none⟩) 2 2) [⟨-1, 0, 0, false⟩, ⟨0, 5, 0, false⟩] :=
    (OwnX.new (L := brL) (e := 37) w _ [⟨-1, 0, 0, false⟩, ⟨0, 5, 0, false⟩] 2 rfl rfl (by decide)).rd
  have RD := Lib.hid R0
  have PK := Lib.hid (KP _ _ 1 9 _ R0)
  have LK := Lib.hid KL
  have G := Lib.hid hb0
  rw [lives_path] at PK
  clear R0 hb0
  go_enter Try.func15, Try.ntmps15
  go_wp2_with fail
  refine PK.out.mono ?_
  rintro z w1 ⟨v1, rfl, ho1, hb1⟩
  have G := Lib.hid (G.out.trans (hb1.mono G.out.size))
  have RD := Lib.hid (RD.out.on hb1)
  obtain ⟨g, c, rfl, -, -⟩ := ho1.pos (by decide)
  have e0 := ho1.cell 0 (by decide) 0 (.int .i64 1) rfl
  have e1 := ho1.cell 0 (by decide) 1 (.int .i64 9) rfl
  have e2 := ho1.cell 1 (by decide) 0 (.int .i64 0) rfl
  have e3 := ho1.cell 1 (by decide) 1 (.int .i64 5) rfl
  simp only [show lgL.sz = 2 from rfl, Nat.zero_mul, Nat.one_mul, Nat.zero_add, Nat.add_zero] at e0 e1 e2 e3
  clear ho1 hb1 PK
  go_wp2_with fail
  refine (LK.out _ _ 1 _ RD.out).mono ?_
  rintro z w2 ⟨rfl, hb2⟩
  rw [lives_live]
  have G := Lib.hid (G.out.trans (hb2.mono G.out.size))
  clear hb2
  go_wp2_with fail
  go_ret
  exact ⟨rfl, G.out⟩
end Go.Proofs.Ytopiddlijlcbbaa
