/- Layer 5: spans, by the document and by the project (out of the texts of stage 4). -/
import Derived.Test.YtjfneppjdgfecaaEn
import Derived.Test.YtjfneppjdgfecaaBgen
import Derived.Test.YtjfneppjdgfecaaBret
import Derived.Laws.StructEq
namespace Go.Proofs.Ytjfneppjdgfecaa
open Go.RowKit
set_option linter.unusedVariables false

def spV (s : Sp) : Value := .agg #[.int .i64 s.1, .int .i64 s.2]

set_option maxHeartbeats 400000 in
theorem ref_may (s : Sp) (w : World) :
    Calls Try.prog 22 #[spV s] w fun e w' => e = .returned (.bool (mayB s)) ∧ Below w.heap.size w w' := by
  obtain ⟨a, b⟩ := s
  unfold spV
  go_enter Try.func22, Try.ntmps22
  go_wp2
  all_goals go_ret
  all_goals exact ⟨ret_bool (by simp [mayB, *] <;> omega), alloc_below w _⟩

set_option maxHeartbeats 400000 in
theorem ref_has (s : Sp) (t : Int) (w : World) :
    Calls Try.prog 29 #[spV s, .int .i64 t] w fun e w' => e = .returned (.bool (hasB s t)) ∧ Below w.heap.size w w' := by
  obtain ⟨a, b⟩ := s
  have HM := Lib.hid (ref_may (a, b))
  have hh := Lib.hid (show hasB (a, b) t = (mayB (a, b) && decide (a ≤ t ∧ t < b)) from rfl)
  unfold spV at *
  go_enter Try.func29, Try.ntmps29
  go_wp2_with fail
  refine (HM.out _).mono ?_
  rintro e w1 ⟨rfl, hb1⟩
  have c0 := made_cell (by simpa using hb1) 0 _ rfl
  have c1 := made_cell (by simpa using hb1) 1 _ rfl
  have G := Lib.hid ((alloc_below w (.cells #[.int .i64 a, .int .i64 b] 23)).trans (hb1.mono (by simp)))
  clear hb1
  generalize mayB (a, b) = m at *
  cases m
  all_goals
    go_wp2_with fail
    all_goals go_ret
    all_goals exact ⟨ret_bool (by rw [hh.out]; simp [*] <;> omega), G.out⟩

def spL : Lay Sp := ⟨2, fun s => [.int .i64 s.1, .int .i64 s.2], fun _ => rfl, fun x u hu => by simp at hu; rcases hu with rfl | rfl <;> rfl, by decide⟩

theorem sp_info : (Try.prog.info? 23).map (fun i => (i.zero, i.size, i.bytes)) = some (some (.agg #[.int .i64 0, .int .i64 0]), 2, 16) := by kernel_rfl

abbrev RdSp (w : World) (B : Nat) (v : Value) (l : List Sp) : Prop := RdX spL w B v l

abbrev OwnSp (w : World) (base : Nat) (v : Value) (l : List Sp) : Prop := OwnX spL 23 w base v l

theorem RdSp.here {w : World} {B : Nat} {A : Option Addr} {n c : Nat} {l : List Sp} (h : RdSp w B (.slice A n c) l) (k : Nat) (hk : k < l.length) : ∃ b o, A = some ⟨b, o, none⟩ ∧ b < B ∧ w.cell? ⟨b, o + k * 2, none⟩ = some (.int .i64 l[k].1) ∧ w.cell? ⟨b, o + k * 2 + 1, none⟩ = some (.int .i64 l[k].2) := by
  obtain ⟨b, o, rfl, hb, hc⟩ := h.at k hk
  exact ⟨b, o, rfl, hb, hc 0 _ rfl, hc 1 _ rfl⟩

theorem sp_neq (W : World) (a b : Sp) : (binOp .neq 23 (spV a) (spV b)).run Try.prog W = .ok (.bool (!decide (a = b))) W := by
  obtain ⟨a1, a2⟩ := a
  obtain ⟨b1, b2⟩ := b
  unfold spV
  go_simp
  by_cases e1 : a1 = b1 <;> by_cases e2 : a2 = b2 <;> simp [e1, e2]

theorem sp_eql (W : World) (a b : Sp) : (binOp .eql 23 (spV a) (spV b)).run Try.prog W = .ok (.bool (decide (a = b))) W := by
  obtain ⟨a1, a2⟩ := a
  obtain ⟨b1, b2⟩ := b
  unfold spV
  go_simp
  by_cases e1 : a1 = b1 <;> by_cases e2 : a2 = b2 <;> simp [e1, e2]

theorem sp_guard (W : World) (op : BinOp) (x y : Operand) (a b : Sp) : (eqGuard op 23 x y (spV a) (spV b)).run Try.prog W = .ok () W := run_eqGuard_agg W op _ x y _ _ (by kernel_rfl)

set_option maxHeartbeats 400000 in
theorem p_may (s : Sp) (w : World) :
    Calls Try.prog 33 #[spV s] w fun e w' => e = .returned (.bool (mayB s)) ∧ Below w.heap.size w w' := by
  obtain ⟨a, b⟩ := s
  unfold spV
  go_enter Try.func33, Try.ntmps33
  go_wp2
  all_goals go_ret
  all_goals exact ⟨ret_bool (by simp [mayB, *] <;> omega), alloc_below w _⟩

set_option maxHeartbeats 400000 in
theorem p_has (s : Sp) (t : Int) (w : World) :
    Calls Try.prog 24 #[spV s, .int .i64 t] w fun e w' => e = .returned (.bool (hasB s t)) ∧ Below w.heap.size w w' := by
  obtain ⟨a, b⟩ := s
  have HM := Lib.hid (p_may (a, b))
  have hh := Lib.hid (show hasB (a, b) t = (mayB (a, b) && decide (a ≤ t ∧ t < b)) from rfl)
  unfold spV at *
  go_enter Try.func24, Try.ntmps24
  go_wp2_with fail
  refine (HM.out _).mono ?_
  rintro e w1 ⟨rfl, hb1⟩
  have c0 := made_cell (by simpa using hb1) 0 _ rfl
  have c1 := made_cell (by simpa using hb1) 1 _ rfl
  have G := Lib.hid ((alloc_below w (.cells #[.int .i64 a, .int .i64 b] 23)).trans (hb1.mono (by simp)))
  clear hb1
  generalize mayB (a, b) = m at *
  cases m
  all_goals
    go_wp2_with fail
    all_goals go_ret
    all_goals exact ⟨ret_bool (by rw [hh.out]; simp [*] <;> omega), G.out⟩

end Go.Proofs.Ytjfneppjdgfecaa
