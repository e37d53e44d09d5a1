/- Layer 6: what the laws call: a version cut, two versions compared. -/
import Derived.Test.YtmchiebpijnpiaaRe
namespace Go.Proofs.Ytmchiebpijnpiaa
open Go.RowKit
set_option linter.unusedVariables false

theorem cut_key (v : Ver) : (cutV v).key.size ≤ 110 := by
  unfold cutV
  simp only
  split
  · rw [ByteArray.size_extract]; omega
  · omega
theorem ver_eql_same (W : World) (a : Ver) : (binOp .eql 27 (verV a) (verV a)).run Try.prog W = .ok (.bool true) W := by
  unfold verV
  go_simp
theorem ver_eql_diff (W : World) (a b : Ver) (h : a ≠ b) : (binOp .eql 27 (verV a) (verV b)).run Try.prog W = .ok (.bool false) W := by
  obtain ⟨k1, b1, e1, s1, ⟨x1, y1⟩, u1, g1⟩ := a
  obtain ⟨k2, b2, e2, s2, ⟨x2, y2⟩, u2, g2⟩ := b
  unfold verV
  have h1 := bytes_list6 k1 k2
  have h2 := bytes_list6 u1 u2
  go_simp
  intro a1 a2 a3 a4 a5 a6 a7 a8
  subst a1 a2 a3 a4 a5 a6 a7 a8
  exact h rfl
/-- Two strings of bytes are the same just if the bytes are. -/
theorem arr_beq (x y : List UInt8) : ((⟨x.toArray⟩ : ByteArray).toList == (⟨y.toArray⟩ : ByteArray).toList) = decide (x = y) := by
  rw [ByteArray.toList_eq, ByteArray.toList_eq]
  by_cases h : x = y
  · subst h; simp
  · simp [h]
/-- A version stored in a box, cell by cell. -/
theorem box_put8 {w : World} {n : Nat} {t : TypeId} {a0 a1 a2 a3 a4 a5 a6 a7 b0 b1 b2 b3 b4 b5 b6 b7 : Value} (h : Box w n #[a0, a1, a2, a3, a4, a5, a6, a7] t) : Box ((((((((w.setCell ⟨n, 0, none⟩ b0).setCell ⟨n, 1, none⟩ b1).setCell ⟨n, 2, none⟩ b2).setCell ⟨n, 3, none⟩ b3).setCell ⟨n, 4, none⟩ b4).setCell ⟨n, 5, none⟩ b5).setCell ⟨n, 6, none⟩ b6).setCell ⟨n, 7, none⟩ b7) n #[b0, b1, b2, b3, b4, b5, b6, b7] t := by
  have h8 := ((((((((h.set 0 b0).set 1 b1).set 2 b2).set 3 b3).set 4 b4).set 5 b5).set 6 b6).set 7 b7)
  simp only [List.setIfInBounds_toArray, List.set_cons_succ, List.set_cons_zero] at h8
  exact h8
theorem other_put8 {w : World} {m n : Nat} {t : TypeId} {cs : Array Value} (b0 b1 b2 b3 b4 b5 b6 b7 : Value) (h : Box w m cs t) (hne : m ≠ n) : Box ((((((((w.setCell ⟨n, 0, none⟩ b0).setCell ⟨n, 1, none⟩ b1).setCell ⟨n, 2, none⟩ b2).setCell ⟨n, 3, none⟩ b3).setCell ⟨n, 4, none⟩ b4).setCell ⟨n, 5, none⟩ b5).setCell ⟨n, 6, none⟩ b6).setCell ⟨n, 7, none⟩ b7) m cs t := ((((((((h.other ⟨n, 0, none⟩ b0 hne).other ⟨n, 1, none⟩ b1 hne).other ⟨n, 2, none⟩ b2 hne).other ⟨n, 3, none⟩ b3 hne).other ⟨n, 4, none⟩ b4 hne).other ⟨n, 5, none⟩ b5 hne).other ⟨n, 6, none⟩ b6 hne).other ⟨n, 7, none⟩ b7 hne)
theorem below_put8 {w0 w : World} {B n : Nat} (b0 b1 b2 b3 b4 b5 b6 b7 : Value) (h : Below B w0 w) (hn : B ≤ n) : Below B w0 ((((((((w.setCell ⟨n, 0, none⟩ b0).setCell ⟨n, 1, none⟩ b1).setCell ⟨n, 2, none⟩ b2).setCell ⟨n, 3, none⟩ b3).setCell ⟨n, 4, none⟩ b4).setCell ⟨n, 5, none⟩ b5).setCell ⟨n, 6, none⟩ b6).setCell ⟨n, 7, none⟩ b7) := ((((((((h.setCell (p := ⟨n, 0, none⟩) hn b0).setCell (p := ⟨n, 1, none⟩) hn b1).setCell (p := ⟨n, 2, none⟩) hn b2).setCell (p := ⟨n, 3, none⟩) hn b3).setCell (p := ⟨n, 4, none⟩) hn b4).setCell (p := ⟨n, 5, none⟩) hn b5).setCell (p := ⟨n, 6, none⟩) hn b6).setCell (p := ⟨n, 7, none⟩) hn b7)
theorem grown_put8 (w : World) (n : Nat) (b0 b1 b2 b3 b4 b5 b6 b7 : Value) : w.grownBy ((((((((w.setCell ⟨n, 0, none⟩ b0).setCell ⟨n, 1, none⟩ b1).setCell ⟨n, 2, none⟩ b2).setCell ⟨n, 3, none⟩ b3).setCell ⟨n, 4, none⟩ b4).setCell ⟨n, 5, none⟩ b5).setCell ⟨n, 6, none⟩ b6).setCell ⟨n, 7, none⟩ b7) (some n) := ((((((((grown_set (g := n) w 0 b0).trans (grown_set (g := n) _ 1 b1)).trans (grown_set (g := n) _ 2 b2)).trans (grown_set (g := n) _ 3 b3)).trans (grown_set (g := n) _ 4 b4)).trans (grown_set (g := n) _ 5 b5)).trans (grown_set (g := n) _ 6 b6)).trans (grown_set (g := n) _ 7 b7))
theorem exec_binK {P : Program} {o : Oper} {a : Act} {t t2 : TypeId} {op : BinOp} {vx vy r : Value} {W : World} (x y : Operand) (ho : o.op = .binOp op t x y t2) (hx : a.eval x = vx) (hy : a.eval y = vy) (hg : (eqGuard op t x y vx vy).run P W = .ok () W) (hrun : (binOp op t vx vy).run P W = .ok r W) :
    (execOp a.eval o).run P W = .ok (.value r) W := by
  unfold execOp
  simp only [ho, Sem.run_bind, Sem.run_pure, Result.andThen_ok, hx, hy, hg, hrun]
theorem exec_eql_ver {o : Oper} {a : Act} {t2 : TypeId} {u v : Ver} {r : Bool} {W : World} (x y : Operand) (ho : o.op = .binOp .eql 27 x y t2) (hx : a.eval x = verV u) (hy : a.eval y = verV v) (hrun : (binOp .eql 27 (verV u) (verV v)).run Try.prog W = .ok (.bool r) W) :
    (execOp a.eval o).run Try.prog W = .ok (.value (.bool r)) W := by
  refine exec_binK x y ho hx hy ?_ hrun
  unfold verV
  go_simp
theorem exec_eql_str {o : Oper} {a : Act} {t2 : TypeId} {u v : List UInt8} {r : Bool} {W : World} (x y : Operand) (ho : o.op = .binOp .eql 9 x y t2) (hx : a.eval x = .string ⟨u.toArray⟩) (hy : a.eval y = .string ⟨v.toArray⟩) (hr : decide (u = v) = r) :
    (execOp a.eval o).run Try.prog W = .ok (.value (.bool r)) W := by
  refine exec_binK x y ho hx hy ?_ ?_
  · go_simp
  · have h : (u == v) = r := by rw [← hr]; by_cases e : u = v <;> simp [e]
    go_simp
    try exact h
theorem exec_eql_bool {o : Oper} {a : Act} {t2 : TypeId} {r : Bool} {W : World} (x y : Operand) (ho : o.op = .binOp .eql 4 x y t2) (hx : a.eval x = .bool r) (hy : a.eval y = .bool r) :
    (execOp a.eval o).run Try.prog W = .ok (.value (.bool true)) W := by
  refine exec_binK x y ho hx hy ?_ ?_
  · go_simp
  · go_simp
end Go.Proofs.Ytmchiebpijnpiaa
