/- Layer 4: the document's example (lives). -/
import Derived.Test.YtoikhgldffgelaaPd
import Derived.Test.YtoikhgldffgelaaPi
import Derived.Test.YtoikhgldffgelaaPj
import Derived.Test.YtoikhgldffgelaaPh
import Derived.Test.YtoikhgldffgelaaPe
namespace Go.Proofs.Ytoikhgldffgelaa
open Go.RowKit
set_option linter.unusedVariables false

set_option maxHeartbeats 2000000 in
theorem lives_any (w : World) : Calls Try.prog 19 #[] w fun e w' => e = .returned (.bool true) ∧ Below w.heap.size w w' := by
  have HM := Lib.hid (p_minus (0, 9) (3, 5))
  have HH := Lib.hid (p_has (2, 4) 2)
  have hm : minusF (0, 9) (3, 5) = [(0, 3), (5, 9)] := by decide
  have hh : hasB (2, 4) 2 = true := by decide
  rw [hm] at HM
  rw [hh] at HH
  unfold spV at HM HH
  clear hm hh
  have e1 := fun W => sp_eql W (0, 3) (0, 3)
  have e2 := fun W => sp_eql W (5, 9) (5, 9)
  unfold spV at e1 e2
  go_enter Try.func19, Try.ntmps19
  go_wp2_with fail
  refine (HM.out _).mono ?_
  rintro e w1 ⟨v1, rfl, ho1, hb1⟩
  obtain ⟨g, c, rfl, hg1, hg2⟩ := ho1.pos (by simp)
  have c0 : w1.cell? ⟨g, 0, none⟩ = some (.int .i64 0) := ho1.cell 0 (by simp) 0 _ rfl
  have c1 : w1.cell? ⟨g, 1, none⟩ = some (.int .i64 3) := ho1.cell 0 (by simp) 1 _ rfl
  have c2 : w1.cell? ⟨g, 2, none⟩ = some (.int .i64 5) := ho1.cell 1 (by simp) 0 _ rfl
  have c3 : w1.cell? ⟨g, 3, none⟩ = some (.int .i64 9) := ho1.cell 1 (by simp) 1 _ rfl
  have G := Lib.hid hb1
  have hlen : ([(0, 3), (5, 9)] : List Sp).length = 2 := rfl
  clear hb1 ho1
  go_wp2_with fail
  refine (HH.out _).mono ?_
  rintro e w2 ⟨rfl, hb2⟩
  have G := Lib.hid (G.out.trans (hb2.mono G.out.size))
  clear hb2
  go_wp2_with fail
  go_ret
  exact ⟨rfl, G.out⟩
theorem same_self (va vb : Value) (l : List Pc) (w : World) (ha : RdPc w w.heap.size va l) (hb : RdPc w w.heap.size vb l) :
    Calls Try.prog 22 #[va, vb] w fun e w' => e = .returned (.bool true) ∧ Below w.heap.size w w' := by
  refine (ref_same va vb l l w ha hb).mono ?_
  rintro e w' ⟨h1, h2⟩
  exact ⟨by rw [h1]; simp, h2⟩
end Go.Proofs.Ytoikhgldffgelaa
