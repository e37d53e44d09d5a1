/- Layer 12: the document's example. -/
import Derived.Test.YtlihiojdjcmggaaSk
namespace Go.Proofs.Ytlihiojdjcmggaa
open Go.RowKit
set_option linter.unusedVariables false

abbrev bK : ByteArray := ⟨#[98]⟩
abbrev aK : ByteArray := ⟨#[97]⟩
theorem geK_lits : geK bK aK = true ∧ geK aK bK = false ∧ geK bK bK = true := by
  unfold geK; simp only [ByteArray.toList_eq]; decide
theorem eqK_lits : (bK.toList == aK.toList) = false ∧ (bK.toList == bK.toList) = true := by
  simp only [ByteArray.toList_eq]; decide
theorem put_one : putI [] bK 1 5 = ([⟨bK, 1, 5⟩], true) := rfl
theorem put_two : putI [⟨bK, 1, 5⟩] aK 3 6 = ([⟨aK, 3, 6⟩, ⟨bK, 1, 5⟩], true) := by
  have h : atI aK [⟨bK, 1, 5⟩] = 0 := by simp only [atI, geK_lits.1]; rfl
  have h2 : hereI [⟨bK, 1, 5⟩] aK = false := by rw [here_at h (by decide)]; exact eqK_lits.1
  unfold putI
  rw [h2, h]
  rfl
theorem get_two : getI [⟨aK, 3, 6⟩, ⟨bK, 1, 5⟩] bK = 5 ∧ hereI [⟨aK, 3, 6⟩, ⟨bK, 1, 5⟩] bK = true := by
  have h : atI bK [⟨aK, 3, 6⟩, ⟨bK, 1, 5⟩] = 1 := by simp only [atI, geK_lits.2.1, geK_lits.2.2]; rfl
  have h2 : hereI [⟨aK, 3, 6⟩, ⟨bK, 1, 5⟩] bK = true := by rw [here_at h (by decide)]; exact eqK_lits.2
  refine ⟨?_, h2⟩
  rw [getI, if_pos h2, h]
  rfl
theorem row_two : rowI [⟨aK, 3, 6⟩, ⟨bK, 1, 5⟩] 2 = [aK] ∧ rowI [⟨aK, 3, 6⟩, ⟨bK, 1, 5⟩] 1 = [aK, bK] := ⟨rfl, rfl⟩
set_option maxHeartbeats 4000000 in
set_option maxRecDepth 100000 in
theorem law12_lives {Sk : Nat → World → Nat → Value → List It → Prop} {P : Obj → Bool} (K : SkK Sk P) (w : World) :
    Calls Try.prog 12 #[] w fun z w' => z = .returned (.bool true) ∧ Below w.heap.size w w' := by
  have K := Lib.hid K
  have BS : bK.size ≤ 1000 := by decide
  have AS : aK.size ≤ 1000 := by decide
  have hIn : ∀ n : Int, 0 ≤ n → n ≤ 100 → inK n := fun n h1 h2 => ⟨by omega, by omega⟩
  go_enter Try.func12, Try.ntmps12
  have P1 := Lib.hid (fun w1 gp h hb => K.out.ops.put (n := 0) w1 w.heap.size (.pointer (some ⟨gp, 0, none⟩)) [] bK 1 5 h hb (by decide) (by simp) BS (hIn 1 (by decide) (by decide)) (hIn 5 (by decide) (by decide)))
  have P2 := Lib.hid (fun w1 gp h hb => K.out.ops.put (n := 1) w1 w.heap.size (.pointer (some ⟨gp, 0, none⟩)) [⟨bK, 1, 5⟩] aK 3 6 h hb (by decide) (by simp) AS (hIn 3 (by decide) (by decide)) (hIn 6 (by decide) (by decide)))
  rw [put_one] at P1
  rw [put_two] at P2
  have HG := Lib.hid (fun w1 gp h hb => K.out.ops.get (n := 2) w1 w.heap.size (.pointer (some ⟨gp, 0, none⟩)) [⟨aK, 3, 6⟩, ⟨bK, 1, 5⟩] bK h hb (by simp) BS)
  rw [get_two.1, get_two.2] at HG
  have R2 := Lib.hid (fun w1 gp h hb => K.out.ops.row (n := 2) w1 w.heap.size (.pointer (some ⟨gp, 0, none⟩)) [⟨aK, 3, 6⟩, ⟨bK, 1, 5⟩] 2 h hb (by simp) (hIn 2 (by decide) (by decide)))
  have R1 := Lib.hid (fun w1 gp h hb => K.out.ops.row (n := 2) w1 w.heap.size (.pointer (some ⟨gp, 0, none⟩)) [⟨aK, 3, 6⟩, ⟨bK, 1, 5⟩] 1 h hb (by simp) (hIn 1 (by decide) (by decide)))
  rw [row_two.1] at R2
  rw [row_two.2] at R1
  have HH := Lib.hid (fun w1 gp h hb => K.out.ops.height (n := 2) w1 w.heap.size (.pointer (some ⟨gp, 0, none⟩)) [⟨aK, 3, 6⟩, ⟨bK, 1, 5⟩] h hb (by simp))
  rw [show heightI [⟨aK, 3, 6⟩, ⟨bK, 1, 5⟩] = 3 from rfl] at HH
  clear hIn BS AS
  go_wp2_with fail
  refine (K.out.new _).mono ?_
  rintro z w1 ⟨p, rfl, hs1, hb1⟩
  obtain ⟨gp, ep⟩ := K.out.ops.ptr hs1
  subst ep
  have S1 := Lib.hid hs1
  have G1 := Lib.hid hb1
  clear hs1 hb1
  go_wp2_with fail
  refine (P1.out _ _ S1.out G1.out.size).mono ?_
  rintro z w2 ⟨rfl, hs2, hk2⟩
  have S2 := Lib.hid hs2
  have G2 := Lib.hid (G1.out.trans hk2.below)
  clear hs2 hk2
  go_wp2_with fail
  refine (P2.out _ _ S2.out G2.out.size).mono ?_
  rintro z w3 ⟨rfl, hs3, hk3⟩
  have S3 := Lib.hid hs3
  have G3 := Lib.hid (G2.out.trans hk3.below)
  clear hs3 hk3
  go_wp2_with fail
  refine (R2.out _ _ S3.out G3.out.size).mono ?_
  rintro z w4 ⟨v4, rfl, ho4, hb4⟩
  have S4 := Lib.hid (K.out.ops.on S3.out hb4)
  have G4 := Lib.hid (G3.out.trans (hb4.mono G3.out.size))
  obtain ⟨g4, c4, rfl, -⟩ := ho4.pos (by simp)
  have O4 := Lib.hid ho4
  clear ho4 hb4
  go_wp2_with fail
  refine (HG.out _ _ S4.out G4.out.size).mono ?_
  rintro z w5 ⟨rfl, hb5⟩
  have S5 := Lib.hid (K.out.ops.on S4.out hb5)
  have G5 := Lib.hid (G4.out.trans (hb5.mono G4.out.size))
  have O5 := Lib.hid (O4.out.on hb5)
  clear hb5
  go_wp2_with fail
  refine (R1.out _ _ S5.out G5.out.size).mono ?_
  rintro z w6 ⟨v6, rfl, ho6, hb6⟩
  have S6 := Lib.hid (K.out.ops.on S5.out hb6)
  have G6 := Lib.hid (G5.out.trans (hb6.mono G5.out.size))
  obtain ⟨g6, c6, rfl, -⟩ := ho6.pos (by simp)
  have O6 := Lib.hid (O5.out.on hb6)
  clear ho6 hb6
  obtain ⟨_, _, e6, -, m6⟩ := RdX.strE O6.out.rd 0 (by simp) rfl
  cases e6
  simp only [Nat.add_zero, List.getElem_cons_zero] at m6
  go_wp2_with fail
  refine (HH.out _ _ S6.out G6.out.size).mono ?_
  rintro z w7 ⟨rfl, hb7⟩
  have G7 := Lib.hid (G6.out.trans (hb7.mono G6.out.size))
  clear hb7
  go_wp2_with fail
  go_ret
  exact ⟨rfl, G7.out⟩
end Go.Proofs.Ytlihiojdjcmggaa
