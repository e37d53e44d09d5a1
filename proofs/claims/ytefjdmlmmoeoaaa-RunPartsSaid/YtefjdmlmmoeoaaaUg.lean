/- Layer 8: a block read, by the project. -/
import Derived.Test.YtefjdmlmmoeoaaaUd
import Derived.Test.YtefjdmlmmoeoaaaUf
namespace Go.Proofs.Ytefjdmlmmoeoaaa
open Go.RowKit
set_option linter.unusedVariables false

set_option maxRecDepth 100000 in
theorem bytes_equal (v u : Value) (l m : List UInt8) (w : World) (h : RdB w w.heap.size v l) (k : RdB w w.heap.size u m) (hl : l.length ≤ 9223372036854775807) (hm : m.length ≤ 9223372036854775807) :
    Calls Try.prog 34 #[v, u] w fun e w' => e = .returned (.bool (decide (l = m))) ∧ w' = w := by
  have h1 := RdB.str h
  have h2 := RdB.str k
  obtain ⟨A, c, rfl, -⟩ := h
  obtain ⟨A', c', rfl, -⟩ := k
  go_enter Try.func34, Try.ntmps34
  go_wp2_with fail
  go_ret
  refine ⟨?_, rfl⟩
  exact congrArg (fun b => Ending.returned (.bool b)) (by rw [Bool.eq_iff_iff]; simp)

set_option maxHeartbeats 1000000 in
set_option maxRecDepth 100000 in
theorem blk_read (v : Value) (b : List UInt8) (w : World) (h : RdB w w.heap.size v b) (hl : b.length ≤ 100000) :
    Calls Try.prog 59 #[v] w fun e w' => ∃ v', e = .returned (.tuple #[v', .int .i64 (blkRd b).2]) ∧ OwnVr w' w.heap.size v' (blkRd b).1 ∧ Below w.heap.size w w' := by
  rw [← blkPr_eq]
  have VRD := Lib.hid (fun w h => vary_read v b w h (by omega))
  have ROWS := Lib.hid (fun w base g p h => blk_rows w base g p b h hl)
  have hE := Lib.hid (show blkE b ≠ 0 → blkPr b = ([], blkE b) from fun h => if_pos h)
  have hG := Lib.hid (show blkE b = 0 → blkB ((blkO b).take 8) = true → encBlk ((blkO b).take 8) = b → blkPr b = ((blkO b).take 8, 0) from fun h h1 h2 => by unfold blkPr; rw [if_neg (fun k => k h), if_pos ⟨h1, h2⟩])
  have hB := Lib.hid (show blkE b = 0 → ¬ (blkB ((blkO b).take 8) = true ∧ encBlk ((blkO b).take 8) = b) → blkPr b = ([], 2) from fun h h1 => by unfold blkPr; rw [if_neg (fun k => k h), if_neg h1])
  have WR := Lib.hid (fun va w ha => blk_write va ((blkO b).take 8) w ha (fun x hx => by
    have h1 := bOut_key (stepN b 0).2 (stepN b 0).1 x (List.mem_of_mem_take hx)
    have h2 := (step_suf b 0).length_le
    omega))
  have ENC := Lib.hid (fun h : blkB ((blkO b).take 8) = true => (show (encBlk ((blkO b).take 8)).length ≤ 100000 from by
    obtain ⟨h1, h2, h3⟩ := blkB_len h
    have h4 := encGo_len ((blkO b).take 8) ⟨#[]⟩ (blk_may h3)
    have h5 := encN_nine ((blkO b).take 8).length (by omega)
    unfold encBlk; rw [List.length_append]; omega))
  have R0 := Lib.hid h
  clear h
  generalize blkPr b = res at *
  generalize blkE b = E at *
  generalize (blkO b).take 8 = L at *
  generalize blkB L = mb at *
  go_enter Try.func59, Try.ntmps59
  go_wp2_with fail
  refine (VRD.out _ R0.out).mono ?_
  rintro z w1 ⟨p, g, rfl, hd, hb⟩
  have hgf := hd.from'
  have D := Lib.hid hd
  have G := Lib.hid hb
  clear hd hb
  go_wp2_with fail
  refine (ROWS.out _ _ _ _ D.out).mono ?_
  rintro z w2 ⟨vl, rfl, ho, ⟨q, hd⟩, hg⟩
  have hw1 := G.out.size
  have G := Lib.hid (G.out.grown hg G.out.size (by intro k hk; injection hk with hk; omega))
  have R := Lib.hid ((R0.out.below G.out).more G.out.size)
  have EX := Lib.hid (err_any w2 w.heap.size g p q E hd)
  clear hd hg D
  by_cases he : E = 0
  · subst he
    rw [if_neg (by simp)] at ho
    have OL := Lib.hid ho
    obtain ⟨AL, cL, eL, -⟩ := ho.rd
    subst eL
    clear ho
    go_wp2_with fail
    refine EX.out.mono ?_
    rintro z _ ⟨rfl, rfl⟩
    go_wp2_with fail
    refine (WR.out _ _ OL.out.rd).mono ?_
    rintro z w3 ⟨v3, rfl, ho3, hb3⟩
    have OL := Lib.hid (OwnX.mono (OL.out.on hb3) hw1)
    have G := Lib.hid (G.out.trans (hb3.mono G.out.size))
    have R := Lib.hid (R.out.on hb3)
    cases mb
    · have hr := Lib.hid (hB.out (by trivial) (by simp))
      go_wp2_with fail
      go_ret2
      exact ⟨.slice none 0 0, by rw [hr.out]; rfl, by rw [hr.out]; exact OwnX.nil _ _, G.out⟩
    · rw [if_pos rfl] at ho3
      have hle := ENC.out rfl
      have BE := Lib.hid (bytes_equal v3 v (encBlk L) b w3 ho3.rd R.out (by omega) (by omega))
      clear ho3 hb3
      by_cases hq : encBlk L = b
      · rw [decide_eq_true hq] at BE
        have hr := Lib.hid (hG.out (by trivial) (by trivial) hq)
        clear hq
        go_wp2_with fail
        refine BE.out.mono ?_
        rintro z _ ⟨rfl, rfl⟩
        go_wp2_with fail
        go_ret2
        exact ⟨_, by rw [hr.out]; rfl, by rw [hr.out]; exact OL.out, G.out⟩
      · rw [decide_eq_false hq] at BE
        have hr := Lib.hid (hB.out (by trivial) (fun h => hq h.2))
        clear hq
        go_wp2_with fail
        refine BE.out.mono ?_
        rintro z _ ⟨rfl, rfl⟩
        go_wp2_with fail
        go_ret2
        exact ⟨.slice none 0 0, by rw [hr.out]; rfl, by rw [hr.out]; exact OwnX.nil _ _, G.out⟩
  · have hne : (E != 0) = true := by simpa [bne] using he
    have hr := Lib.hid (hE.out he)
    go_wp2_with fail
    refine EX.out.mono ?_
    rintro z _ ⟨rfl, rfl⟩
    go_wp2_with fail
    refine EX.out.mono ?_
    rintro z _ ⟨rfl, rfl⟩
    go_wp2_with fail
    go_ret2
    exact ⟨.slice none 0 0, by rw [hr.out]; rfl, by rw [hr.out]; exact OwnX.nil _ _, G.out⟩
end Go.Proofs.Ytefjdmlmmoeoaaa
