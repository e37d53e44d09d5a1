/- Layer 4: what stands at a time, and whether pieces are in order, by the document's answer. -/
import Derived.Test.YtoikhgldffgelaaSe
namespace Go.Proofs.Ytoikhgldffgelaa
open Go.RowKit
set_option linter.unusedVariables false

set_option maxHeartbeats 2000000 in
theorem ref_at (v : Value) (l : List Pc) (t : Int) (w : World) (h : RdPc w w.heap.size v l) :
    Calls Try.prog 30 #[v, .int .i64 t] w fun e w' => e = .returned (.tuple #[.string (atF l t).1, .bool (atF l t).2]) ∧ Below w.heap.size w w' := by
  have H := Lib.hid h
  obtain ⟨A, c, rfl, hlc, hc, -⟩ := h
  go_enter Try.func30, Try.ntmps30
  go_wp2_with fail
  go_loopw [6] (fun i wr => ∃ k : Nat, i = .int .i64 k ∧ k ≤ l.length ∧ atF l t = atF (l.drop k) t ∧ Below w.heap.size w wr) (fun i _ => l.length - (intOf i).toNat)
  case atStart => exact ⟨0, rfl, Nat.zero_le _, rfl, Below.refl _ _⟩
  case round =>
    obtain ⟨k, rfl, hk, ht, hb⟩ := hrel
    have G := Lib.hid hb
    clear hb
    by_cases hlt : k < l.length
    · obtain ⟨ba, oa, rfl, hba, c0, c1, c2⟩ := RdPc.here (H.out.below G.out) k hlt
      rw [List.drop_eq_getElem_cons hlt, atF_cons] at ht
      have hba2 : ba < wr.heap.size := by have := G.out.size; omega
      generalize l[k] = p at *
      obtain ⟨⟨p1, p2⟩, p3⟩ := p
      have HH := Lib.hid (ref_has (p1, p2) t wr)
      have T := Lib.hid ht
      unfold spV at HH
      clear ht
      go_wp2_with fail
      refine HH.out.mono ?_
      rintro e w1 ⟨rfl, hb1⟩
      have c2 := (hb1.cell (p := ⟨ba, oa + k * 3 + 2, none⟩) hba2).trans c2
      have G1 := Lib.hid (G.out.trans (hb1.mono G.out.size))
      clear c0 c1 hb1
      cases hh : hasB (p1, p2) t
      · have T2 := Lib.hid (show atF l t = atF (l.drop (k + 1)) t from by rw [T.out, if_neg (by simp [hh])])
        clear hh T
        go_wp2_with fail
        go_roundw
        case rel => exact ⟨k + 1, by go_num, by omega, T2.out, G1.out⟩
        case measure => simp [intOf]; omega
      · have T2 := Lib.hid (show atF l t = (p3, true) from by rw [T.out, if_pos (by simp [hh])])
        clear hh T
        go_wp2_with fail
        go_ret2
        rw [T2.out]
        exact ⟨rfl, G1.out⟩
    · have T := Lib.hid (show atF l t = (⟨#[]⟩, false) from by rw [ht, List.drop_eq_nil_iff.2 (by omega)]; rfl)
      clear ht
      go_wp2_with fail
      go_ret2
      rw [T.out]
      exact ⟨rfl, G.out⟩

theorem ord_cons2 (p q : Pc) (r : List Pc) : ordB (p :: q :: r) = (mayB p.1 && decide (p.1.2 ≤ q.1.1) && ordB (q :: r)) := rfl
theorem ord_may (p : Pc) (r : List Pc) (h : mayB p.1 = false) : ordB (p :: r) = false := by
  cases r with
  | nil => simp [ordB, h]
  | cons q r => rw [ord_cons2, h]; rfl

set_option maxHeartbeats 2000000 in
theorem ref_ordered (v : Value) (l : List Pc) (w : World) (h : RdPc w w.heap.size v l) :
    Calls Try.prog 31 #[v] w fun e w' => e = .returned (.bool (ordB l)) ∧ Below w.heap.size w w' := by
  have H := Lib.hid h
  obtain ⟨A, c, rfl, hlc, hc, -⟩ := h
  go_enter Try.func31, Try.ntmps31
  go_wp2_with fail
  go_loopw [3] (fun i wr => ∃ k : Nat, i = .int .i64 k ∧ k ≤ l.length ∧ (k = 0 ∨ ∃ j, k = j + 1 ∧ ∃ hj : j < l.length, mayB l[j].1 = true ∧ ordB l = ordB (l.drop j)) ∧ Below w.heap.size w wr) (fun i _ => l.length - (intOf i).toNat)
  case atStart => exact ⟨0, rfl, Nat.zero_le _, .inl rfl, Below.refl _ _⟩
  case round =>
    obtain ⟨k, rfl, hk, ht, hb⟩ := hrel
    have G := Lib.hid hb
    clear hb
    by_cases hlt : k < l.length
    · obtain ⟨ba, oa, rfl, hba, c0, c1, c2⟩ := RdPc.here (H.out.below G.out) k hlt
      have hba2 : ba < wr.heap.size := by have := G.out.size; omega
      have hdk := Lib.hid (List.drop_eq_getElem_cons hlt)
      have HLT := Lib.hid (show ∀ p, p = l[k] → mayB p.1 = true → ordB l = ordB (l.drop k) → (k + 1 = 0 ∨ ∃ j, k + 1 = j + 1 ∧ ∃ hj : j < l.length, mayB l[j].1 = true ∧ ordB l = ordB (l.drop j)) from fun p e h1 h2 => .inr ⟨k, rfl, hlt, by rw [← e]; exact h1, h2⟩)
      obtain ⟨p, hp⟩ : ∃ p, p = l[k] := ⟨_, rfl⟩
      rw [← hp] at c0 c1 hdk
      have P0 := Lib.hid hp
      clear hp c2
      rcases ht with rfl | ⟨j, rfl, hj, hm, ht⟩
      · rw [Nat.zero_mul, Nat.add_zero] at c0 c1
        have T := Lib.hid (show ordB l = ordB (p :: l.drop 1) from by have := hdk.out; simp only [List.drop_zero] at this; rw [← this])
        obtain ⟨⟨p1, p2⟩, p3⟩ := p
        have HH := Lib.hid (ref_may (p1, p2) wr)
        unfold spV at HH
        go_wp2_with fail
        refine HH.out.mono ?_
        rintro e w1 ⟨rfl, hb1⟩
        have G1 := Lib.hid (G.out.trans (hb1.mono G.out.size))
        clear c0 c1 hb1 hdk
        cases hh : mayB (p1, p2)
        · have T2 := Lib.hid (show ordB l = false from by rw [T.out]; exact ord_may _ _ hh)
          clear hh T HLT
          go_wp2_with fail
          go_quiet (fail)
          go_wp2_with fail
          go_ret
          exact ⟨ret_bool T2.out.symm, G1.out.drewN _⟩
        · have T2 := Lib.hid (HLT.out _ P0.out hh (by simp))
          clear hh T HLT
          go_wp2_with fail
          go_quiet (fail)
          go_wp2_with fail
          go_roundw
          case rel => exact ⟨1, by go_num, by omega, T2.out, G1.out.drewN _⟩
          case measure => simp [intOf]; omega
      · obtain ⟨ba', oa', e1, -, -, c4, -⟩ := RdPc.here (H.out.below G.out) j hj
        cases e1
        have hdj := List.drop_eq_getElem_cons hj
        generalize l[j] = q at *
        have HQ := Lib.hid hm
        have T := Lib.hid (show ordB l = (decide (q.1.2 ≤ p.1.1) && ordB (l.drop (j + 1))) from by rw [ht, hdj, hdk.out, ord_cons2, hm]; rfl)
        have T1 := Lib.hid (show mayB p.1 = false → ordB l = false from fun h => by rw [T.out, hdk.out, ord_may _ _ h]; simp)
        clear hdj hm ht
        obtain ⟨⟨p1, p2⟩, p3⟩ := p
        obtain ⟨⟨q1, q2⟩, q3⟩ := q
        have HH := Lib.hid (ref_may (p1, p2) wr)
        unfold spV at HH
        go_wp2_with fail
        refine HH.out.mono ?_
        rintro e w1 ⟨rfl, hb1⟩
        have c0 := (hb1.cell (p := ⟨ba, oa + (j + 1) * 3, none⟩) hba2).trans c0
        have c4 := (hb1.cell (p := ⟨ba, oa + j * 3 + 1, none⟩) hba2).trans c4
        have G1 := Lib.hid (G.out.trans (hb1.mono G.out.size))
        clear c1 hb1 hdk
        cases hh : mayB (p1, p2)
        · have T2 := Lib.hid (T1.out hh)
          clear hh T T1 HLT
          go_wp2_with fail
          go_quiet (fail)
          go_wp2_with fail
          go_ret
          exact ⟨ret_bool T2.out.symm, G1.out.drewN _⟩
        · by_cases hle : q2 ≤ p1
          · have T2 := Lib.hid (HLT.out _ P0.out hh (by rw [T.out]; simp [hle]))
            have hd : decide ((p1 : Int) < q2) = false := by simp; omega
            clear hh T T1 HLT
            go_wp2_with fail
            go_quiet (fail)
            go_wp2_with fail
            go_roundw
            case rel => exact ⟨j + 1 + 1, by go_num, by omega, T2.out, G1.out.drewN _⟩
            case measure => simp [intOf]; omega
          · have T2 := Lib.hid (show ordB l = false from by rw [T.out]; simp [hle])
            have hd : decide ((p1 : Int) < q2) = true := by simp; omega
            clear hh T T1 HLT
            go_wp2_with fail
            go_quiet (fail)
            go_wp2_with fail
            go_ret
            exact ⟨ret_bool T2.out.symm, G1.out.drewN _⟩
    · have T := Lib.hid (show ordB l = true from by
        rcases ht with rfl | ⟨j, rfl, hj, hm, ht⟩
        · have : l = [] := List.eq_nil_of_length_eq_zero (by omega)
          subst this; rfl
        · rw [ht, List.drop_eq_getElem_cons hj, List.drop_eq_nil_iff.2 (by omega)]; exact hm)
      clear ht
      go_wp2_with fail
      go_ret
      exact ⟨ret_bool T.out.symm, G.out⟩
end Go.Proofs.Ytoikhgldffgelaa
