/- Layer 4, plain facts: spans, pieces, and what the document tells of them. -/
import Derived.Test.YtefjdmlmmoeoaaaGreatRows
import Derived.Test.YtefjdmlmmoeoaaaGreatBA
import Derived.Test.YtefjdmlmmoeoaaaGreatVV
import Derived.Test.YtefjdmlmmoeoaaaGreatOB
import Derived.Test.YtefjdmlmmoeoaaaGreatBE
import Derived.Test.YtefjdmlmmoeoaaaGreatOA
import Derived.WalkKit
import Derived.Laws.StructEq
import Derived.Deep.Slices
import Derived.Deep.Fields
import Derived.Deep.Strs
import Derived.ChangeSame
import Derived.ChangeArms
import Derived.Lib.SmallJoins
namespace Go.Proofs.YtefjdmlmmoeoaaaGreat
open Go.RowKit
set_option linter.unusedVariables false

abbrev Sp := Int × Int
def mayB (s : Sp) : Bool := decide (0 ≤ s.1 ∧ s.1 < s.2 ∧ s.2 ≤ 1099511627776)
theorem mayB_iff {s : Sp} : mayB s = true ↔ 0 ≤ s.1 ∧ s.1 < s.2 ∧ s.2 ≤ 1099511627776 := by simp [mayB]

end Go.Proofs.YtefjdmlmmoeoaaaGreat
/- Layer 6: spans that may be, by the document and by the project (out of s05/XEa). -/
namespace Go.Proofs.YtefjdmlmmoeoaaaGreat
open Go.RowKit
set_option linter.unusedVariables false

def spV (s : Sp) : Value := .agg #[.int .i64 s.1, .int .i64 s.2]

set_option maxHeartbeats 400000 in
theorem ref_may (s : Sp) (w : World) :
    Calls Tryz.prog 62 #[spV s] w fun e w' => e = .returned (.bool (mayB s)) ∧ Below w.heap.size w w' := by
  obtain ⟨a, b⟩ := s
  unfold spV
  go_enter Tryz.func62, Tryz.ntmps62
  go_wp2
  all_goals go_ret
  all_goals exact ⟨ret_bool (by simp [mayB, *] <;> omega), alloc_below w _⟩

set_option maxHeartbeats 400000 in
theorem p_may (s : Sp) (w : World) :
    Calls Tryz.prog 97 #[spV s] w fun e w' => e = .returned (.bool (mayB s)) ∧ Below w.heap.size w w' := by
  obtain ⟨a, b⟩ := s
  unfold spV
  go_enter Tryz.func97, Tryz.ntmps97
  go_wp2
  all_goals go_ret
  all_goals exact ⟨ret_bool (by simp [mayB, *] <;> omega), alloc_below w _⟩

end Go.Proofs.YtefjdmlmmoeoaaaGreat
/- Layer 6: the document's reader of chapter 2, whose index is anywhere, with an error or without: a number, what is left. Written by gen_ra.py. -/
namespace Go.Proofs.YtefjdmlmmoeoaaaGreat
open Go.RowKit
set_option linter.unusedVariables false

theorem grown_of_below {w w' : World} {row : Option Nat} (h : Below w.heap.size w w') : w.grownBy w' row := ⟨h.os, h.tape, h.output, h.size, fun i hi _ => h.block i hi⟩
/-- p is the document's reader, in block g, of the bytes m, at q, with the error e. -/
structure RdQ (w : World) (g : Nat) (p : Value) (m : List UInt8) (q : Nat) (e : Int) : Prop where
  ptr : p = .pointer (some ⟨g, 0, none⟩)
  lt : g < w.heap.size
  at' : w.cell? ⟨g, 1, none⟩ = some (.int .i64 q)
  err : w.cell? ⟨g, 2, none⟩ = some (.int .i64 e)
  frz1 : w.frozen? ⟨g, 1, none⟩ = false
  frz2 : w.frozen? ⟨g, 2, none⟩ = false
  le : q ≤ m.length
  left : ∃ sl, w.cell? ⟨g, 0, none⟩ = some sl ∧ RdB w g sl m

theorem RdQ.on {w w' : World} {g q : Nat} {p : Value} {m : List UInt8} {e : Int} (h : RdQ w g p m q e) (hb : Below w.heap.size w w') : RdQ w' g p m q e := by
  obtain ⟨h1, h2, h3, h4, h5, h6, hq, sl, h7, h8⟩ := h
  exact ⟨h1, Nat.lt_of_lt_of_le h2 hb.size, (hb.cell (p := ⟨g, 1, none⟩) h2).trans h3, (hb.cell (p := ⟨g, 2, none⟩) h2).trans h4, (hb.frozen (p := ⟨g, 1, none⟩) h2).trans h5, (hb.frozen (p := ⟨g, 2, none⟩) h2).trans h6, hq, sl, (hb.cell (p := ⟨g, 0, none⟩) h2).trans h7, h8.below (hb.mono (Nat.le_of_lt h2))⟩
theorem RdQ.set_at {w : World} {g q : Nat} {p : Value} {m : List UInt8} {e : Int} (h : RdQ w g p m q e) (n : Nat) (v : Int) (hv : v = n) (hn : n ≤ m.length) : RdQ (w.setCell ⟨g, 1, none⟩ (.int .i64 v)) g p m n e := by
  subst hv
  obtain ⟨h1, h2, h3, h4, h5, h6, hq, sl, h7, h8⟩ := h
  exact ⟨h1, by simpa using h2, World.cell?_setCell_same _ _ _ h3, (World.cell?_setCell_other _ _ _ _ (by simp)).trans h4, by simpa using h5, by simpa using h6, hn, sl, (World.cell?_setCell_other _ _ _ _ (by simp)).trans h7, h8.below (below_set w 1 _)⟩
theorem RdQ.set_err {w : World} {g q : Nat} {p : Value} {m : List UInt8} {e : Int} (h : RdQ w g p m q e) (e' : Int) : RdQ (w.setCell ⟨g, 2, none⟩ (.int .i64 e')) g p m q e' := by
  obtain ⟨h1, h2, h3, h4, h5, h6, hq, sl, h7, h8⟩ := h
  exact ⟨h1, by simpa using h2, (World.cell?_setCell_other _ _ _ _ (by simp)).trans h3, World.cell?_setCell_same _ _ _ h4, by simpa using h5, by simpa using h6, hq, sl, (World.cell?_setCell_other _ _ _ _ (by simp)).trans h7, h8.below (below_set w 2 _)⟩

set_option maxHeartbeats 400000 in
theorem fail_doc2 (w : World) (g : Nat) (p : Value) (m : List UInt8) (q : Nat) (e : Int) (h : RdQ w g p m q 0) :
    Calls Tryz.prog 60 #[p, .int .i64 e] w fun x w' => x = .returned (.tuple #[]) ∧ RdQ w' g p m q e ∧ w.grownBy w' (some g) := by
  have H := Lib.hid h
  obtain ⟨rfl, h2, h3, h4, h5, h6, hq, sl, h7, h8⟩ := h
  clear h8
  go_enter Tryz.func60, Tryz.ntmps60
  go_wp2
  go_end0
  exact ⟨rfl, H.out.set_err e, grown_set w 2 _⟩

/-- What Number tells at q, where it is then, and its error. -/
def stepQ (m : List UInt8) (q : Nat) (e : Int) : Nat × Nat × Int := if e ≠ 0 then (0, q, e) else if (rdN (m.drop q)).2.2 ≠ 0 then (0, q, (rdN (m.drop q)).2.2) else ((rdN (m.drop q)).1, q + (rdN (m.drop q)).2.1, 0)
theorem stepQ_bad {m : List UInt8} {q : Nat} {c : Int} (h : rdN (m.drop q) = (0, 0, c)) (hc : c ≠ 0) : stepQ m q 0 = (0, q, c) := by
  unfold stepQ; rw [if_neg (by simp), h, if_pos hc]
theorem stepQ_good {m : List UInt8} {q N k : Nat} (h : rdN (m.drop q) = (N, k, 0)) : stepQ m q 0 = (N, q + k, 0) := by
  unfold stepQ; rw [if_neg (by simp), h, if_neg (by simp)]
theorem stepQ_err {m : List UInt8} {q : Nat} {e : Int} (h : e ≠ 0) : stepQ m q e = (0, q, e) := if_pos h

theorem val_step (l : List UInt8) (k j : Nat) (hj : j ≤ k) (hjl : j < l.length) : valN ((l.take (k + 1)).drop j) = l[j].toNat % 128 + 128 * valN ((l.take (k + 1)).drop (j + 1)) := by
  have h : j < (l.take (k + 1)).length := by rw [List.length_take]; omega
  rw [List.drop_eq_getElem_cons h, valN, List.getElem_take]
theorem val_bound (l : List UInt8) (k j : Nat) (hj : j ≤ k) (hk : k ≤ 8) : valN ((l.take (k + 1)).drop (j + 1)) < 72057594037927936 := by
  have h1 := valN_lt ((l.take (k + 1)).drop (j + 1))
  have h2 : ((l.take (k + 1)).drop (j + 1)).length ≤ 8 := by rw [List.length_drop, List.length_take]; omega
  have h3 := Nat.pow_le_pow_right (show 0 < 128 from by omega) h2
  exact Nat.lt_of_lt_of_le h1 (by simpa using h3)

set_option maxHeartbeats 4000000 in
set_option maxRecDepth 1000000 in
theorem number_doc0 (w : World) (g : Nat) (p : Value) (m : List UInt8) (q : Nat) (h : RdQ w g p m q 0) (hl : m.length ≤ 1000000) :
    Calls Tryz.prog 30 #[p] w fun x w' => x = .returned (.int .i64 (stepQ m q 0).1) ∧ RdQ w' g p m (stepQ m q 0).2.1 (stepQ m q 0).2.2 ∧ w.grownBy w' (some g) := by
  have H := Lib.hid h
  obtain ⟨rfl, h2, h3, h4, h5, h6, hq, sl, h7, h8⟩ := h
  clear h8
  obtain ⟨l, hl0⟩ : ∃ l, l = m.drop q := ⟨_, rfl⟩
  have hL : q + l.length = m.length := by rw [hl0, List.length_drop]; omega
  have hget : ∀ k (h : k < l.length), m[q + k]? = some l[k] := fun k h => by
    subst hl0
    rw [List.getElem_drop, List.getElem?_eq_getElem]
  have BADQ := Lib.hid (fun (c : Int) (h : rdN l = (0, 0, c)) (hc : c ≠ 0) => stepQ_bad (m := m) (q := q) (by rw [← hl0]; exact h) hc)
  have GOODQ := Lib.hid (fun (N k : Nat) (h : rdN l = (N, k, 0)) => stepQ_good (m := m) (q := q) (by rw [← hl0]; exact h))
  clear hl0
  go_enter Tryz.func30, Tryz.ntmps30
  go_wp2
  go_loopw [3] (fun i wr => ∃ k : Nat, i = .int .i64 k ∧ k ≤ 9 ∧ k ≤ l.length ∧ (∀ x ∈ l.take k, 128 ≤ x.toNat) ∧ Below w.heap.size w wr) (fun i _ => 9 - (intOf i).toNat)
  case atStart => exact ⟨0, rfl, by omega, by omega, by simp, Below.refl _ _⟩
  case round =>
    obtain ⟨k, rfl, hk9, hk, hall, hbw⟩ := hrel
    have D := H.out.on hbw
    have HALL := Lib.hid hall
    have G := Lib.hid hbw
    have HD := Lib.hid D
    obtain ⟨-, d2, d3, d4, d5, d6, -, sl', d7, d8⟩ := D
    have hsl : sl' = sl := by
      have := hbw.cell (p := ⟨g, 0, none⟩) h2
      rw [d7, h7] at this; injection this
    subst hsl
    clear h3 h4 h5 h6 h7 hall hbw
    have hd8 := d8
    have HD8 := Lib.hid d8
    obtain ⟨A, c, rfl, -, -, hcell⟩ := d8
    by_cases hlt : k < l.length
    · obtain ⟨b, o, rfl, hb, hcell2⟩ := hcell (by omega)
      have c1 : wr.cell? ⟨b, o + (q + k), none⟩ = some (.int .u8 (l[k].toNat : Int)) := hcell2 (q + k) l[k] (hget k hlt)
      have hsn : l.take (k + 1) = l.take k ++ [l[k]] := List.take_succ_eq_append_getElem hlt
      clear hcell hcell2 hd8
      have HLE := Lib.hid (show q + (k + 1) ≤ m.length from by omega)
      by_cases h9 : k < 9
      · by_cases h128 : 128 ≤ l[k].toNat
        · have HS := Lib.hid (show ∀ x ∈ l.take (k + 1), 128 ≤ x.toNat from by
            rw [hsn]; intro x hx; rcases List.mem_append.1 hx with hx | hx
            · exact HALL.out x hx
            · simp at hx; subst hx; exact h128)
          clear hsn
          generalize l[k] = x at *
          have hx1 : (128 : Int) ≤ (x.toNat : Int) := by omega
          have hx256 := x.toNat_lt
          have zl : decide ((q : Int) + (k : Int) < (m.length : Int)) = true := by simp; omega
          have z9 : decide ((k : Int) < 9) = true := by simp; omega
          have zx : decide ((128 : Int) ≤ (x.toNat : Int)) = true := by simp; omega
          go_wp2_with fail
          go_quiet (fail)
          go_wp2_with fail
          go_roundw
          case rel => exact ⟨k + 1, by go_num, by omega, by omega, HS.out, G.out.drewN _⟩
          case measure => simp [intOf]; omega
        · have HR := Lib.hid (rdN_at l k (by omega) (by omega) HALL.out)
          rw [List.drop_eq_getElem_cons hlt] at HR
          have hN := valN_append (l.take k) [l[k]]
          have hNl := valN_lt (l.take (k + 1))
          have hlk : (l.take k).length = k := by rw [List.length_take]; omega
          have hlk1 : (l.take (k + 1)).length = k + 1 := by rw [List.length_take]; omega
          have hval := valN_lt (l.take k)
          rw [← hsn, hlk] at hN
          rw [hlk1] at hNl
          rw [hlk] at hval
          have hb1 : (128 : Nat) ^ (k + 1) ≤ 9223372036854775808 := by
            have := Nat.pow_le_pow_right (show 0 < 128 from by omega) (show k + 1 ≤ 9 from by omega)
            simpa using this
          have zl : decide ((q : Int) + (k : Int) < (m.length : Int)) = true := by simp; omega
          have z9 : decide ((k : Int) < 9) = true := by simp; omega
          have zx : decide ((128 : Int) ≤ (l[k].toNat : Int)) = false := by simp; omega
          have zk9 : ((k : Int) == 9) = false := by simp; omega
          have zge : decide ((m.length : Int) ≤ (q : Int) + (k : Int)) = false := by simp; omega
          clear hsn
          go_wp2_with fail
          go_quiet (fail)
          go_wp2_with fail
          go_quiet (fail)
          go_wp2_with fail
          go_loopw [4, 5] (fun n i ws => ∃ N : Nat, n = .int .i64 N ∧ ((∃ j : Nat, i = .int .i64 j ∧ j ≤ k ∧ N = valN ((l.take (k + 1)).drop (j + 1))) ∨ (i = .int .i64 (-1) ∧ N = valN (l.take (k + 1)))) ∧ Below w.heap.size w ws) (fun _ i _ => (intOf i + 1).toNat)
          case atStart => exact ⟨0, rfl, .inl ⟨k, rfl, Nat.le_refl _, by rw [List.drop_of_length_le (by omega)]; rfl⟩, (G.out.drewN _).drewN _⟩
          case round =>
            obtain ⟨N, rfl, hN2, hbs⟩ := hrel
            have D2 := H.out.on hbs
            have GS := Lib.hid hbs
            have HD2 := Lib.hid D2
            obtain ⟨-, e2, e3, e4, e5, e6, -, sl2, e7, e8⟩ := D2
            have hs2 : sl2 = .slice (some ⟨b, o, none⟩) m.length c := by
              have := (hbs.cell (p := ⟨g, 0, none⟩) h2).trans (G.out.cell (p := ⟨g, 0, none⟩) h2).symm
              rw [e7, d7] at this; injection this
            subst hs2
            clear d2 d3 d4 d5 d6 d7 c1 hbs
            rcases hN2 with ⟨j, rfl, hj, hN3⟩ | ⟨rfl, hN3⟩
            · have hjl : j < l.length := by omega
              obtain ⟨A', c', e1, -, -, hcl⟩ := e8
              obtain ⟨b', o', e2', hb', hcl⟩ := hcl (by omega)
              cases e1
              cases e2'
              have cj : wr.cell? ⟨b, o + (q + j), none⟩ = some (.int .u8 (l[j].toNat : Int)) := hcl (q + j) l[j] (hget j hjl)
              have hst := val_step l k j hj hjl
              have hNb := val_bound l k j hj (by omega)
              rw [← hN3] at hst hNb
              have HST := Lib.hid hst
              have hNI : (N : Int) < 72057594037927936 := by omega
              have hx256 := l[j].toNat_lt
              clear hcl hst hN3 hNb
              generalize l[j] = y at *
              by_cases hj0 : j = 0
              · subst hj0
                rw [Nat.add_zero] at cj
                go_wp2_with fail
                go_quiet (fail)
                go_wp2_with fail
                go_roundw
                case rel => exact ⟨128 * N + y.toNat % 128, by go_num, .inr ⟨by go_num, by have := HST.out; rw [List.drop_zero] at this; omega⟩, GS.out.drewN _⟩
                case measure => simp [intOf]
              · go_wp2_with fail
                go_quiet (fail)
                go_wp2_with fail
                go_roundw
                case rel => exact ⟨128 * N + y.toNat % 128, by go_num, .inl ⟨j - 1, by go_num, by omega, by rw [show j - 1 + 1 = j from by omega, HST.out]; omega⟩, GS.out.drewN _⟩
                case measure => first | (simp [intOf]; done) | (simp [intOf]; omega)
            · have hNv : N = valN (l.take k) + l[k].toNat % 128 * 128 ^ k := by
                rw [hN3, hN]; simp [valN, Nat.mul_comm]
              have hfew := few_iff (valN (l.take k)) (l[k].toNat % 128) k hval (Nat.mod_lt _ (by omega))
              have hN63 : N < 9223372036854775808 := by omega
              rw [← hNv] at hfew
              have hbad : (4611686018427387904 ≤ N ∨ (l[k].toNat = 0 ∧ 0 < k)) → rdN l = (0, 0, 2) := fun h => by
                rw [HR.out]; exact rdGo_bad _ _ _ _ (by omega) h128 (by rw [← hNv]; exact h)
              have hgood : ¬ (4611686018427387904 ≤ N ∨ (l[k].toNat = 0 ∧ 0 < k)) → rdN l = (N, k + 1, 0) := fun h => by
                rw [HR.out, rdGo_end _ _ _ _ (by omega) h128 (by rw [← hNv]; exact h), ← hNv]
              rw [show l[k].toNat % 128 = l[k].toNat from by omega] at hfew
              generalize l[k].toNat = y at *
              have HF := Lib.hid hfew
              have HBAD := Lib.hid hbad
              have HGOOD := Lib.hid hgood
              clear hfew hbad hgood hNv hN hNl hlk hlk1 hval hb1 e8 hN3 zx z9 zl
              by_cases hbig : 4611686018427387904 ≤ N
              · have hz := Lib.hid (HBAD.out (.inl hbig))
                have hI : (4611686018427387904 : Int) ≤ (N : Int) := by omega
                clear hbig hN63
                go_wp2_with (go_at_call 60; refine (fail_doc2 _ g _ m q 2 HD2.out).mono ?_; rintro x w2 ⟨rfl, hq2, hb2⟩; have hq2 := Lib.hid hq2)
                go_ret
                rw [BADQ.out _ hz.out (by decide)]
                exact ⟨rfl, hq2.out, (grown_of_below GS.out).trans hb2⟩
              · have hI : decide ((4611686018427387904 : Int) ≤ (N : Int)) = false := by rw [decide_eq_false_iff_not]; omega
                have hP := Lib.hid (ref_put_nat N wr hN63)
                by_cases hzz : y = 0 ∧ 0 < k
                · have hz := Lib.hid (HBAD.out (.inr hzz))
                  have hne : (encN N).length ≠ k + 1 := fun h => (HF.out.1 h) hzz
                  clear hbig hN63 hzz
                  go_wp2_with (first
                    | (go_at_call 38; refine hP.out.mono ?_; rintro e w3 ⟨v3, rfl, ho3, hb3⟩; obtain ⟨A3, c3, hv3, -⟩ := own_cap ho3; subst hv3; have hz3 := HD2.out.on hb3; clear ho3
                       have hne3 : (((encN N).length : Int) != (k : Int) + 1) = true := by simp; omega
                       generalize (encN N).length = M at *)
                    | (go_at_call 60; refine (fail_doc2 _ g _ m q 2 hz3).mono ?_; rintro x w2 ⟨rfl, hq2, hb2⟩; have hq2 := Lib.hid hq2))
                  go_ret
                  rw [BADQ.out _ hz.out (by decide)]
                  exact ⟨rfl, hq2.out, (grown_of_below ((GS.out).trans (hb3.mono GS.out.size))).trans hb2⟩
                · have hz := Lib.hid (HGOOD.out (by intro h; rcases h with h | h; exact hbig h; exact hzz h))
                  have heq : (encN N).length = k + 1 := HF.out.2 hzz
                  clear hbig hN63 hzz
                  go_wp2_with (go_at_call 38; refine hP.out.mono ?_; rintro e w3 ⟨v3, rfl, ho3, hb3⟩; obtain ⟨A3, c3, hv3, -⟩ := own_cap ho3; subst hv3; have hz3 := HD2.out.on hb3; clear ho3
                               have hne3 : (((encN N).length : Int) != (k : Int) + 1) = false := by simp; omega
                               generalize (encN N).length = M at *
                               have HZ3 := Lib.hid hz3
                               obtain ⟨-, f2, f3, f4, f5, f6, -, sl3, f7, f8⟩ := hz3
                               clear f8)
                  go_ret
                  rw [GOODQ.out _ _ hz.out]
                  exact ⟨rfl, (HZ3.out).set_at _ _ (by go_num) HLE.out, (grown_of_below ((GS.out).trans (hb3.mono GS.out.size))).trans (grown_set _ 1 _)⟩
      · have hk : k = 9 := by omega
        subst hk
        have HR := Lib.hid (show rdN l = (0, 0, 2) from by rw [rdN_at l 9 (by omega) (by omega) HALL.out, rdGo_nine])
        clear hsn
        have zl : decide ((q : Int) + (9 : Int) < (m.length : Int)) = true := by simp; omega
        go_wp2_with fail
        go_quiet (fail)
        go_wp2_with (go_at_call 60; refine (fail_doc2 _ g _ m q 2 (HD.out.on ((Below.refl _ _).drewN _))).mono ?_; rintro x w2 ⟨rfl, hq2, hb2⟩; have hq2 := Lib.hid hq2)
        go_ret
        rw [BADQ.out _ HR.out (by decide)]
        exact ⟨rfl, hq2.out, (grown_of_below (G.out.drewN _)).trans hb2⟩
    · have hk0 : k = l.length := by omega
      have zl : decide ((q : Int) + (k : Int) < (m.length : Int)) = false := by simp; omega
      have hdr : l.drop k = [] := List.drop_of_length_le (by omega)
      by_cases h9 : k = 9
      · subst h9
        have HR := Lib.hid (show rdN l = (0, 0, 2) from by rw [rdN_at l 9 (by omega) (by omega) HALL.out, rdGo_nine])
        have zl : decide ((q : Int) + (9 : Int) < (m.length : Int)) = false := by simp; omega
        clear hdr hk0 hd8
        go_wp2_with fail
        go_quiet (fail)
        go_wp2_with (go_at_call 60; refine (fail_doc2 _ g _ m q 2 (HD.out.on ((Below.refl _ _).drewN _))).mono ?_; rintro x w2 ⟨rfl, hq2, hb2⟩; have hq2 := Lib.hid hq2)
        go_ret
        rw [BADQ.out _ HR.out (by decide)]
        exact ⟨rfl, hq2.out, (grown_of_below (G.out.drewN _)).trans hb2⟩
      · have HR := Lib.hid (show rdN l = (0, 0, 3) from by rw [rdN_at l k (by omega) (by omega) HALL.out, hdr, rdGo_nil _ _ h9])
        have zk9 : ((k : Int) == 9) = false := by simp; omega
        have zge : decide ((m.length : Int) ≤ (q : Int) + (k : Int)) = true := by simp; omega
        clear hdr hk0 hd8
        go_wp2_with fail
        go_quiet (fail)
        go_wp2_with fail
        go_quiet (fail)
        go_wp2_with (go_at_call 60; refine (fail_doc2 _ g _ m q 3 (HD.out.on ((Below.refl _ _).drewN _))).mono ?_; rintro x w2 ⟨rfl, hq2, hb2⟩; have hq2 := Lib.hid hq2)
        go_ret
        rw [BADQ.out _ HR.out (by decide)]
        exact ⟨rfl, hq2.out, (grown_of_below (G.out.drewN _)).trans hb2⟩

set_option maxHeartbeats 400000 in
theorem number_doc (w : World) (g : Nat) (p : Value) (m : List UInt8) (q : Nat) (e : Int) (h : RdQ w g p m q e) (hl : m.length ≤ 1000000) :
    Calls Tryz.prog 30 #[p] w fun x w' => x = .returned (.int .i64 (stepQ m q e).1) ∧ RdQ w' g p m (stepQ m q e).2.1 (stepQ m q e).2.2 ∧ w.grownBy w' (some g) := by
  by_cases he : e = 0
  · subst he; exact number_doc0 w g p m q h hl
  · rw [stepQ_err he]
    have H := Lib.hid h
    obtain ⟨rfl, h2, h3, h4, h5, h6, hq, sl, h7, h8⟩ := h
    clear h8
    go_enter Tryz.func30, Tryz.ntmps30
    go_wp2
    go_ret
    exact ⟨rfl, H.out, World.grownBy.refl w _⟩
end Go.Proofs.YtefjdmlmmoeoaaaGreat
/- Layer 6: the document's reader of chapter 2 at any index: a text. -/
namespace Go.Proofs.YtefjdmlmmoeoaaaGreat
open Go.RowKit
set_option linter.unusedVariables false

theorem stepQ_bd (m : List UInt8) (q : Nat) (e : Int) : (stepQ m q e).1 < 4611686018427387904 := by
  have h := stepN_bd (m.drop q) e
  unfold stepQ
  unfold stepN at h
  split
  · exact (by decide : (0 : Nat) < 4611686018427387904)
  · rename_i h1
    rw [if_neg h1] at h
    split
    · exact (by decide : (0 : Nat) < 4611686018427387904)
    · rename_i h2
      rw [if_neg h2] at h
      exact h
/-- What Text tells at q, where it is then, and its error. -/
def textQ (m : List UInt8) (q : Nat) (e : Int) (most : Int) : List UInt8 × Nat × Int :=
  if (stepQ m q e).2.2 ≠ 0 then ([], (stepQ m q e).2.1, (stepQ m q e).2.2) else if most < (stepQ m q e).1 then ([], (stepQ m q e).2.1, 5) else
    if m.length - (stepQ m q e).2.1 < (stepQ m q e).1 then ([], (stepQ m q e).2.1, 3) else ((m.drop (stepQ m q e).2.1).take (stepQ m q e).1, (stepQ m q e).2.1 + (stepQ m q e).1, 0)

set_option maxRecDepth 100000 in
set_option maxHeartbeats 2000000 in
theorem text_doc (w : World) (g : Nat) (p : Value) (m : List UInt8) (q : Nat) (e most : Int) (h : RdQ w g p m q e) (hl : m.length ≤ 1000000) (hm : -9223372036854775808 ≤ most ∧ most ≤ 9223372036854775807) :
    Calls Tryz.prog 31 #[p, .int .i64 most] w fun x w' => x = .returned (.string ⟨(textQ m q e most).1.toArray⟩) ∧ RdQ w' g p m (textQ m q e most).2.1 (textQ m q e most).2.2 ∧ w.grownBy w' (some g) := by
  have hbd := stepQ_bd m q e
  have hn := number_doc w g p m q e h hl
  have hst : textQ m q e most = if (stepQ m q e).2.2 ≠ 0 then ([], (stepQ m q e).2.1, (stepQ m q e).2.2) else if most < (stepQ m q e).1 then ([], (stepQ m q e).2.1, 5) else
    if m.length - (stepQ m q e).2.1 < (stepQ m q e).1 then ([], (stepQ m q e).2.1, 3) else ((m.drop (stepQ m q e).2.1).take (stepQ m q e).1, (stepQ m q e).2.1 + (stepQ m q e).1, 0) := rfl
  generalize stepQ m q e = st at *
  obtain ⟨n, q', e'⟩ := st
  simp only at hst hn hbd
  have hbd2 : (n : Int) ≤ 4611686018427387903 := by omega
  obtain ⟨rfl, -⟩ := h
  have HN := Lib.hid hn
  clear hn hbd
  by_cases he : e' = 0
  · subst he
    rw [if_neg (by simp)] at hst
    by_cases hmost : most < n
    · rw [if_pos hmost] at hst
      rw [hst]
      clear hst
      go_enter Tryz.func31, Tryz.ntmps31
      go_wp2_with fail
      refine HN.out.mono ?_
      rintro x w1 ⟨rfl, hr1, hb1⟩
      have HR1 := Lib.hid hr1
      obtain ⟨-, h2, h3, h4, h5, h6, -, sl, h7, h8⟩ := hr1
      clear h8
      go_wp2_with (go_at_call 60; refine (fail_doc2 _ g _ m q' 5 HR1.out).mono ?_; rintro x w2 ⟨rfl, hr2, hb2⟩)
      go_ret
      exact ⟨rfl, hr2, hb1.trans hb2⟩
    · rw [if_neg hmost] at hst
      by_cases hshort : m.length - q' < n
      · rw [if_pos hshort] at hst
        rw [hst]
        clear hst
        go_enter Tryz.func31, Tryz.ntmps31
        go_wp2_with fail
        refine HN.out.mono ?_
        rintro x w1 ⟨rfl, hr1, hb1⟩
        have HR1 := Lib.hid hr1
        obtain ⟨-, h2, h3, h4, h5, h6, hq, sl, h7, h8⟩ := hr1
        obtain ⟨A, c, rfl, -⟩ := h8
        have hs2 : ((m.length : Int) - (q' : Int) < (n : Int)) := by omega
        go_wp2_with fail
        go_quiet (fail)
        go_wp2_with (go_at_call 60; refine (fail_doc2 _ g _ m q' 3 (HR1.out.on ((Below.refl _ _).drewN _))).mono ?_; rintro x w2 ⟨rfl, hr2, hb2⟩)
        go_ret
        exact ⟨rfl, hr2, (hb1.trans (grown_of_below ((Below.refl _ _).drewN _))).trans hb2⟩
      · rw [if_neg hshort] at hst
        rw [hst]
        clear hst
        go_enter Tryz.func31, Tryz.ntmps31
        go_wp2_with fail
        refine HN.out.mono ?_
        rintro x w1 ⟨rfl, hr1, hb1⟩
        have HR1 := Lib.hid hr1
        obtain ⟨-, h2, h3, h4, h5, h6, hq, sl, h7, h8⟩ := hr1
        have hh := h8
        obtain ⟨A, c, rfl, -⟩ := h8
        obtain ⟨A3, c3, hsl3, hrd3⟩ := sl_mid hh q' (q' + n) (q' : Int) ((q' : Int) + (n : Int)) rfl (by omega) (by omega) (by omega)
        rw [show q' + n - q' = n from by omega] at hrd3 hsl3
        have hcv := fun W (hW : RdB W g (.slice A3 n c3) ((m.drop q').take n)) => RdB.str hW
        have hcv1 := fun k => hcv (w1.drewN k) (show RdB (w1.drewN k) g _ _ from hrd3)
        have hcv2 := hcv w1 hrd3
        clear hcv
        have hs2 : ¬ ((m.length : Int) - (q' : Int) < (n : Int)) := by omega
        have HLE := Lib.hid (show q' + n ≤ m.length from by omega)
        have hnn : (n : Int) ≤ 1000000 := by omega
        have hqq : (q' : Int) ≤ 1000000 := by omega
        have hsum : (q' : Int) + (n : Int) ≤ 2000000 := by omega
        have hwr : IntKind.i64.wrap ((q' : Int) + (n : Int)) = (q' : Int) + (n : Int) := by rw [IntKind.wrap_i64]; first | omega | (unfold wrap64; omega)
        clear hbd2
        clear hh hrd3
        go_wp2_with fail
        go_quiet (fail)
        go_wp2_with fail
        go_quiet (fail)
        go_wp2_with fail
        go_ret
        exact ⟨rfl, (HR1.out.on ((Below.refl _ _).drewN _)).set_at _ _ (by go_num) HLE.out, (hb1.trans (grown_of_below ((Below.refl _ _).drewN _))).trans (grown_set _ 1 _)⟩
  · have hne : (e' != 0) = true := by simpa [bne] using he
    rw [if_pos he] at hst
    rw [hst]
    clear hst he
    go_enter Tryz.func31, Tryz.ntmps31
    go_wp2_with fail
    refine HN.out.mono ?_
    rintro x w1 ⟨rfl, hr1, hb1⟩
    have HR1 := Lib.hid hr1
    obtain ⟨-, h2, h3, h4, h5, h6, -, sl, h7, h8⟩ := hr1
    clear h8
    go_wp2
    go_ret
    exact ⟨rfl, HR1.out, hb1⟩
end Go.Proofs.YtefjdmlmmoeoaaaGreat
/- Layer 6: versions: which may be, cut to few bytes, their bytes, by the document. -/
namespace Go.Proofs.YtefjdmlmmoeoaaaGreat
open Go.RowKit
set_option linter.unusedVariables false

structure Ver where
  key : ByteArray
  b : Int
  e : Int
  s : Int
  sp : Sp
  val : ByteArray
  gone : Bool
def verV (v : Ver) : Value := .agg #[.string v.key, .int .i64 v.b, .int .i64 v.e, .int .i64 v.s, .int .i64 v.sp.1, .int .i64 v.sp.2, .string v.val, .bool v.gone]
def rangeV (v : Ver) : Bool := decide (0 ≤ v.b) && decide (v.b ≤ 15) && decide (1 ≤ v.e) && decide (v.e ≤ 10000) && decide (1 ≤ v.s) && decide (v.s ≤ 100000)
def mayV (v : Ver) : Bool := decide ((Ord.splitOf v.key.data.toList).2.2 = 0) && mayB v.sp && decide (v.val.size ≤ 200) && !(v.gone && !decide (v.val = ⟨#[]⟩)) && rangeV v

theorem not_empty {u : ByteArray} (h : ¬ u = ⟨#[]⟩) : u.toList.isEmpty = false := by
  rw [ByteArray.toList_eq]
  obtain ⟨⟨l⟩⟩ := u
  cases l with
  | nil => exact absurd rfl h
  | cons x l => rfl

set_option maxHeartbeats 4000000 in
theorem ref6_may (v : Ver) (w : World) (hk : v.key.size ≤ 1000000) :
    Calls Tryz.prog 34 #[verV v] w fun e w' => e = .returned (.bool (mayV v)) ∧ Below w.heap.size w w' := by
  have M1 := Lib.hid (fun w => Ord.ref_split v.key w hk)
  have M2 := Lib.hid (fun w => ref_may v.sp w)
  have hh := Lib.hid (show mayV v = (decide ((Ord.splitOf v.key.data.toList).2.2 = 0) && mayB v.sp && decide (v.val.size ≤ 200) && !(v.gone && !decide (v.val = ⟨#[]⟩)) && rangeV v) from rfl)
  have hr := Lib.hid (show rangeV v = (decide (0 ≤ v.b) && decide (v.b ≤ 15) && decide (1 ≤ v.e) && decide (v.e ≤ 10000) && decide (1 ≤ v.s) && decide (v.s ≤ 100000)) from rfl)
  generalize mayV v = res at *
  generalize rangeV v = rg at *
  generalize mayB v.sp = ms at *
  generalize Ord.splitOf v.key.data.toList = sl at *
  obtain ⟨s1, s2, s3⟩ := sl
  obtain ⟨k, b, e, s, ⟨x, y⟩, u, g⟩ := v
  unfold verV
  unfold spV at M2
  simp only at *
  have B := Lib.hid (Box.new w #[.string k, .int .i64 b, .int .i64 e, .int .i64 s, .int .i64 x, .int .i64 y, .string u, .bool g] 55 _ rfl)
  have G := Lib.hid (alloc_below w (.cells #[.string k, .int .i64 b, .int .i64 e, .int .i64 s, .int .i64 x, .int .i64 y, .string u, .bool g] 55))
  go_enter Tryz.func34, Tryz.ntmps34
  go_wp2_with fail
  generalize w.alloc (.cells #[.string k, .int .i64 b, .int .i64 e, .int .i64 s, .int .i64 x, .int .i64 y, .string u, .bool g] 55) = w0 at *
  refine (M1.out _).mono ?_
  rintro z w1 ⟨rfl, hb1⟩
  have B := Lib.hid (B.out.later hb1)
  have G := Lib.hid (G.out.trans (hb1.mono G.out.size))
  clear hb1
  have c4 := B.out.cell 4 (.int .i64 x) rfl
  have c5 := B.out.cell 5 (.int .i64 y) rfl
  go_wp2_with fail
  refine (M2.out _).mono ?_
  rintro z w2 ⟨rfl, hb2⟩
  have B := Lib.hid (B.out.later hb2)
  have G := Lib.hid (G.out.trans (hb2.mono G.out.size))
  clear hb2 c4 c5
  have c1 := B.out.cell 1 (.int .i64 b) rfl
  have c2 := B.out.cell 2 (.int .i64 e) rfl
  have c3 := B.out.cell 3 (.int .i64 s) rfl
  have c6 := B.out.cell 6 (.string u) rfl
  have c7 := B.out.cell 7 (.bool g) rfl
  have hno : ∀ q, (s3 ≠ 0 ∨ ms = false ∨ 200 < u.size ∨ (g = true ∧ u ≠ ⟨#[]⟩)) → q = false → res = q := fun q h hq => by
    rw [hq, hh.out]
    rcases h with h | h | h | ⟨h1, h2⟩
    · simp [h]
    · simp [h]
    · rw [show decide (u.size ≤ 200) = false from by simp; omega]; simp
    · simp [h1, h2]
  have hyes : s3 = 0 → ms = true → u.size ≤ 200 → (g = true → u = ⟨#[]⟩) → res = rg := fun h1 h2 h3 h4 => by
    rw [hh.out, h1, h2]
    rw [show decide (u.size ≤ 200) = true from by simpa using h3]
    cases g
    · simp
    · simp [h4 rfl]
  have HN := Lib.hid hno
  have HY := Lib.hid hyes
  clear hno hyes hh
  by_cases z1 : s3 = 0
  · cases ms
    · have hres := Lib.hid (HN.out false (.inr (.inl rfl)) rfl)
      go_wp2_with fail
      go_ret
      exact ⟨ret_bool hres.out.symm, G.out⟩
    · by_cases z2 : 200 < u.size
      · have hres := Lib.hid (HN.out false (.inr (.inr (.inl z2))) rfl)
        go_wp2_with fail
        go_ret
        exact ⟨ret_bool hres.out.symm, G.out⟩
      · cases hg : g
        · have hres := Lib.hid (show res = rg from HY.out z1 rfl (by omega) (by simp [hg]))
          subst hg
          clear HN HY
          go_wp2_with fail
          all_goals go_ret
          all_goals exact ⟨ret_bool (by rw [hres.out, hr.out]; simp [*] <;> omega), G.out⟩
        · subst hg
          by_cases hu : u = ⟨#[]⟩
          · have hres := Lib.hid (show res = rg from HY.out z1 rfl (by omega) (fun _ => hu))
            clear HN HY
            subst hu
            go_wp2_with fail
            all_goals go_ret
            all_goals exact ⟨ret_bool (by rw [hres.out, hr.out]; simp [*] <;> omega), G.out⟩
          · have hres := Lib.hid (HN.out false (.inr (.inr (.inr ⟨rfl, hu⟩))) rfl)
            have hue := not_empty hu
            go_wp2_with fail
            go_ret
            exact ⟨ret_bool hres.out.symm, G.out⟩
  · have hres := Lib.hid (HN.out false (.inl z1) rfl)
    go_wp2_with fail
    go_ret
    exact ⟨ret_bool hres.out.symm, G.out⟩
end Go.Proofs.YtefjdmlmmoeoaaaGreat
/- Layer 6: a version's bytes, by the document. -/
namespace Go.Proofs.YtefjdmlmmoeoaaaGreat
open Go.RowKit
set_option linter.unusedVariables false

theorem ownB_mono {w : World} {base base' : Nat} {v : Value} {l : List UInt8} (h : OwnB w base v l) (hb : base' ≤ base) : OwnB w base' v l :=
  ⟨h.1, h.2.imp id fun ⟨g, cap, cur, e, hg, h3⟩ => ⟨g, cap, cur, e, Nat.le_trans hb hg, h3⟩⟩

def numsV (v : Ver) : List Int := [v.b, v.e, v.s, v.sp.1, v.sp.2 - v.sp.1, if v.gone = true then 1 else 0]
theorem mayV_iff {v : Ver} (h : mayV v = true) : (Ord.splitOf v.key.data.toList).2.2 = 0 ∧ mayB v.sp = true ∧ v.val.size ≤ 200 ∧ (v.gone = true → v.val = ⟨#[]⟩) ∧ 0 ≤ v.b ∧ v.b ≤ 15 ∧ 1 ≤ v.e ∧ v.e ≤ 10000 ∧ 1 ≤ v.s ∧ v.s ≤ 100000 := by
  unfold mayV rangeV at h
  simp only [Bool.and_eq_true, decide_eq_true_eq, Bool.not_eq_true', Bool.and_eq_false_iff, Bool.not_eq_false'] at h
  obtain ⟨⟨⟨⟨h1, h2⟩, h3⟩, h4⟩, ⟨⟨⟨⟨h5, h6⟩, h7⟩, h8⟩, h9⟩, h10⟩ := h
  refine ⟨h1, h2, h3, fun hg => ?_, h5, h6, h7, h8, h9, h10⟩
  rcases h4 with h4 | h4
  · rw [hg] at h4; cases h4
  · simpa using h4
theorem numsV_bd {v : Ver} (h : mayV v = true) : ∀ n ∈ numsV v, 0 ≤ n ∧ n ≤ 1099511627776 := by
  obtain ⟨_, h2, _, _, h5, h6, h7, h8, h9, h10⟩ := mayV_iff h
  have h11 := mayB_iff.1 h2
  intro n hn
  simp only [numsV, List.mem_cons, List.not_mem_nil, or_false] at hn
  rcases hn with rfl | rfl | rfl | rfl | rfl | rfl
  · omega
  · omega
  · omega
  · omega
  · omega
  · split <;> omega

end Go.Proofs.YtefjdmlmmoeoaaaGreat
/- Layer 6: lists of versions: are they the same, their bytes, by the document. -/
namespace Go.Proofs.YtefjdmlmmoeoaaaGreat
open Go.RowKit
set_option linter.unusedVariables false

def verL : Lay Ver := ⟨8, fun v => [.string v.key, .int .i64 v.b, .int .i64 v.e, .int .i64 v.s, .int .i64 v.sp.1, .int .i64 v.sp.2, .string v.val, .bool v.gone], fun _ => rfl, fun x u hu => by simp at hu; rcases hu with rfl | rfl | rfl | rfl | rfl | rfl | rfl | rfl <;> rfl, by decide⟩
theorem ver_info : (Tryz.prog.info? 55).map (fun i => (i.zero, i.size, i.bytes)) = some (some (.agg #[.string ⟨#[]⟩, .int .i64 0, .int .i64 0, .int .i64 0, .int .i64 0, .int .i64 0, .string ⟨#[]⟩, .bool false]), 8, 80) := by kernel_rfl
abbrev RdVr (w : World) (B : Nat) (v : Value) (l : List Ver) : Prop := RdX verL w B v l
abbrev OwnVr (w : World) (base : Nat) (v : Value) (l : List Ver) : Prop := OwnX verL 55 w base v l
theorem RdVr.here {w : World} {B : Nat} {A : Option Addr} {n c : Nat} {l : List Ver} (h : RdVr w B (.slice A n c) l) (k : Nat) (hk : k < l.length) : ∃ b o, A = some ⟨b, o, none⟩ ∧ b < B ∧
    w.cell? ⟨b, o + k * 8, none⟩ = some (.string l[k].key) ∧ w.cell? ⟨b, o + k * 8 + 1, none⟩ = some (.int .i64 l[k].b) ∧ w.cell? ⟨b, o + k * 8 + 2, none⟩ = some (.int .i64 l[k].e) ∧ w.cell? ⟨b, o + k * 8 + 3, none⟩ = some (.int .i64 l[k].s) ∧
    w.cell? ⟨b, o + k * 8 + 4, none⟩ = some (.int .i64 l[k].sp.1) ∧ w.cell? ⟨b, o + k * 8 + 5, none⟩ = some (.int .i64 l[k].sp.2) ∧ w.cell? ⟨b, o + k * 8 + 6, none⟩ = some (.string l[k].val) ∧ w.cell? ⟨b, o + k * 8 + 7, none⟩ = some (.bool l[k].gone) := by
  obtain ⟨b, o, rfl, hb, hc⟩ := h.at k hk
  exact ⟨b, o, rfl, hb, hc 0 _ rfl, hc 1 _ rfl, hc 2 _ rfl, hc 3 _ rfl, hc 4 _ rfl, hc 5 _ rfl, hc 6 _ rfl, hc 7 _ rfl⟩
theorem bytes_list6 (a b : ByteArray) : (a.toList = b.toList) ↔ a = b := by
  constructor
  · intro e
    rw [ByteArray.toList_eq, ByteArray.toList_eq] at e
    obtain ⟨⟨x⟩⟩ := a
    obtain ⟨⟨y⟩⟩ := b
    simp at e
    subst e
    rfl
  · intro e; rw [e]
theorem ver_neq_same (W : World) (a : Ver) : (binOp .neq 55 (verV a) (verV a)).run Tryz.prog W = .ok (.bool false) W := by
  unfold verV
  go_simp
theorem ver_neq_diff (W : World) (a b : Ver) (h : a ≠ b) : (binOp .neq 55 (verV a) (verV b)).run Tryz.prog W = .ok (.bool true) W := by
  obtain ⟨k1, b1, e1, s1, ⟨x1, y1⟩, u1, g1⟩ := a
  obtain ⟨k2, b2, e2, s2, ⟨x2, y2⟩, u2, g2⟩ := b
  unfold verV
  have h1 := bytes_list6 k1 k2
  have h2 := bytes_list6 u1 u2
  go_simp
  intro a1 a2 a3 a4 a5 a6 a7 a8
  subst a1 a2 a3 a4 a5 a6 a7 a8
  exact h rfl

set_option maxHeartbeats 4000000 in
theorem ref6_same (va vb : Value) (l m : List Ver) (w : World) (ha : RdVr w w.heap.size va l) (hb : RdVr w w.heap.size vb m) :
    Calls Tryz.prog 7 #[va, vb] w fun e w' => ∃ r : Bool, e = .returned (.bool r) ∧ (r = true ↔ l = m) ∧ Below w.heap.size w w' := by
  have HA := Lib.hid ha
  have HB := Lib.hid hb
  obtain ⟨A, ca, rfl, hla, hca, -⟩ := ha
  obtain ⟨B, cb, rfl, hlb, hcb, -⟩ := hb
  by_cases hlen : l.length = m.length
  · have z0 : ((l.length : Int) != (m.length : Int)) = false := by simp [bne, hlen]
    have HL := Lib.hid hlen
    go_enter Tryz.func7, Tryz.ntmps7
    clear hlen
    go_wp2_with fail
    go_loopw [5] (fun i wr => ∃ k : Nat, i = .int .i64 k ∧ k ≤ l.length ∧ l.take k = m.take k ∧ Below w.heap.size w wr) (fun i _ => l.length - (intOf i).toNat)
    case atStart => exact ⟨0, rfl, Nat.zero_le _, rfl, Below.refl _ _⟩
    case round =>
      obtain ⟨k, rfl, hk, ht, hbw⟩ := hrel
      have G := Lib.hid hbw
      have T := Lib.hid ht
      clear hbw ht
      by_cases hlt : k < l.length
      · have hltm : k < m.length := by have := HL.out; omega
        obtain ⟨ba, oa, rfl, hba, ca0, ca1, ca2, ca3, ca4, ca5, ca6, ca7⟩ := RdVr.here (HA.out.below G.out) k hlt
        obtain ⟨bb, ob, rfl, hbb, cb0, cb1, cb2, cb3, cb4, cb5, cb6, cb7⟩ := RdVr.here (HB.out.below G.out) k hltm
        have hs1 : l.take (k + 1) = l.take k ++ [l[k]] := List.take_succ_eq_append_getElem hlt
        have hs2 : m.take (k + 1) = m.take k ++ [m[k]] := List.take_succ_eq_append_getElem hltm
        have S1 := Lib.hid hs1
        have S2 := Lib.hid hs2
        have NE := Lib.hid (show l[k] ≠ m[k] → l ≠ m from fun h e => h (by subst e; rfl))
        clear hs1 hs2
        generalize l[k] = p at *
        generalize m[k] = q at *
        by_cases hpq : p = q
        · subst hpq
          have hne := fun W => ver_neq_same W p
          unfold verV at hne
          go_wp2_with fail
          go_quiet (fail)
          go_wp2_with fail
          go_roundw
          case rel => exact ⟨k + 1, by go_num, by omega, by rw [S1.out, S2.out, T.out], G.out.drewN _⟩
          case measure => simp [intOf]; omega
        · have hne := fun W => ver_neq_diff W p q hpq
          unfold verV at hne
          have LM := Lib.hid (NE.out hpq)
          clear hpq
          go_wp2_with fail
          go_quiet (fail)
          go_wp2_with fail
          go_ret
          exact ⟨_, rfl, ⟨(fun h => by cases h), fun h => absurd h LM.out⟩, G.out.drewN _⟩
      · have LM := Lib.hid (show l = m from by
          have h1 : l.take k = l := List.take_of_length_le (by omega)
          have h2 : m.take k = m := List.take_of_length_le (by have := HL.out; omega)
          rw [← h1, T.out, h2])
        go_wp2_with fail
        go_ret
        exact ⟨_, rfl, ⟨fun _ => LM.out, fun _ => rfl⟩, G.out⟩
  · have z0 : ((l.length : Int) != (m.length : Int)) = true := by simp [bne]; omega
    have LM := Lib.hid (show l ≠ m from fun e => hlen (by rw [e]))
    clear hlen
    go_enter Tryz.func7, Tryz.ntmps7
    go_wp2_with fail
    go_ret
    exact ⟨_, rfl, ⟨(fun h => by cases h), fun h => absurd h LM.out⟩, Below.refl _ _⟩

end Go.Proofs.YtefjdmlmmoeoaaaGreat
/- Layer 6: a version read, by the document. -/
namespace Go.Proofs.YtefjdmlmmoeoaaaGreat
open Go.RowKit
set_option linter.unusedVariables false

def qSt (m : List UInt8) (q : Nat) (e : Int) : Nat → Nat × Int
  | 0 => (q, e)
  | k + 1 => (stepQ m (qSt m q e k).1 (qSt m q e k).2).2
def qN (m : List UInt8) (q : Nat) (e : Int) (k : Nat) : Int := ((stepQ m (qSt m q e k).1 (qSt m q e k).2).1 : Nat)
def qNs (m : List UInt8) (q : Nat) (e : Int) (k : Nat) : List Int := (List.range k).map (qN m q e)
theorem qNs_succ (m : List UInt8) (q : Nat) (e : Int) (k : Nat) : qNs m q e (k + 1) = qNs m q e k ++ [qN m q e k] := by
  unfold qNs; rw [List.range_succ, List.map_append]; rfl
theorem qN_bd (m : List UInt8) (q : Nat) (e : Int) (k : Nat) : 0 ≤ qN m q e k ∧ qN m q e k < 4611686018427387904 := by
  have := stepQ_bd m (qSt m q e k).1 (qSt m q e k).2
  unfold qN; omega
def zeroV : Ver := ⟨⟨#[]⟩, 0, 0, 0, (0, 0), ⟨#[]⟩, false⟩
theorem RdQ.below {w w' : World} {g q B : Nat} {p : Value} {m : List UInt8} {e : Int} (h : RdQ w g p m q e) (hb : Below B w w') (hB : g < B) : RdQ w' g p m q e := by
  obtain ⟨h1, h2, h3, h4, h5, h6, hq, sl, h7, h8⟩ := h
  exact ⟨h1, Nat.lt_of_lt_of_le h2 hb.size, (hb.cell (p := ⟨g, 1, none⟩) hB).trans h3, (hb.cell (p := ⟨g, 2, none⟩) hB).trans h4, (hb.frozen (p := ⟨g, 1, none⟩) hB).trans h5, (hb.frozen (p := ⟨g, 2, none⟩) hB).trans h6, hq, sl, (hb.cell (p := ⟨g, 0, none⟩) hB).trans h7, h8.below (hb.mono (Nat.le_of_lt hB))⟩
theorem grown_then_below {a b c : World} {row : Option Nat} (h : a.grownBy b row) (k : Below a.heap.size b c) : a.grownBy c row :=
  ⟨k.os.trans h.os, k.tape.trans h.tape, k.output.trans h.output, Nat.le_trans h.size k.size, fun i hi hr => (k.block i hi).trans (h.block i hi hr)⟩

def intL : Lay Int := ⟨1, fun n => [.int .i64 n], fun _ => rfl, fun x u hu => by simp at hu; subst hu; rfl, by decide⟩
theorem int_info : (Tryz.prog.info? 3).map (fun i => (i.zero, i.size, i.bytes)) = some (some (.int .i64 0), 1, 8) := by kernel_rfl
abbrev OwnInt (w : World) (base : Nat) (v : Value) (l : List Int) : Prop := OwnX intL 3 w base v l

end Go.Proofs.YtefjdmlmmoeoaaaGreat
/- Layer 6: which versions may be, by the project. -/
namespace Go.Proofs.YtefjdmlmmoeoaaaGreat
open Go.RowKit
set_option linter.unusedVariables false

set_option maxHeartbeats 400000 in
theorem row_isIn (n lo hi : Int) (w : World) :
    Calls Tryz.prog 100 #[.int .i64 n, .int .i64 lo, .int .i64 hi] w fun e w' => e = .returned (.bool (decide (lo ≤ n) && decide (n ≤ hi))) ∧ w = w' := by
  go_enter Tryz.func100, Tryz.ntmps100
  go_wp2
  all_goals go_ret
  all_goals exact ⟨ret_bool (by simp [*] <;> omega), rfl⟩

set_option maxHeartbeats 1000000 in
theorem row_mayStamp (b e s : Int) (w : World) :
    Calls Tryz.prog 96 #[.agg #[.int .i64 b, .int .i64 e, .int .i64 s]] w fun r w' => r = .returned (.bool ((decide (0 ≤ b) && decide (b ≤ 15)) && (decide (1 ≤ e) && decide (e ≤ 10000)) && (decide (1 ≤ s) && decide (s ≤ 100000)))) ∧ Below w.heap.size w w' := by
  have I1 := Lib.hid (fun w => row_isIn b 0 15 w)
  have I2 := Lib.hid (fun w => row_isIn e 1 10000 w)
  have I3 := Lib.hid (fun w => row_isIn s 1 100000 w)
  generalize (decide (0 ≤ b) && decide (b ≤ 15)) = q1 at *
  generalize (decide (1 ≤ e) && decide (e ≤ 10000)) = q2 at *
  generalize (decide (1 ≤ s) && decide (s ≤ 100000)) = q3 at *
  have G := Lib.hid (alloc_below w (.cells #[.int .i64 b, .int .i64 e, .int .i64 s] 51))
  go_enter Tryz.func96, Tryz.ntmps96
  go_wp2_with fail
  refine (I1.out _).mono ?_
  rintro x w' ⟨rfl, rfl⟩
  cases q1
  · go_wp2_with fail
    go_ret
    exact ⟨rfl, G.out⟩
  · go_wp2_with fail
    refine (I2.out _).mono ?_
    rintro x w' ⟨rfl, rfl⟩
    cases q2
    · go_wp2_with fail
      go_ret
      exact ⟨rfl, G.out⟩
    · go_wp2_with fail
      refine (I3.out _).mono ?_
      rintro x w' ⟨rfl, rfl⟩
      go_wp2_with fail
      go_ret
      exact ⟨ret_bool (by simp), G.out⟩

set_option maxHeartbeats 400000 in
theorem row_mayValue (v : Ver) (w : World) :
    Calls Tryz.prog 98 #[verV v] w fun r w' => r = .returned (.bool (decide (v.val.size ≤ 200) && !(v.gone && !decide (v.val = ⟨#[]⟩)))) ∧ Below w.heap.size w w' := by
  obtain ⟨k, b, e, s, ⟨x, y⟩, u, g⟩ := v
  unfold verV
  simp only
  cases g
  · go_enter Tryz.func98, Tryz.ntmps98
    go_wp2
    go_ret
    exact ⟨ret_bool (by simp <;> omega), alloc_below w _⟩
  · by_cases hu : u = ⟨#[]⟩
    · subst hu
      go_enter Tryz.func98, Tryz.ntmps98
      go_wp2
      go_ret
      exact ⟨rfl, alloc_below w _⟩
    · have hue := not_empty hu
      go_enter Tryz.func98, Tryz.ntmps98
      go_wp2
      go_ret
      exact ⟨ret_bool (by simp [hu]), alloc_below w _⟩

set_option maxHeartbeats 400000 in
theorem row_isKey (s : ByteArray) (w : World) (hs : s.size ≤ 1000000) :
    Calls Tryz.prog 95 #[.string s] w fun r w' => r = .returned (.bool (decide ((Ord.splitOf s.data.toList).2.2 = 0))) ∧ Below w.heap.size w w' := by
  have M1 := Lib.hid (fun w => Ord.order_split s w hs)
  generalize Ord.splitOf s.data.toList = sl at *
  obtain ⟨s1, s2, s3⟩ := sl
  go_enter Tryz.func95, Tryz.ntmps95
  go_wp2_with fail
  refine (M1.out _).mono ?_
  rintro x w' ⟨rfl, hb⟩
  have G := Lib.hid hb
  clear hb
  go_wp2_with fail
  go_ret
  exact ⟨ret_bool (by first | rfl | (rw [beq_eq_decide])), G.out⟩

set_option maxHeartbeats 2000000 in
theorem row_may (v : Ver) (w : World) (hk : v.key.size ≤ 1000000) :
    Calls Tryz.prog 87 #[verV v] w fun r w' => r = .returned (.bool (mayV v)) ∧ Below w.heap.size w w' := by
  have M1 := Lib.hid (fun w => row_isKey v.key w hk)
  have M2 := Lib.hid (fun w => row_mayStamp v.b v.e v.s w)
  have M3 := Lib.hid (fun w => p_may v.sp w)
  have M4 := Lib.hid (fun w => row_mayValue v w)
  have hh := Lib.hid (show mayV v = (decide ((Ord.splitOf v.key.data.toList).2.2 = 0) && ((decide (0 ≤ v.b) && decide (v.b ≤ 15)) && (decide (1 ≤ v.e) && decide (v.e ≤ 10000)) && (decide (1 ≤ v.s) && decide (v.s ≤ 100000))) && mayB v.sp && (decide (v.val.size ≤ 200) && !(v.gone && !decide (v.val = ⟨#[]⟩)))) from by
    unfold mayV rangeV
    simp only [Bool.and_assoc, Bool.and_comm, Bool.and_left_comm])
  generalize mayV v = res at *
  generalize decide ((Ord.splitOf v.key.data.toList).2.2 = 0) = q1 at *
  generalize ((decide (0 ≤ v.b) && decide (v.b ≤ 15)) && (decide (1 ≤ v.e) && decide (v.e ≤ 10000)) && (decide (1 ≤ v.s) && decide (v.s ≤ 100000))) = q2 at *
  generalize mayB v.sp = q3 at *
  generalize (decide (v.val.size ≤ 200) && !(v.gone && !decide (v.val = ⟨#[]⟩))) = q4 at *
  obtain ⟨k, b, e, s, ⟨x, y⟩, u, g⟩ := v
  unfold verV at M4 ⊢
  unfold spV at M3
  simp only at *
  have B := Lib.hid (Box.new w #[.string k, .int .i64 b, .int .i64 e, .int .i64 s, .int .i64 x, .int .i64 y, .string u, .bool g] 55 _ rfl)
  have G := Lib.hid (alloc_below w (.cells #[.string k, .int .i64 b, .int .i64 e, .int .i64 s, .int .i64 x, .int .i64 y, .string u, .bool g] 55))
  go_enter Tryz.func87, Tryz.ntmps87
  go_wp2_with fail
  generalize w.alloc (.cells #[.string k, .int .i64 b, .int .i64 e, .int .i64 s, .int .i64 x, .int .i64 y, .string u, .bool g] 55) = w0 at *
  refine (M1.out _).mono ?_
  rintro z w1 ⟨rfl, hb1⟩
  have B := Lib.hid (B.out.later hb1)
  have G := Lib.hid (G.out.trans (hb1.mono G.out.size))
  clear hb1
  cases q1
  · go_wp2_with fail
    go_ret
    exact ⟨ret_bool (by rw [hh.out]; rfl), G.out⟩
  have c1 := B.out.cell 1 (.int .i64 b) rfl
  have c2 := B.out.cell 2 (.int .i64 e) rfl
  have c3 := B.out.cell 3 (.int .i64 s) rfl
  go_wp2_with fail
  refine (M2.out _).mono ?_
  rintro z w2 ⟨rfl, hb2⟩
  have B := Lib.hid (B.out.later hb2)
  have G := Lib.hid (G.out.trans (hb2.mono G.out.size))
  clear hb2 c1 c2 c3
  cases q2
  · go_wp2_with fail
    go_ret
    exact ⟨ret_bool (by rw [hh.out]; rfl), G.out⟩
  have c4 := B.out.cell 4 (.int .i64 x) rfl
  have c5 := B.out.cell 5 (.int .i64 y) rfl
  go_wp2_with fail
  refine (M3.out _).mono ?_
  rintro z w3 ⟨rfl, hb3⟩
  have B := Lib.hid (B.out.later hb3)
  have G := Lib.hid (G.out.trans (hb3.mono G.out.size))
  clear hb3 c4 c5
  cases q3
  · go_wp2_with fail
    go_ret
    exact ⟨ret_bool (by rw [hh.out]; rfl), G.out⟩
  have c0 := B.out.cell 0 (.string k) rfl
  have c1 := B.out.cell 1 (.int .i64 b) rfl
  have c2 := B.out.cell 2 (.int .i64 e) rfl
  have c3 := B.out.cell 3 (.int .i64 s) rfl
  have c4 := B.out.cell 4 (.int .i64 x) rfl
  have c5 := B.out.cell 5 (.int .i64 y) rfl
  have c6 := B.out.cell 6 (.string u) rfl
  have c7 := B.out.cell 7 (.bool g) rfl
  go_wp2_with fail
  refine (M4.out _).mono ?_
  rintro z w4 ⟨rfl, hb4⟩
  have G := Lib.hid (G.out.trans (hb4.mono G.out.size))
  clear hb4 c0 c1 c2 c3 c4 c5 c6 c7
  go_wp2_with fail
  go_ret
  exact ⟨ret_bool (by rw [hh.out]; simp), G.out⟩
end Go.Proofs.YtefjdmlmmoeoaaaGreat
/- Layer 6: plain facts: a version as it is read of bytes, one after the other; the document's way and the project's are the same; what is written is read. -/
namespace Go.Proofs.YtefjdmlmmoeoaaaGreat
open Go.RowKit
set_option linter.unusedVariables false

theorem step_enc (n : Nat) (r : List UInt8) (h : n < 4611686018427387904) : stepN (encN n ++ r) 0 = (n, r, 0) := by
  unfold stepN
  rw [rdN_enc n r h, if_neg (by simp), if_neg (by simp)]
  simp
theorem text_enc (s : ByteArray) (r : List UInt8) (most : Int) (h : s.size ≤ 1000) (hm : (s.size : Int) ≤ most) : stepT (encT s ++ r) 0 most = (s.data.toList, r, 0) := by
  have hl : s.data.toList.length = s.size := by simp
  unfold stepT encT
  rw [List.append_assoc, step_enc s.size _ (by omega)]
  simp only
  rw [if_neg (by simp), if_neg (by omega), if_neg (by rw [List.length_append]; omega), ← hl]
  simp

/-- Where the project's reader is, and its error, when k numbers have been read. -/
def sN (l : List UInt8) (e : Int) : Nat → List UInt8 × Int
  | 0 => (l, e)
  | k + 1 => (stepN (sN l e k).1 (sN l e k).2).2
def nN (l : List UInt8) (e : Int) (k : Nat) : Int := ((stepN (sN l e k).1 (sN l e k).2).1 : Nat)
def keyL (l : List UInt8) (e : Int) : List UInt8 × List UInt8 × Int := stepT (sN l e 6).1 (sN l e 6).2 100
def valL (l : List UInt8) (e : Int) : List UInt8 × List UInt8 × Int := stepT (keyL l e).2.1 (keyL l e).2.2 200
def rawL (l : List UInt8) (e : Int) : Ver := ⟨⟨(keyL l e).1.toArray⟩, nN l e 0, nN l e 1, nN l e 2, (nN l e 3, nN l e 3 + nN l e 4), ⟨(valL l e).1.toArray⟩, (nN l e 5 == 1)⟩
def takeL (l : List UInt8) (e : Int) : Ver × Int := if (valL l e).2.2 ≠ 0 then (zeroV, (valL l e).2.2) else if mayV (rawL l e) = true ∧ nN l e 5 ≤ 1 then (rawL l e, 0) else (zeroV, 2)
theorem nN_bd (l : List UInt8) (e : Int) (k : Nat) : 0 ≤ nN l e k ∧ nN l e k < 4611686018427387904 := by
  have := stepN_bd (sN l e k).1 (sN l e k).2
  unfold nN; omega

/-- The project's reader (what is left, its error) is where the document's is (an index of m, its error). -/
def Lk (x : List UInt8 × Int) (m : List UInt8) (y : Nat × Int) : Prop := x.2 = y.2 ∧ (y.2 = 0 → x.1 = m.drop y.1)
theorem link_step {x : List UInt8 × Int} {m : List UInt8} {y : Nat × Int} (h : Lk x m y) : (stepN x.1 x.2).1 = (stepQ m y.1 y.2).1 ∧ Lk (stepN x.1 x.2).2 m (stepQ m y.1 y.2).2 := by
  obtain ⟨l, e⟩ := x
  obtain ⟨q, f⟩ := y
  obtain ⟨h1, h2⟩ := h
  simp only at h1 h2 ⊢
  subst h1
  unfold stepN stepQ Lk
  by_cases he : e = 0
  · subst he
    rw [h2 rfl]
    by_cases hr : (rdN (m.drop q)).2.2 = 0
    · simp [hr, List.drop_drop]
    · simp [hr]
  · simp [he]
theorem link_text {x : List UInt8 × Int} {m : List UInt8} {y : Nat × Int} (most : Int) (h : Lk x m y) : (stepT x.1 x.2 most).1 = (textQ m y.1 y.2 most).1 ∧ Lk (stepT x.1 x.2 most).2 m (textQ m y.1 y.2 most).2 := by
  have hs := link_step h
  unfold stepT textQ
  generalize stepN x.1 x.2 = a at *
  generalize stepQ m y.1 y.2 = b at *
  obtain ⟨n, l, e⟩ := a
  obtain ⟨n', q, f⟩ := b
  obtain ⟨h1, h2, h3⟩ := hs
  simp only at h1 h2 h3 ⊢
  subst h1 h2
  unfold Lk
  by_cases he : e = 0
  · subst he
    rw [h3 rfl]
    by_cases h4 : most < (n : Int)
    · simp [h4]
    · by_cases h5 : m.length - q < n
      · simp [h4, h5]
      · simp [h4, h5, List.drop_drop]
  · simp [he]
theorem link_nums {x : List UInt8 × Int} {m : List UInt8} {y : Nat × Int} (h : Lk x m y) (k : Nat) : Lk (sN x.1 x.2 k) m (qSt m y.1 y.2 k) := by
  induction k with
  | zero => exact h
  | succ k ih => exact (link_step ih).2
theorem link_n {x : List UInt8 × Int} {m : List UInt8} {y : Nat × Int} (h : Lk x m y) (k : Nat) : nN x.1 x.2 k = qN m y.1 y.2 k := by
  unfold nN qN
  rw [(link_step (link_nums h k)).1]

/-- What a step leaves stands at the end of what was. -/
theorem step_suf (l : List UInt8) (e : Int) : (stepN l e).2.1 <:+ l := by
  unfold stepN
  split
  · exact List.suffix_refl _
  · split
    · exact List.nil_suffix
    · exact List.drop_suffix _ _
theorem text_suf (l : List UInt8) (e most : Int) : (stepT l e most).2.1 <:+ l := by
  have := step_suf l e
  unfold stepT
  split
  · exact this
  · split
    · exact List.nil_suffix
    · split
      · exact List.nil_suffix
      · exact (List.drop_suffix _ _).trans this
theorem sN_suf (l : List UInt8) (e : Int) (k : Nat) : (sN l e k).1 <:+ l := by
  induction k with
  | zero => exact List.suffix_refl _
  | succ k ih => exact (step_suf _ _).trans ih
theorem rdGo_pos (l : List UInt8) : ∀ (k acc : Nat), (rdGo l k acc).2.2 = 0 → k < (rdGo l k acc).2.1 := by
  induction l with
  | nil => intro k acc h; exfalso; revert h; rw [rdGo]; split <;> simp
  | cons c t ih =>
    intro k acc
    rw [rdGo]
    split
    · simp
    · split
      · intro h; have := ih _ _ h; omega
      · split
        · simp
        · intro _; simp
theorem step_err (l : List UInt8) (e : Int) (h : (stepN l e).2.2 = 0) : e = 0 := by
  unfold stepN at h
  split at h
  · exact absurd h (by assumption)
  · rename_i h1; simpa using h1
theorem step_less (l : List UInt8) (e : Int) (h : (stepN l e).2.2 = 0) : (stepN l e).2.1.length < l.length := by
  have he := step_err l e h
  subst he
  unfold stepN at h ⊢
  rw [if_neg (by simp)] at h ⊢
  split at h
  · rename_i h1; exact absurd h h1
  · rename_i h1
    rw [if_neg h1]
    have h2 : (rdN l).2.2 = 0 := by simpa using h1
    have h3 := rdGo_pos l 0 0 h2
    have h4 := (rdN_size l h2).1
    simp only [List.length_drop]
    show l.length - (rdN l).2.1 < l.length
    have h5 : 0 < (rdN l).2.1 := h3
    omega
theorem text_err (l : List UInt8) (e most : Int) (h : (stepT l e most).2.2 = 0) : (stepN l e).2.2 = 0 := by
  unfold stepT at h
  by_cases h1 : (stepN l e).2.2 = 0
  · exact h1
  · rw [if_pos h1] at h; exact h
theorem sN_err (l : List UInt8) (e : Int) (k : Nat) (h : (sN l e k).2 = 0) : e = 0 := by
  induction k with
  | zero => exact h
  | succ k ih => exact ih (step_err _ _ h)
theorem take_zero (l : List UInt8) (e : Int) (h : (takeL l e).2 ≠ 0) : (takeL l e).1 = zeroV := by
  unfold takeL at h ⊢
  split
  · rfl
  · rename_i h1
    rw [if_neg h1] at h
    split
    · rename_i h2
      rw [if_pos h2] at h
      exact absurd rfl h
    · rfl

/-- How long a key may be. -/
theorem text_long : ∀ (n : Nat) (b : List UInt8), b.length ≤ n → (Ord.rdText b).1 = 0 → b.length ≤ 2 * (Ord.rdText b).2.1.length + 2 + (Ord.rdText b).2.2.length := by
  intro n
  induction n with
  | zero => intro b hb h; have : b = [] := List.length_eq_zero_iff.1 (by omega); subst this; simp [Ord.rdText] at h
  | succ n ih =>
    intro b hb h
    cases b with
    | nil => simp [Ord.rdText] at h
    | cons c r =>
      unfold Ord.rdText at h ⊢
      by_cases hc : c = 0
      · simp only [if_pos hc] at h ⊢
        cases r with
        | nil => simp at h
        | cons d r' =>
          simp only at h ⊢
          by_cases hd : d = 255
          · simp only [if_pos hd] at h ⊢
            by_cases h0 : (Ord.rdText r').1 = 0
            · simp only [if_pos h0] at h ⊢
              have := ih r' (by simp at hb; omega) h0
              simp only [List.length_cons]
              omega
            · simp only [if_neg h0] at h; exact absurd h h0
          · simp only [if_neg hd] at h ⊢
            by_cases hd1 : d = 1
            · simp only [if_pos hd1] at h ⊢
              simp only [List.length_cons, List.length_nil]
              omega
            · simp only [if_neg hd1] at h; cases h
      · simp only [if_neg hc] at h ⊢
        by_cases h0 : (Ord.rdText r).1 = 0
        · simp only [if_pos h0] at h ⊢
          have := ih r (by simp at hb; omega) h0
          simp only [List.length_cons]
          omega
        · simp only [if_neg h0] at h; exact absurd h h0
theorem part_long {b : List UInt8} (h : (Ord.rdPart b).1 = 0) : b.length ≤ 9 + 2 * (Ord.rdPart b).2.1.text.size + 3 + (Ord.rdPart b).2.2.length ∧ ((Ord.rdPart b).2.1.isText = false → b.length = 9 + (Ord.rdPart b).2.2.length) ∧ ((Ord.rdPart b).2.1.isText = true → b.length ≤ 3 + 2 * (Ord.rdPart b).2.1.text.size + (Ord.rdPart b).2.2.length) := by
  cases b with
  | nil => simp [Ord.rdPart] at h
  | cons c r =>
    unfold Ord.rdPart at h ⊢
    by_cases h1 : c = 1
    · simp only [if_pos h1] at h ⊢
      by_cases h8 : r.length < 8
      · simp [h8] at h
      · simp only [if_neg h8, List.length_cons, List.length_drop]
        refine ⟨by omega, fun _ => by omega, (fun h => by cases h)⟩
    · simp only [if_neg h1] at h ⊢
      by_cases h2 : c = 2
      · simp only [if_pos h2] at h ⊢
        have h3 := text_long r.length r (Nat.le_refl _) h
        have h4 : (ByteArray.mk (Ord.rdText r).2.1.toArray).size = (Ord.rdText r).2.1.length := by simp [ByteArray.size]
        rw [h4]
        simp only [List.length_cons]
        refine ⟨by omega, (fun h => by cases h), fun _ => by omega⟩
      · simp [h2] at h
theorem all_two {n : Nat} {b : List UInt8} {p q : Ord.PartD} (h : Ord.rdAllN n b = (0, [p, q])) (hn : b.length ≤ n) : (Ord.rdPart b).1 = 0 ∧ (Ord.rdPart b).2.1 = p ∧ (Ord.rdPart (Ord.rdPart b).2.2).1 = 0 ∧ (Ord.rdPart (Ord.rdPart b).2.2).2.1 = q ∧ (Ord.rdPart (Ord.rdPart b).2.2).2.2 = [] := by
  have key : ∀ (n : Nat) (b : List UInt8) (p : Ord.PartD) (t : List Ord.PartD), Ord.rdAllN n b = (0, p :: t) → (Ord.rdPart b).1 = 0 ∧ (Ord.rdPart b).2.1 = p ∧ ∃ m, n = m + 1 ∧ Ord.rdAllN m (Ord.rdPart b).2.2 = (0, t) := by
    intro n b p t h
    cases n with
    | zero => simp [Ord.rdAllN] at h
    | succ m =>
      unfold Ord.rdAllN at h
      by_cases hb : b = []
      · simp [hb] at h
      · simp only [if_neg hb] at h
        by_cases h1 : (Ord.rdPart b).1 = 0
        · simp only [if_pos h1] at h
          by_cases h2 : (Ord.rdAllN m (Ord.rdPart b).2.2).1 = 0
          · simp only [if_pos h2, Prod.mk.injEq, List.cons.injEq, true_and] at h
            exact ⟨h1, h.1, m, rfl, Prod.ext h2 h.2⟩
          · simp only [if_neg h2, Prod.mk.injEq] at h
            exact absurd h.1 h2
        · simp only [if_neg h1, Prod.mk.injEq] at h
          exact absurd h.1 h1
  obtain ⟨h1, h2, m, rfl, h3⟩ := key n b p [q] h
  obtain ⟨h4, h5, m', rfl, h6⟩ := key m _ q [] h3
  refine ⟨h1, h2, h4, h5, ?_⟩
  obtain ⟨k1, hk1, hk1', hr1⟩ := Ord.rdPart_rest h1
  obtain ⟨k2, hk2, hk2', hr2⟩ := Ord.rdPart_rest h4
  generalize (Ord.rdPart (Ord.rdPart b).2.2).2.2 = z at *
  by_cases hz : z = []
  · exact hz
  · exfalso
    have hlen : z.length ≤ m' := by rw [hr2, hr1]; simp only [List.length_drop]; omega
    cases m' with
    | zero => exact hz (List.length_eq_zero_iff.1 (by omega))
    | succ m' =>
      unfold Ord.rdAllN at h6
      simp only [if_neg hz] at h6
      by_cases h7 : (Ord.rdPart z).1 = 0
      · simp only [if_pos h7] at h6
        by_cases h8 : (Ord.rdAllN m' (Ord.rdPart z).2.2).1 = 0
        · simp [if_pos h8] at h6
        · simp only [if_neg h8, Prod.mk.injEq] at h6; exact h8 h6.1
      · simp only [if_neg h7, Prod.mk.injEq] at h6; exact h7 h6.1
theorem key_long {l : List UInt8} (h : (Ord.splitOf l).2.2 = 0) : l.length ≤ 92 := by
  unfold Ord.splitOf at h
  by_cases h1 : (Ord.rdAll l).1 = 0
  · rw [if_pos h1] at h
    cases hk : Ord.keyOf (Ord.rdAll l).2 with
    | none => rw [hk] at h; cases h
    | some x =>
      obtain ⟨t, s⟩ := x
      obtain ⟨p, q, hl, hp, hq, _, hs, _, _, hs40⟩ := Ord.key_two hk
      obtain ⟨g1, g2, g3, g4, g5⟩ := all_two (n := l.length) (b := l) (p := p) (q := q) (Prod.ext h1 hl) (Nat.le_refl _)
      have f1 := (part_long g1).2.1 (by rw [g2]; exact hp)
      have f2 := (part_long g3).2.2 (by rw [g4]; exact hq)
      rw [g4, g5, hs] at f2
      simp only [List.length_nil] at f2
      omega
  · rw [if_neg h1] at h; exact absurd h h1
theorem may_key {v : Ver} (h : mayV v = true) : v.key.size ≤ 92 := by
  have := key_long (mayV_iff h).1
  simpa using this

end Go.Proofs.YtefjdmlmmoeoaaaGreat
/- Layer 6: a version's bytes, by the project. -/
namespace Go.Proofs.YtefjdmlmmoeoaaaGreat
open Go.RowKit
set_option linter.unusedVariables false

end Go.Proofs.YtefjdmlmmoeoaaaGreat
/- Layer 6: a version read, by the project. -/
namespace Go.Proofs.YtefjdmlmmoeoaaaGreat
open Go.RowKit
set_option linter.unusedVariables false

theorem RdR.below {w w' : World} {base g B : Nat} {p : Value} {l : List UInt8} {e : Int} (h : RdR w base g p l e) (hb : Below B w w') (hB : g < B) : RdR w' base g p l e := by
  obtain ⟨h1, h2, h3, h4, h5, h6, sl, h7, h8, h9⟩ := h
  exact ⟨h1, Nat.lt_of_lt_of_le h2 hb.size, h3, (hb.cell (p := ⟨g, 1, none⟩) hB).trans h4, (hb.frozen (p := ⟨g, 0, none⟩) hB).trans h5, (hb.frozen (p := ⟨g, 1, none⟩) hB).trans h6, sl, (hb.cell (p := ⟨g, 0, none⟩) hB).trans h7, h8.below (hb.mono (Nat.le_of_lt hB)), h9⟩

end Go.Proofs.YtefjdmlmmoeoaaaGreat
/- Layer 6: all versions of bytes, by the document. -/
namespace Go.Proofs.YtefjdmlmmoeoaaaGreat
open Go.RowKit
set_option linter.unusedVariables false

/-- The document's reader, just made. -/
theorem RdQ.made (w : World) (A : Option Addr) (c : Nat) (l : List UInt8) (h : RdB w w.heap.size (.slice A l.length c) l) :
    RdQ (w.alloc (.cells #[.slice A l.length c, .int .i64 0, .int .i64 0] 73)) w.heap.size (.pointer (some ⟨w.heap.size, 0, none⟩)) l 0 0 := by
  have hn := heap_alloc_new w (.cells #[.slice A l.length c, .int .i64 0, .int .i64 0] 73)
  refine ⟨rfl, by simp, ?_, ?_, ?_, ?_, Nat.zero_le _, .slice A l.length c, ?_, h.below (alloc_below w _)⟩
  · rw [cell_of_row _ _ _ _ _ (0, 0) hn]; rfl
  · rw [cell_of_row _ _ _ _ _ (0, 0) hn]; rfl
  · simp
  · simp
  · rw [cell_of_row _ _ _ _ _ (0, 0) hn]; rfl

end Go.Proofs.YtefjdmlmmoeoaaaGreat
/- Layer 6: versions' bytes, by the project. -/
namespace Go.Proofs.YtefjdmlmmoeoaaaGreat
open Go.RowKit
set_option linter.unusedVariables false

end Go.Proofs.YtefjdmlmmoeoaaaGreat
/- Layer 6: plain facts on the order of versions. -/
namespace Go.Proofs.YtefjdmlmmoeoaaaGreat
open Go.RowKit
set_option linter.unusedVariables false

/-- c tells an order: of each two, and of three. -/
structure Tells {α : Type} (c : α → α → Int) : Prop where
  anti : ∀ a b, c b a = - c a b
  trans : ∀ a b d, c a b ≤ 0 → c b d ≤ 0 → c a d ≤ 0
theorem Tells.refl {α : Type} {c : α → α → Int} (h : Tells c) (a : α) : c a a = 0 := by have := h.anti a a; omega
def lex (x y : Int) : Int := if x ≠ 0 then x else y
theorem Tells.lex {α : Type} {c d : α → α → Int} (h : Tells c) (k : Tells d) : Tells fun a b => lex (c a b) (d a b) := by
  refine ⟨fun a b => ?_, fun a b e h1 h2 => ?_⟩
  · simp only [Go.Proofs.YtefjdmlmmoeoaaaGreat.lex]
    rw [h.anti a b, k.anti a b]
    by_cases h0 : c a b = 0
    · simp [h0]
    · rw [if_pos (by omega), if_pos h0]
  · simp only [Go.Proofs.YtefjdmlmmoeoaaaGreat.lex] at h1 h2 ⊢
    have t1 := h.trans a b e
    have t2 := h.trans b e a
    have t3 := h.trans e a b
    have a1 := h.anti a b
    have a2 := h.anti b e
    have a3 := h.anti a e
    have t4 := k.trans a b e
    split at h1 <;> split at h2 <;> split <;> omega
theorem cmpInt_zero {a b : Int} : Ord.cmpInt a b = 0 ↔ a = b := by
  unfold Ord.cmpInt; split
  · constructor <;> intro h <;> omega
  · split <;> constructor <;> intro h <;> omega
theorem less_trans (a b c : List UInt8) (h : Op.bytesLess a b = true) (k : Op.bytesLess b c = true) : Op.bytesLess a c = true := by
  induction a generalizing b c with
  | nil =>
    cases c with
    | nil => cases b <;> simp [Op.bytesLess] at k
    | cons z n => simp [Op.bytesLess]
  | cons x l ih =>
    cases b with
    | nil => simp [Op.bytesLess] at h
    | cons y m =>
      cases c with
      | nil => simp [Op.bytesLess] at k
      | cons z n =>
        simp only [Op.bytesLess, Bool.or_eq_true, decide_eq_true_eq, Bool.and_eq_true, beq_iff_eq] at h k ⊢
        rcases h with h | ⟨rfl, h⟩ <;> rcases k with k | ⟨rfl, k⟩
        · left; rw [UInt8.lt_iff_toNat_lt] at *; omega
        · left; exact h
        · left; exact k
        · right; exact ⟨rfl, ih _ _ h k⟩
theorem cmpStr_lt' {a b : List UInt8} (h : Op.bytesLess a b = true) : Ord.cmpStr a b = -1 := by simp [Ord.cmpStr, h]
theorem cmpStr_gt' {a b : List UInt8} (h : Op.bytesLess b a = true) : Ord.cmpStr a b = 1 := by
  have h1 := Ord.less_asymm _ _ h
  have h2 : a ≠ b := by rintro rfl; simp [Ord.less_irrefl] at h
  simp [Ord.cmpStr, h1, h2]
theorem cmpStr_eq' (a : List UInt8) : Ord.cmpStr a a = 0 := by simp [Ord.cmpStr, Ord.less_irrefl]
theorem str_three (a b : List UInt8) : (Op.bytesLess a b = true ∧ Ord.cmpStr a b = -1) ∨ (a = b ∧ Ord.cmpStr a b = 0) ∨ (Op.bytesLess b a = true ∧ Ord.cmpStr a b = 1) := by
  by_cases h : Op.bytesLess a b = true
  · exact .inl ⟨h, cmpStr_lt' h⟩
  · by_cases e : a = b
    · subst e; exact .inr (.inl ⟨rfl, cmpStr_eq' a⟩)
    · have := Ord.less_total a b (by simpa using h) e
      exact .inr (.inr ⟨this, cmpStr_gt' this⟩)
theorem cmpStr_zero {a b : List UInt8} : Ord.cmpStr a b = 0 ↔ a = b := by
  rcases str_three a b with ⟨h, e⟩ | ⟨h, e⟩ | ⟨h, e⟩
  · constructor
    · omega
    · rintro rfl; simp [Ord.less_irrefl] at h
  · simp [h, cmpStr_eq']
  · constructor
    · omega
    · rintro rfl; simp [Ord.less_irrefl] at h
theorem str_tells : Tells Ord.cmpStr := by
  refine ⟨fun a b => ?_, fun a b d h k => ?_⟩
  · rcases str_three a b with ⟨h, e⟩ | ⟨h, e⟩ | ⟨h, e⟩
    · rw [e, cmpStr_gt' h]; rfl
    · subst h; rw [e]; rfl
    · rw [e, cmpStr_lt' h]
  · rcases str_three a b with ⟨h1, e1⟩ | ⟨h1, e1⟩ | ⟨h1, e1⟩
    · rcases str_three b d with ⟨h2, e2⟩ | ⟨h2, e2⟩ | ⟨h2, e2⟩
      · rw [cmpStr_lt' (less_trans _ _ _ h1 h2)]; omega
      · subst h2; exact h
      · omega
    · subst h1; exact k
    · omega

def cmpV (a b : Ver) : Int := lex (Ord.cmpStr a.key.toList b.key.toList) (lex (Ord.cmpInt a.b b.b) (lex (Ord.cmpInt a.e b.e) (lex (Ord.cmpInt a.s b.s) (Ord.cmpInt a.sp.1 b.sp.1))))
theorem bytes_listR (a b : ByteArray) : (a.toList = b.toList) ↔ a = b := by
  constructor
  · intro e
    rw [ByteArray.toList_eq, ByteArray.toList_eq] at e
    obtain ⟨⟨x⟩⟩ := a
    obtain ⟨⟨y⟩⟩ := b
    simp at e
    subst e
    rfl
  · intro e; rw [e]

def lessV (a b : Ver) : Bool := if a.key ≠ b.key then Op.bytesLess a.key.toList b.key.toList else if a.b ≠ b.b then decide (a.b < b.b) else if a.e ≠ b.e then decide (a.e < b.e) else if a.s ≠ b.s then decide (a.s < b.s) else decide (a.sp.1 < b.sp.1)
theorem cmpInt_neg (a b : Int) : Ord.cmpInt a b < 0 ↔ a < b := by unfold Ord.cmpInt; split; simp_all; split <;> simp_all
theorem cmpStr_neg (a b : List UInt8) : Ord.cmpStr a b < 0 ↔ Op.bytesLess a b = true := by
  rcases str_three a b with ⟨h, e⟩ | ⟨h, e⟩ | ⟨h, e⟩
  · simp [h, e]
  · subst h; simp [e, Ord.less_irrefl]
  · simp [e, Ord.less_asymm _ _ h]
theorem lex_neg (x y : Int) : lex x y < 0 ↔ x < 0 ∨ (x = 0 ∧ y < 0) := by
  unfold lex
  by_cases h : x = 0
  · simp [h]
  · simp [h]
theorem lessV_iff (a b : Ver) : lessV a b = decide (cmpV a b < 0) := by
  rw [Bool.eq_iff_iff, decide_eq_true_iff]
  unfold lessV cmpV
  rw [lex_neg, lex_neg, lex_neg, lex_neg, cmpStr_neg, cmpStr_zero, cmpInt_neg, cmpInt_neg, cmpInt_neg, cmpInt_neg, cmpInt_zero, cmpInt_zero, cmpInt_zero, bytes_listR]
  by_cases h0 : a.key = b.key
  · rw [if_neg (fun h => h h0)]
    simp only [h0, Ord.less_irrefl, Bool.false_eq_true, false_or, true_and]
    by_cases h1 : a.b = b.b
    · rw [if_neg (fun h => h h1)]
      simp only [h1, Int.lt_irrefl, false_or, true_and]
      by_cases h2 : a.e = b.e
      · rw [if_neg (fun h => h h2)]
        simp only [h2, Int.lt_irrefl, false_or, true_and]
        by_cases h3 : a.s = b.s
        · rw [if_neg (fun h => h h3)]
          simp [h3]
        · rw [if_pos h3]; simp [h3]
      · rw [if_pos h2]; simp [h2]
    · rw [if_pos h1]; simp [h1]
  · rw [if_pos h0]; simp [h0]
def firstN (l : List Int) : Int := l.foldr lex 0
theorem firstN_five (a b c d e : Int) : firstN [a, b, c, d, e] = lex a (lex b (lex c (lex d e))) := by
  simp only [firstN, List.foldr]
  have : lex e 0 = e := by unfold lex; split <;> omega
  rw [this]
end Go.Proofs.YtefjdmlmmoeoaaaGreat
/- Layer 6: the order of versions, by the project and by the document. -/
namespace Go.Proofs.YtefjdmlmmoeoaaaGreat
open Go.RowKit
set_option linter.unusedVariables false

set_option maxHeartbeats 1000000 in
theorem row_first (va : Value) (l : List Int) (w : World) (ha : RdI w w.heap.size va l) (hl : l.length ≤ 1000000) :
    Calls Tryz.prog 75 #[va] w fun e w' => e = .returned (.int .i64 (firstN l)) ∧ Below w.heap.size w w' := by
  obtain ⟨A, c, rfl, hla, hc, hcell⟩ := ha
  go_enter Tryz.func75, Tryz.ntmps75
  go_wp2_with fail
  go_loopw [7] (fun i wr => ∃ k : Nat, i = .int .i64 k ∧ k ≤ l.length ∧ firstN l = firstN (l.drop k) ∧ Below w.heap.size w wr) (fun i _ => l.length - (intOf i).toNat)
  case atStart => exact ⟨0, rfl, Nat.zero_le _, rfl, Below.refl _ _⟩
  case round =>
    obtain ⟨k, rfl, hk, hf, hb⟩ := hrel
    have HF := Lib.hid hf
    have G := Lib.hid hb
    clear hf hb
    by_cases hlt : k < l.length
    · obtain ⟨b, o, rfl, hbb, hcl⟩ := hcell (by omega)
      have c1 : wr.cell? ⟨b, o + k, none⟩ = some (.int .i64 l[k]) := (G.out.cell (p := ⟨b, o + k, none⟩) hbb).trans (hcl k l[k] (List.getElem?_eq_getElem hlt))
      have HS := Lib.hid (show firstN (l.drop k) = lex l[k] (firstN (l.drop (k + 1))) from by rw [List.drop_eq_getElem_cons hlt]; rfl)
      clear hcl hcell
      generalize l[k] = x at *
      by_cases hx : x = 0
      · subst hx
        have HZ := Lib.hid (show firstN l = firstN (l.drop (k + 1)) from by rw [HF.out, HS.out]; rfl)
        go_wp2_with fail
        go_roundw
        case rel => exact ⟨k + 1, by go_num, by omega, HZ.out, G.out⟩
        case measure => simp [intOf]; omega
      · have hne : (x != 0) = true := by simpa [bne] using hx
        have HZ := Lib.hid (show firstN l = x from by rw [HF.out, HS.out]; exact if_pos hx)
        go_wp2_with fail
        go_ret
        exact ⟨ret_int HZ.out.symm, G.out⟩
    · have HZ := Lib.hid (show firstN l = 0 from by rw [HF.out, List.drop_of_length_le (by omega)]; rfl)
      go_wp2_with fail
      go_ret
      exact ⟨ret_int HZ.out.symm, G.out⟩

set_option maxHeartbeats 4000000 in
theorem row_compare (a b : Ver) (w : World) :
    Calls Tryz.prog 50 #[verV a, verV b] w fun e w' => e = .returned (.int .i64 (cmpV a b)) ∧ Below w.heap.size w w' := by
  have HC := Lib.hid (show cmpV a b = firstN [Ord.cmpStr a.key.toList b.key.toList, Ord.cmpInt a.b b.b, Ord.cmpInt a.e b.e, Ord.cmpInt a.s b.s, Ord.cmpInt a.sp.1 b.sp.1] from (firstN_five _ _ _ _ _).symm)
  have K0 := Lib.hid (fun w => Ord.cmp_str a.key b.key w)
  have K1 := Lib.hid (fun w => Ord.cmp_int a.b b.b w)
  have K2 := Lib.hid (fun w => Ord.cmp_int a.e b.e w)
  have K3 := Lib.hid (fun w => Ord.cmp_int a.s b.s w)
  have K4 := Lib.hid (fun w => Ord.cmp_int a.sp.1 b.sp.1 w)
  generalize cmpV a b = res at *
  generalize Ord.cmpStr a.key.toList b.key.toList = q0 at *
  generalize Ord.cmpInt a.b b.b = q1 at *
  generalize Ord.cmpInt a.e b.e = q2 at *
  generalize Ord.cmpInt a.s b.s = q3 at *
  generalize Ord.cmpInt a.sp.1 b.sp.1 = q4 at *
  obtain ⟨k1, b1, e1, s1, ⟨x1, y1⟩, u1, g1⟩ := a
  obtain ⟨k2, b2, e2, s2, ⟨x2, y2⟩, u2, g2⟩ := b
  unfold verV
  simp only at *
  have B1 := Lib.hid (Box.new w #[.string k1, .int .i64 b1, .int .i64 e1, .int .i64 s1, .int .i64 x1, .int .i64 y1, .string u1, .bool g1] 55 _ rfl)
  have B1 := Lib.hid (B1.out.alloc (.cells #[.string k2, .int .i64 b2, .int .i64 e2, .int .i64 s2, .int .i64 x2, .int .i64 y2, .string u2, .bool g2] 55))
  have B2 := Lib.hid (Box.new (w.alloc (.cells #[.string k1, .int .i64 b1, .int .i64 e1, .int .i64 s1, .int .i64 x1, .int .i64 y1, .string u1, .bool g1] 55)) #[.string k2, .int .i64 b2, .int .i64 e2, .int .i64 s2, .int .i64 x2, .int .i64 y2, .string u2, .bool g2] 55 _ rfl)
  have G := Lib.hid ((alloc_below w (.cells #[.string k1, .int .i64 b1, .int .i64 e1, .int .i64 s1, .int .i64 x1, .int .i64 y1, .string u1, .bool g1] 55)).trans ((alloc_below (w.alloc (.cells #[.string k1, .int .i64 b1, .int .i64 e1, .int .i64 s1, .int .i64 x1, .int .i64 y1, .string u1, .bool g1] 55)) (.cells #[.string k2, .int .i64 b2, .int .i64 e2, .int .i64 s2, .int .i64 x2, .int .i64 y2, .string u2, .bool g2] 55)).mono (by simp)))
  have hs1 : (w.alloc (.cells #[.string k1, .int .i64 b1, .int .i64 e1, .int .i64 s1, .int .i64 x1, .int .i64 y1, .string u1, .bool g1] 55)).heap.size = w.heap.size + 1 := by simp
  rw [hs1] at B2
  clear hs1
  go_enter Tryz.func50, Tryz.ntmps50
  go_wp2_with fail
  generalize (w.alloc (.cells #[.string k1, .int .i64 b1, .int .i64 e1, .int .i64 s1, .int .i64 x1, .int .i64 y1, .string u1, .bool g1] 55)).alloc (.cells #[.string k2, .int .i64 b2, .int .i64 e2, .int .i64 s2, .int .i64 x2, .int .i64 y2, .string u2, .bool g2] 55) = w0 at *
  have B1 := Lib.hid (show Box w0.drew w.heap.size #[.string k1, .int .i64 b1, .int .i64 e1, .int .i64 s1, .int .i64 x1, .int .i64 y1, .string u1, .bool g1] 55 from B1.out)
  have B2 := Lib.hid (show Box w0.drew (w.heap.size + 1) #[.string k2, .int .i64 b2, .int .i64 e2, .int .i64 s2, .int .i64 x2, .int .i64 y2, .string u2, .bool g2] 55 from B2.out)
  have G := Lib.hid G.out.drew
-- REGION A
  refine reg_start (by kernel_rfl) ?_
  refine reg_take2 0 5 (v := ?_) (T' := ?_) (Later.refl _) (by kernel_rfl) (by kernel_rfl) (by kernel_rfl) (fun _ _ _ h => h) (fun o ho => ?_) ?_ ?_
  rotate_left 2
  · cases ho
    refine ⟨rfl, rfl, fun W hW => ?_⟩
    go_simp; (try with_reducible rfl)
  · simp only [List.setIfInBounds_toArray, List.set_cons_succ, List.set_cons_zero]; exact rfl
  refine reg_take2 1 6 (v := ?_) (T' := ?_) (Later.refl _) (by kernel_rfl) (by kernel_rfl) (by kernel_rfl) (fun _ _ _ h => h) (fun o ho => ?_) ?_ ?_
  rotate_left 2
  · cases ho
    refine ⟨rfl, rfl, fun W hW => ?_⟩
    have BW := B1.out.later hW
    have c := BW.cell 0 (.string k1) rfl
    go_simp; (try with_reducible rfl)
  · simp only [List.setIfInBounds_toArray, List.set_cons_succ, List.set_cons_zero]; exact rfl
  refine reg_take2 2 7 (v := ?_) (T' := ?_) (Later.refl _) (by kernel_rfl) (by kernel_rfl) (by kernel_rfl) (fun _ _ _ h => h) (fun o ho => ?_) ?_ ?_
  rotate_left 2
  · cases ho
    refine ⟨rfl, rfl, fun W hW => ?_⟩
    go_simp; (try with_reducible rfl)
  · simp only [List.setIfInBounds_toArray, List.set_cons_succ, List.set_cons_zero]; exact rfl
  refine reg_take2 3 8 (v := ?_) (T' := ?_) (Later.refl _) (by kernel_rfl) (by kernel_rfl) (by kernel_rfl) (fun _ _ _ h => h) (fun o ho => ?_) ?_ ?_
  rotate_left 2
  · cases ho
    refine ⟨rfl, rfl, fun W hW => ?_⟩
    have BW := B2.out.later hW
    have c := BW.cell 0 (.string k2) rfl
    go_simp; (try with_reducible rfl)
  · simp only [List.setIfInBounds_toArray, List.set_cons_succ, List.set_cons_zero]; exact rfl
  refine reg_take2 5 10 (v := ?_) (T' := ?_) (Later.refl _) (by kernel_rfl) (by kernel_rfl) (by kernel_rfl) (fun _ _ _ h => h) (fun o ho => ?_) ?_ ?_
  rotate_left 2
  · cases ho
    refine ⟨rfl, rfl, fun W hW => ?_⟩
    go_simp; (try with_reducible rfl)
  · simp only [List.setIfInBounds_toArray, List.set_cons_succ, List.set_cons_zero]; exact rfl
  refine reg_take2 6 11 (v := ?_) (T' := ?_) (Later.refl _) (by kernel_rfl) (by kernel_rfl) (by kernel_rfl) (fun _ _ _ h => h) (fun o ho => ?_) ?_ ?_
  rotate_left 2
  · cases ho
    refine ⟨rfl, rfl, fun W hW => ?_⟩
    go_simp; (try with_reducible rfl)
  · simp only [List.setIfInBounds_toArray, List.set_cons_succ, List.set_cons_zero]; exact rfl
  refine reg_take2 7 12 (v := ?_) (T' := ?_) (Later.refl _) (by kernel_rfl) (by kernel_rfl) (by kernel_rfl) (fun _ _ _ h => h) (fun o ho => ?_) ?_ ?_
  rotate_left 2
  · cases ho
    refine ⟨rfl, rfl, fun W hW => ?_⟩
    have BW := B1.out.later hW
    have c := BW.cell 1 (.int .i64 b1) rfl
    go_simp; (try with_reducible rfl)
  · simp only [List.setIfInBounds_toArray, List.set_cons_succ, List.set_cons_zero]; exact rfl
  refine reg_take2 8 13 (v := ?_) (T' := ?_) (Later.refl _) (by kernel_rfl) (by kernel_rfl) (by kernel_rfl) (fun _ _ _ h => h) (fun o ho => ?_) ?_ ?_
  rotate_left 2
  · cases ho
    refine ⟨rfl, rfl, fun W hW => ?_⟩
    go_simp; (try with_reducible rfl)
  · simp only [List.setIfInBounds_toArray, List.set_cons_succ, List.set_cons_zero]; exact rfl
  refine reg_take2 9 14 (v := ?_) (T' := ?_) (Later.refl _) (by kernel_rfl) (by kernel_rfl) (by kernel_rfl) (fun _ _ _ h => h) (fun o ho => ?_) ?_ ?_
  rotate_left 2
  · cases ho
    refine ⟨rfl, rfl, fun W hW => ?_⟩
    go_simp; (try with_reducible rfl)
  · simp only [List.setIfInBounds_toArray, List.set_cons_succ, List.set_cons_zero]; exact rfl
  refine reg_take2 10 15 (v := ?_) (T' := ?_) (Later.refl _) (by kernel_rfl) (by kernel_rfl) (by kernel_rfl) (fun _ _ _ h => h) (fun o ho => ?_) ?_ ?_
  rotate_left 2
  · cases ho
    refine ⟨rfl, rfl, fun W hW => ?_⟩
    have BW := B2.out.later hW
    have c := BW.cell 1 (.int .i64 b2) rfl
    go_simp; (try with_reducible rfl)
  · simp only [List.setIfInBounds_toArray, List.set_cons_succ, List.set_cons_zero]; exact rfl
  refine reg_take2 12 17 (v := ?_) (T' := ?_) (Later.refl _) (by kernel_rfl) (by kernel_rfl) (by kernel_rfl) (fun _ _ _ h => h) (fun o ho => ?_) ?_ ?_
  rotate_left 2
  · cases ho
    refine ⟨rfl, rfl, fun W hW => ?_⟩
    go_simp; (try with_reducible rfl)
  · simp only [List.setIfInBounds_toArray, List.set_cons_succ, List.set_cons_zero]; exact rfl
  refine reg_take2 13 18 (v := ?_) (T' := ?_) (Later.refl _) (by kernel_rfl) (by kernel_rfl) (by kernel_rfl) (fun _ _ _ h => h) (fun o ho => ?_) ?_ ?_
  rotate_left 2
  · cases ho
    refine ⟨rfl, rfl, fun W hW => ?_⟩
    go_simp; (try with_reducible rfl)
  · simp only [List.setIfInBounds_toArray, List.set_cons_succ, List.set_cons_zero]; exact rfl
  refine reg_take2 14 19 (v := ?_) (T' := ?_) (Later.refl _) (by kernel_rfl) (by kernel_rfl) (by kernel_rfl) (fun _ _ _ h => h) (fun o ho => ?_) ?_ ?_
  rotate_left 2
  · cases ho
    refine ⟨rfl, rfl, fun W hW => ?_⟩
    have BW := B1.out.later hW
    have c := BW.cell 2 (.int .i64 e1) rfl
    go_simp; (try with_reducible rfl)
  · simp only [List.setIfInBounds_toArray, List.set_cons_succ, List.set_cons_zero]; exact rfl
  refine reg_take2 15 20 (v := ?_) (T' := ?_) (Later.refl _) (by kernel_rfl) (by kernel_rfl) (by kernel_rfl) (fun _ _ _ h => h) (fun o ho => ?_) ?_ ?_
  rotate_left 2
  · cases ho
    refine ⟨rfl, rfl, fun W hW => ?_⟩
    go_simp; (try with_reducible rfl)
  · simp only [List.setIfInBounds_toArray, List.set_cons_succ, List.set_cons_zero]; exact rfl
  refine reg_take2 16 21 (v := ?_) (T' := ?_) (Later.refl _) (by kernel_rfl) (by kernel_rfl) (by kernel_rfl) (fun _ _ _ h => h) (fun o ho => ?_) ?_ ?_
  rotate_left 2
  · cases ho
    refine ⟨rfl, rfl, fun W hW => ?_⟩
    go_simp; (try with_reducible rfl)
  · simp only [List.setIfInBounds_toArray, List.set_cons_succ, List.set_cons_zero]; exact rfl
  refine reg_take2 17 22 (v := ?_) (T' := ?_) (Later.refl _) (by kernel_rfl) (by kernel_rfl) (by kernel_rfl) (fun _ _ _ h => h) (fun o ho => ?_) ?_ ?_
  rotate_left 2
  · cases ho
    refine ⟨rfl, rfl, fun W hW => ?_⟩
    have BW := B2.out.later hW
    have c := BW.cell 2 (.int .i64 e2) rfl
    go_simp; (try with_reducible rfl)
  · simp only [List.setIfInBounds_toArray, List.set_cons_succ, List.set_cons_zero]; exact rfl
  refine reg_take2 19 24 (v := ?_) (T' := ?_) (Later.refl _) (by kernel_rfl) (by kernel_rfl) (by kernel_rfl) (fun _ _ _ h => h) (fun o ho => ?_) ?_ ?_
  rotate_left 2
  · cases ho
    refine ⟨rfl, rfl, fun W hW => ?_⟩
    go_simp; (try with_reducible rfl)
  · simp only [List.setIfInBounds_toArray, List.set_cons_succ, List.set_cons_zero]; exact rfl
  refine reg_take2 20 25 (v := ?_) (T' := ?_) (Later.refl _) (by kernel_rfl) (by kernel_rfl) (by kernel_rfl) (fun _ _ _ h => h) (fun o ho => ?_) ?_ ?_
  rotate_left 2
  · cases ho
    refine ⟨rfl, rfl, fun W hW => ?_⟩
    go_simp; (try with_reducible rfl)
  · simp only [List.setIfInBounds_toArray, List.set_cons_succ, List.set_cons_zero]; exact rfl
  refine reg_take2 21 26 (v := ?_) (T' := ?_) (Later.refl _) (by kernel_rfl) (by kernel_rfl) (by kernel_rfl) (fun _ _ _ h => h) (fun o ho => ?_) ?_ ?_
  rotate_left 2
  · cases ho
    refine ⟨rfl, rfl, fun W hW => ?_⟩
    have BW := B1.out.later hW
    have c := BW.cell 3 (.int .i64 s1) rfl
    go_simp; (try with_reducible rfl)
  · simp only [List.setIfInBounds_toArray, List.set_cons_succ, List.set_cons_zero]; exact rfl
  refine reg_take2 22 27 (v := ?_) (T' := ?_) (Later.refl _) (by kernel_rfl) (by kernel_rfl) (by kernel_rfl) (fun _ _ _ h => h) (fun o ho => ?_) ?_ ?_
  rotate_left 2
  · cases ho
    refine ⟨rfl, rfl, fun W hW => ?_⟩
    go_simp; (try with_reducible rfl)
  · simp only [List.setIfInBounds_toArray, List.set_cons_succ, List.set_cons_zero]; exact rfl
  refine reg_take2 23 28 (v := ?_) (T' := ?_) (Later.refl _) (by kernel_rfl) (by kernel_rfl) (by kernel_rfl) (fun _ _ _ h => h) (fun o ho => ?_) ?_ ?_
  rotate_left 2
  · cases ho
    refine ⟨rfl, rfl, fun W hW => ?_⟩
    go_simp; (try with_reducible rfl)
  · simp only [List.setIfInBounds_toArray, List.set_cons_succ, List.set_cons_zero]; exact rfl
  refine reg_take2 24 29 (v := ?_) (T' := ?_) (Later.refl _) (by kernel_rfl) (by kernel_rfl) (by kernel_rfl) (fun _ _ _ h => h) (fun o ho => ?_) ?_ ?_
  rotate_left 2
  · cases ho
    refine ⟨rfl, rfl, fun W hW => ?_⟩
    have BW := B2.out.later hW
    have c := BW.cell 3 (.int .i64 s2) rfl
    go_simp; (try with_reducible rfl)
  · simp only [List.setIfInBounds_toArray, List.set_cons_succ, List.set_cons_zero]; exact rfl
  refine reg_take2 26 31 (v := ?_) (T' := ?_) (Later.refl _) (by kernel_rfl) (by kernel_rfl) (by kernel_rfl) (fun _ _ _ h => h) (fun o ho => ?_) ?_ ?_
  rotate_left 2
  · cases ho
    refine ⟨rfl, rfl, fun W hW => ?_⟩
    go_simp; (try with_reducible rfl)
  · simp only [List.setIfInBounds_toArray, List.set_cons_succ, List.set_cons_zero]; exact rfl
  refine reg_take2 27 32 (v := ?_) (T' := ?_) (Later.refl _) (by kernel_rfl) (by kernel_rfl) (by kernel_rfl) (fun _ _ _ h => h) (fun o ho => ?_) ?_ ?_
  rotate_left 2
  · cases ho
    refine ⟨rfl, rfl, fun W hW => ?_⟩
    go_simp; (try with_reducible rfl)
  · simp only [List.setIfInBounds_toArray, List.set_cons_succ, List.set_cons_zero]; exact rfl
  refine reg_take2 28 33 (v := ?_) (T' := ?_) (Later.refl _) (by kernel_rfl) (by kernel_rfl) (by kernel_rfl) (fun _ _ _ h => h) (fun o ho => ?_) ?_ ?_
  rotate_left 2
  · cases ho
    refine ⟨rfl, rfl, fun W hW => ?_⟩
    have BW := B1.out.later hW
    have c := BW.cell 4 (.int .i64 x1) rfl
    go_simp; (try with_reducible rfl)
  · simp only [List.setIfInBounds_toArray, List.set_cons_succ, List.set_cons_zero]; exact rfl
  refine reg_take2 29 34 (v := ?_) (T' := ?_) (Later.refl _) (by kernel_rfl) (by kernel_rfl) (by kernel_rfl) (fun _ _ _ h => h) (fun o ho => ?_) ?_ ?_
  rotate_left 2
  · cases ho
    refine ⟨rfl, rfl, fun W hW => ?_⟩
    go_simp; (try with_reducible rfl)
  · simp only [List.setIfInBounds_toArray, List.set_cons_succ, List.set_cons_zero]; exact rfl
  refine reg_take2 30 35 (v := ?_) (T' := ?_) (Later.refl _) (by kernel_rfl) (by kernel_rfl) (by kernel_rfl) (fun _ _ _ h => h) (fun o ho => ?_) ?_ ?_
  rotate_left 2
  · cases ho
    refine ⟨rfl, rfl, fun W hW => ?_⟩
    go_simp; (try with_reducible rfl)
  · simp only [List.setIfInBounds_toArray, List.set_cons_succ, List.set_cons_zero]; exact rfl
  refine reg_take2 31 36 (v := ?_) (T' := ?_) (Later.refl _) (by kernel_rfl) (by kernel_rfl) (by kernel_rfl) (fun _ _ _ h => h) (fun o ho => ?_) ?_ ?_
  rotate_left 2
  · cases ho
    refine ⟨rfl, rfl, fun W hW => ?_⟩
    have BW := B2.out.later hW
    have c := BW.cell 4 (.int .i64 x2) rfl
    go_simp; (try with_reducible rfl)
  · simp only [List.setIfInBounds_toArray, List.set_cons_succ, List.set_cons_zero]; exact rfl
  refine reg_call2 4 9 (Later.refl _) (by kernel_rfl) 76 #[.string k1, .string k2] (fun o ho => by cases ho; exact ⟨rfl, rfl, fun W => by go_simp⟩) ?_
  refine (K0.out _).mono ?_
  rintro z y1 ⟨rfl, rfl⟩
  refine ⟨_, _, rfl, Later.refl _, (by simp only [List.setIfInBounds_toArray, List.set_cons_succ, List.set_cons_zero]; exact rfl), ?_⟩
  refine reg_call2 11 16 (Later.refl _) (by kernel_rfl) 77 #[.int .i64 b1, .int .i64 b2] (fun o ho => by cases ho; exact ⟨rfl, rfl, fun W => by go_simp⟩) ?_
  refine (K1.out _).mono ?_
  rintro z y1 ⟨rfl, rfl⟩
  refine ⟨_, _, rfl, Later.refl _, (by simp only [List.setIfInBounds_toArray, List.set_cons_succ, List.set_cons_zero]; exact rfl), ?_⟩
  refine reg_call2 18 23 (Later.refl _) (by kernel_rfl) 77 #[.int .i64 e1, .int .i64 e2] (fun o ho => by cases ho; exact ⟨rfl, rfl, fun W => by go_simp⟩) ?_
  refine (K2.out _).mono ?_
  rintro z y1 ⟨rfl, rfl⟩
  refine ⟨_, _, rfl, Later.refl _, (by simp only [List.setIfInBounds_toArray, List.set_cons_succ, List.set_cons_zero]; exact rfl), ?_⟩
  refine reg_call2 25 30 (Later.refl _) (by kernel_rfl) 77 #[.int .i64 s1, .int .i64 s2] (fun o ho => by cases ho; exact ⟨rfl, rfl, fun W => by go_simp⟩) ?_
  refine (K3.out _).mono ?_
  rintro z y1 ⟨rfl, rfl⟩
  refine ⟨_, _, rfl, Later.refl _, (by simp only [List.setIfInBounds_toArray, List.set_cons_succ, List.set_cons_zero]; exact rfl), ?_⟩
  refine reg_call2 32 37 (Later.refl _) (by kernel_rfl) 77 #[.int .i64 x1, .int .i64 x2] (fun o ho => by cases ho; exact ⟨rfl, rfl, fun W => by go_simp⟩) ?_
  refine (K4.out _).mono ?_
  rintro z y1 ⟨rfl, rfl⟩
  refine ⟨_, _, rfl, Later.refl _, (by simp only [List.setIfInBounds_toArray, List.set_cons_succ, List.set_cons_zero]; exact rfl), ?_⟩
  refine reg_make2 33 38 (v := ?_) (w' := ?_) (T' := ?_) (Later.refl _) (by kernel_rfl) (fun o ho => ?_) ?_ ?_ ?_
  rotate_left 3
  · cases ho
    refine ⟨rfl, rfl, ?_⟩
    go_simp; constructor <;> with_reducible rfl
  · exact Later.alloc _ _
  · simp only [List.setIfInBounds_toArray, List.set_cons_succ, List.set_cons_zero]; exact rfl
  refine reg_call2 34 39 (Later.refl _) (by kernel_rfl) 75 #[.slice (some ⟨w0.heap.size, 0, none⟩) 5 5] (fun o ho => by cases ho; exact ⟨rfl, rfl, fun W => by go_simp⟩) ?_
  refine (row_first _ [q0, q1, q2, q3, q4] _ (RdV.lit w0.drew _ _ [q0, q1, q2, q3, q4] 5 _ rfl rfl (by simp) (by simp)) (by simp)).mono ?_
  rintro z x3 ⟨rfl, hb3⟩
  have hb5 := (alloc_below w0.drew _).trans (hb3.mono (by simp))
  have G := Lib.hid (G.out.trans (hb5.mono G.out.size))
  refine ⟨_, _, rfl, hb3, (by simp only [List.setIfInBounds_toArray, List.set_cons_succ, List.set_cons_zero]; exact rfl), ?_⟩
  clear hb3 hb5
  refine reg_take2 35 4 (v := ?_) (T' := ?_) (Later.refl _) (by kernel_rfl) (by kernel_rfl) (by kernel_rfl) (fun _ _ _ h => h) (fun o ho => ?_) ?_ ?_
  rotate_left 2
  · cases ho
    refine ⟨rfl, rfl, fun W hW => ?_⟩
    go_simp; (try with_reducible rfl)
  · simp only [List.setIfInBounds_toArray, List.set_cons_succ, List.set_cons_zero]; exact rfl
  refine reg_done (by kernel_rfl) ?_
-- DONE A
  go_wp2_with fail
  go_ret
  exact ⟨ret_int HC.out.symm, G.out⟩

set_option maxHeartbeats 4000000 in
theorem ref6_less (a b : Ver) (w : World) :
    Calls Tryz.prog 35 #[verV a, verV b] w fun e w' => e = .returned (.bool (lessV a b)) ∧ Below w.heap.size w w' := by
  obtain ⟨k1, b1, e1, s1, ⟨x1, y1⟩, u1, g1⟩ := a
  obtain ⟨k2, b2, e2, s2, ⟨x2, y2⟩, u2, g2⟩ := b
  unfold verV lessV
  simp only
  obtain ⟨res, hres⟩ : ∃ res : Bool, res = (if k1 ≠ k2 then Op.bytesLess k1.toList k2.toList else if b1 ≠ b2 then decide (b1 < b2) else if e1 ≠ e2 then decide (e1 < e2) else if s1 ≠ s2 then decide (s1 < s2) else decide (x1 < x2)) := ⟨_, rfl⟩
  rw [← hres]
  have G := Lib.hid ((alloc_below w (.cells #[.string k1, .int .i64 b1, .int .i64 e1, .int .i64 s1, .int .i64 x1, .int .i64 y1, .string u1, .bool g1] 55)).trans ((alloc_below _ (.cells #[.string k2, .int .i64 b2, .int .i64 e2, .int .i64 s2, .int .i64 x2, .int .i64 y2, .string u2, .bool g2] 55)).mono (by simp)))
  by_cases hk : k1 = k2
  · rw [if_neg (fun h => h hk)] at hres
    by_cases hb : b1 = b2
    · rw [if_neg (fun h => h hb)] at hres
      by_cases he : e1 = e2
      · rw [if_neg (fun h => h he)] at hres
        by_cases hs : s1 = s2
        · rw [if_neg (fun h => h hs)] at hres
          subst hk hb he hs
          have HR := Lib.hid hres
          clear hres
          go_enter Tryz.func35, Tryz.ntmps35
          go_wp2
          all_goals go_ret
          all_goals exact ⟨ret_bool (by rw [HR.out]), G.out⟩
        · rw [if_pos hs] at hres
          subst hk hb he
          have hne : (s1 != s2) = true := by simpa [bne] using hs
          have HR := Lib.hid hres
          clear hres hs
          go_enter Tryz.func35, Tryz.ntmps35
          go_wp2
          all_goals go_ret
          all_goals exact ⟨ret_bool (by rw [HR.out]), G.out⟩
      · rw [if_pos he] at hres
        subst hk hb
        have hne : (e1 != e2) = true := by simpa [bne] using he
        have HR := Lib.hid hres
        clear hres he
        go_enter Tryz.func35, Tryz.ntmps35
        go_wp2
        all_goals go_ret
        all_goals exact ⟨ret_bool (by rw [HR.out]), G.out⟩
    · rw [if_pos hb] at hres
      subst hk
      have hne : (b1 != b2) = true := by simpa [bne] using hb
      have HR := Lib.hid hres
      clear hres hb
      go_enter Tryz.func35, Tryz.ntmps35
      go_wp2
      all_goals go_ret
      all_goals exact ⟨ret_bool (by rw [HR.out]), G.out⟩
  · rw [if_pos hk] at hres
    have hne : (k1.toList == k2.toList) = false := by rw [beq_eq_false_iff_ne]; exact fun e => hk ((bytes_listR _ _).1 e)
    have HR := Lib.hid hres
    clear hres hk
    go_enter Tryz.func35, Tryz.ntmps35
    go_wp2
    all_goals go_ret
    all_goals exact ⟨ret_bool (by rw [HR.out]), G.out⟩
end Go.Proofs.YtefjdmlmmoeoaaaGreat
/- Layer 6: the document's example; the first 500 bytes. -/
namespace Go.Proofs.YtefjdmlmmoeoaaaGreat
open Go.RowKit
set_option linter.unusedVariables false

end Go.Proofs.YtefjdmlmmoeoaaaGreat
/- Layer 6: arguments that are versions, slices of versions. -/
namespace Go.Proofs.YtefjdmlmmoeoaaaGreat
open Go.RowKit Go.ChangeShapes Go.WideShapes Go.Deep
set_option linter.unusedVariables false

section
variable {H : Type} {enc : TypeId × Value → H} {w : World} {base : Nat} {spare : Nat → Bool} {held : Bool}
end

section
variable {H : Type} {enc : TypeId × Value → H} {W : World} {v : Value} {d : DataW H} {p : List MemPlace} {r : Reach} {b0 : Nat}
end
end Go.Proofs.YtefjdmlmmoeoaaaGreat
/- Layer 6: what the laws call: a version cut, two versions compared. -/
namespace Go.Proofs.YtefjdmlmmoeoaaaGreat
open Go.RowKit
set_option linter.unusedVariables false

/-- A version stored in a box, cell by cell. -/
theorem box_put8 {w : World} {n : Nat} {t : TypeId} {a0 a1 a2 a3 a4 a5 a6 a7 b0 b1 b2 b3 b4 b5 b6 b7 : Value} (h : Box w n #[a0, a1, a2, a3, a4, a5, a6, a7] t) : Box ((((((((w.setCell ⟨n, 0, none⟩ b0).setCell ⟨n, 1, none⟩ b1).setCell ⟨n, 2, none⟩ b2).setCell ⟨n, 3, none⟩ b3).setCell ⟨n, 4, none⟩ b4).setCell ⟨n, 5, none⟩ b5).setCell ⟨n, 6, none⟩ b6).setCell ⟨n, 7, none⟩ b7) n #[b0, b1, b2, b3, b4, b5, b6, b7] t := by
  have h8 := ((((((((h.set 0 b0).set 1 b1).set 2 b2).set 3 b3).set 4 b4).set 5 b5).set 6 b6).set 7 b7)
  simp only [List.setIfInBounds_toArray, List.set_cons_succ, List.set_cons_zero] at h8
  exact h8
theorem below_put8 {w0 w : World} {B n : Nat} (b0 b1 b2 b3 b4 b5 b6 b7 : Value) (h : Below B w0 w) (hn : B ≤ n) : Below B w0 ((((((((w.setCell ⟨n, 0, none⟩ b0).setCell ⟨n, 1, none⟩ b1).setCell ⟨n, 2, none⟩ b2).setCell ⟨n, 3, none⟩ b3).setCell ⟨n, 4, none⟩ b4).setCell ⟨n, 5, none⟩ b5).setCell ⟨n, 6, none⟩ b6).setCell ⟨n, 7, none⟩ b7) := ((((((((h.setCell (p := ⟨n, 0, none⟩) hn b0).setCell (p := ⟨n, 1, none⟩) hn b1).setCell (p := ⟨n, 2, none⟩) hn b2).setCell (p := ⟨n, 3, none⟩) hn b3).setCell (p := ⟨n, 4, none⟩) hn b4).setCell (p := ⟨n, 5, none⟩) hn b5).setCell (p := ⟨n, 6, none⟩) hn b6).setCell (p := ⟨n, 7, none⟩) hn b7)
theorem grown_put8 (w : World) (n : Nat) (b0 b1 b2 b3 b4 b5 b6 b7 : Value) : w.grownBy ((((((((w.setCell ⟨n, 0, none⟩ b0).setCell ⟨n, 1, none⟩ b1).setCell ⟨n, 2, none⟩ b2).setCell ⟨n, 3, none⟩ b3).setCell ⟨n, 4, none⟩ b4).setCell ⟨n, 5, none⟩ b5).setCell ⟨n, 6, none⟩ b6).setCell ⟨n, 7, none⟩ b7) (some n) := ((((((((grown_set (g := n) w 0 b0).trans (grown_set (g := n) _ 1 b1)).trans (grown_set (g := n) _ 2 b2)).trans (grown_set (g := n) _ 3 b3)).trans (grown_set (g := n) _ 4 b4)).trans (grown_set (g := n) _ 5 b5)).trans (grown_set (g := n) _ 6 b6)).trans (grown_set (g := n) _ 7 b7))
end Go.Proofs.YtefjdmlmmoeoaaaGreat
