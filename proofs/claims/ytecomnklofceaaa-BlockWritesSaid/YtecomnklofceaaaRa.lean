/- Layer 6: the document's reader of chapter 2, whose index is anywhere, with an error or without: a number, what is left. Written by gen_ra.py. -/
import Derived.Test.YtecomnklofceaaaVg
import Derived.Test.YtecomnklofceaaaVV
namespace Go.Proofs.Ytecomnklofceaaa
open Go.RowKit
set_option linter.unusedVariables false

theorem grown_of_below {w w' : World} {row : Option Nat} (h : Below w.heap.size w w') : w.grownBy w' row := ⟨h.os, h.tape, h.output, h.size, fun i hi _ => h.block i hi⟩
/-- p is the document's reader, in block g, of the bytes m, at q, with the error e. -/
structure RdQ (w : World) (g : Nat) (p : Value) (m : List UInt8) (q : Nat) (e : Int) : Prop where
  ptr : p = .pointer (some ⟨g, 0, none⟩)
  lt : g < w.heap.size
  at' : w.cell? ⟨g, 1, none⟩ = some (.int .i64 q)
  err : w.cell? ⟨g, 2, none⟩ = some (.int .i64 e)
  frz1 : w.frozen? ⟨g, 1, none⟩ = false
  frz2 : w.frozen? ⟨g, 2, none⟩ = false
  le : q ≤ m.length
  left : ∃ sl, w.cell? ⟨g, 0, none⟩ = some sl ∧ RdB w g sl m

theorem RdQ.on {w w' : World} {g q : Nat} {p : Value} {m : List UInt8} {e : Int} (h : RdQ w g p m q e) (hb : Below w.heap.size w w') : RdQ w' g p m q e := by
  obtain ⟨h1, h2, h3, h4, h5, h6, hq, sl, h7, h8⟩ := h
  exact ⟨h1, Nat.lt_of_lt_of_le h2 hb.size, (hb.cell (p := ⟨g, 1, none⟩) h2).trans h3, (hb.cell (p := ⟨g, 2, none⟩) h2).trans h4, (hb.frozen (p := ⟨g, 1, none⟩) h2).trans h5, (hb.frozen (p := ⟨g, 2, none⟩) h2).trans h6, hq, sl, (hb.cell (p := ⟨g, 0, none⟩) h2).trans h7, h8.below (hb.mono (Nat.le_of_lt h2))⟩
theorem RdQ.set_at {w : World} {g q : Nat} {p : Value} {m : List UInt8} {e : Int} (h : RdQ w g p m q e) (n : Nat) (v : Int) (hv : v = n) (hn : n ≤ m.length) : RdQ (w.setCell ⟨g, 1, none⟩ (.int .i64 v)) g p m n e := by
  subst hv
  obtain ⟨h1, h2, h3, h4, h5, h6, hq, sl, h7, h8⟩ := h
  exact ⟨h1, by simpa using h2, World.cell?_setCell_same _ _ _ h3, (World.cell?_setCell_other _ _ _ _ (by simp)).trans h4, by simpa using h5, by simpa using h6, hn, sl, (World.cell?_setCell_other _ _ _ _ (by simp)).trans h7, h8.below (below_set w 1 _)⟩
theorem RdQ.set_err {w : World} {g q : Nat} {p : Value} {m : List UInt8} {e : Int} (h : RdQ w g p m q e) (e' : Int) : RdQ (w.setCell ⟨g, 2, none⟩ (.int .i64 e')) g p m q e' := by
  obtain ⟨h1, h2, h3, h4, h5, h6, hq, sl, h7, h8⟩ := h
  exact ⟨h1, by simpa using h2, (World.cell?_setCell_other _ _ _ _ (by simp)).trans h3, World.cell?_setCell_same _ _ _ h4, by simpa using h5, by simpa using h6, hq, sl, (World.cell?_setCell_other _ _ _ _ (by simp)).trans h7, h8.below (below_set w 2 _)⟩

set_option maxHeartbeats 400000 in
theorem fail_doc2 (w : World) (g : Nat) (p : Value) (m : List UInt8) (q : Nat) (e : Int) (h : RdQ w g p m q 0) :
    Calls Try.prog 57 #[p, .int .i64 e] w fun x w' => x = .returned (.tuple #[]) ∧ RdQ w' g p m q e ∧ w.grownBy w' (some g) := by
  have H := Lib.hid h
  obtain ⟨rfl, h2, h3, h4, h5, h6, hq, sl, h7, h8⟩ := h
  clear h8
  go_enter Try.func57, Try.ntmps57
  go_wp2
  go_end0
  exact ⟨rfl, H.out.set_err e, grown_set w 2 _⟩

/-- What Number tells at q, where it is then, and its error. -/
def stepQ (m : List UInt8) (q : Nat) (e : Int) : Nat × Nat × Int := if e ≠ 0 then (0, q, e) else if (rdN (m.drop q)).2.2 ≠ 0 then (0, q, (rdN (m.drop q)).2.2) else ((rdN (m.drop q)).1, q + (rdN (m.drop q)).2.1, 0)
theorem stepQ_bad {m : List UInt8} {q : Nat} {c : Int} (h : rdN (m.drop q) = (0, 0, c)) (hc : c ≠ 0) : stepQ m q 0 = (0, q, c) := by
  unfold stepQ; rw [if_neg (by simp), h, if_pos hc]
theorem stepQ_good {m : List UInt8} {q N k : Nat} (h : rdN (m.drop q) = (N, k, 0)) : stepQ m q 0 = (N, q + k, 0) := by
  unfold stepQ; rw [if_neg (by simp), h, if_neg (by simp)]
theorem stepQ_err {m : List UInt8} {q : Nat} {e : Int} (h : e ≠ 0) : stepQ m q e = (0, q, e) := if_pos h

theorem val_step (l : List UInt8) (k j : Nat) (hj : j ≤ k) (hjl : j < l.length) : valN ((l.take (k + 1)).drop j) = l[j].toNat % 128 + 128 * valN ((l.take (k + 1)).drop (j + 1)) := by
  have h : j < (l.take (k + 1)).length := by rw [List.length_take]; omega
  rw [List.drop_eq_getElem_cons h, valN, List.getElem_take]
theorem val_bound (l : List UInt8) (k j : Nat) (hj : j ≤ k) (hk : k ≤ 8) : valN ((l.take (k + 1)).drop (j + 1)) < 72057594037927936 := by
  have h1 := valN_lt ((l.take (k + 1)).drop (j + 1))
  have h2 : ((l.take (k + 1)).drop (j + 1)).length ≤ 8 := by rw [List.length_drop, List.length_take]; omega
  have h3 := Nat.pow_le_pow_right (show 0 < 128 from by omega) h2
  exact Nat.lt_of_lt_of_le h1 (by simpa using h3)

set_option maxHeartbeats 4000000 in
set_option maxRecDepth 1000000 in
theorem number_doc0 (w : World) (g : Nat) (p : Value) (m : List UInt8) (q : Nat) (h : RdQ w g p m q 0) (hl : m.length ≤ 1000000) :
    Calls Try.prog 36 #[p] w fun x w' => x = .returned (.int .i64 (stepQ m q 0).1) ∧ RdQ w' g p m (stepQ m q 0).2.1 (stepQ m q 0).2.2 ∧ w.grownBy w' (some g) := by
  have H := Lib.hid h
  obtain ⟨rfl, h2, h3, h4, h5, h6, hq, sl, h7, h8⟩ := h
  clear h8
  obtain ⟨l, hl0⟩ : ∃ l, l = m.drop q := ⟨_, rfl⟩
  have hL : q + l.length = m.length := by rw [hl0, List.length_drop]; omega
  have hget : ∀ k (h : k < l.length), m[q + k]? = some l[k] := fun k h => by
    subst hl0
    rw [List.getElem_drop, List.getElem?_eq_getElem]
  have BADQ := Lib.hid (fun (c : Int) (h : rdN l = (0, 0, c)) (hc : c ≠ 0) => stepQ_bad (m := m) (q := q) (by rw [← hl0]; exact h) hc)
  have GOODQ := Lib.hid (fun (N k : Nat) (h : rdN l = (N, k, 0)) => stepQ_good (m := m) (q := q) (by rw [← hl0]; exact h))
  clear hl0
  go_enter Try.func36, Try.ntmps36
  go_wp2
  go_loopw [3] (fun i wr => ∃ k : Nat, i = .int .i64 k ∧ k ≤ 9 ∧ k ≤ l.length ∧ (∀ x ∈ l.take k, 128 ≤ x.toNat) ∧ Below w.heap.size w wr) (fun i _ => 9 - (intOf i).toNat)
  case atStart => exact ⟨0, rfl, by omega, by omega, by simp, Below.refl _ _⟩
  case round =>
    obtain ⟨k, rfl, hk9, hk, hall, hbw⟩ := hrel
    have D := H.out.on hbw
    have HALL := Lib.hid hall
    have G := Lib.hid hbw
    have HD := Lib.hid D
    obtain ⟨-, d2, d3, d4, d5, d6, -, sl', d7, d8⟩ := D
    have hsl : sl' = sl := by
      have := hbw.cell (p := ⟨g, 0, none⟩) h2
      rw [d7, h7] at this; injection this
    subst hsl
    clear h3 h4 h5 h6 h7 hall hbw
    have hd8 := d8
    have HD8 := Lib.hid d8
    obtain ⟨A, c, rfl, -, -, hcell⟩ := d8
    by_cases hlt : k < l.length
    · obtain ⟨b, o, rfl, hb, hcell2⟩ := hcell (by omega)
      have c1 : wr.cell? ⟨b, o + (q + k), none⟩ = some (.int .u8 (l[k].toNat : Int)) := hcell2 (q + k) l[k] (hget k hlt)
      have hsn : l.take (k + 1) = l.take k ++ [l[k]] := List.take_succ_eq_append_getElem hlt
      clear hcell hcell2 hd8
      have HLE := Lib.hid (show q + (k + 1) ≤ m.length from by omega)
      by_cases h9 : k < 9
      · by_cases h128 : 128 ≤ l[k].toNat
        · have HS := Lib.hid (show ∀ x ∈ l.take (k + 1), 128 ≤ x.toNat from by
            rw [hsn]; intro x hx; rcases List.mem_append.1 hx with hx | hx
            · exact HALL.out x hx
            · simp at hx; subst hx; exact h128)
          clear hsn
          generalize l[k] = x at *
          have hx1 : (128 : Int) ≤ (x.toNat : Int) := by omega
          have hx256 := x.toNat_lt
          have zl : decide ((q : Int) + (k : Int) < (m.length : Int)) = true := by simp; omega
          have z9 : decide ((k : Int) < 9) = true := by simp; omega
          have zx : decide ((128 : Int) ≤ (x.toNat : Int)) = true := by simp; omega
          go_wp2_with fail
          go_quiet (fail)
          go_wp2_with fail
          go_roundw
          case rel => exact ⟨k + 1, by go_num, by omega, by omega, HS.out, G.out.drewN _⟩
          case measure => simp [intOf]; omega
        · have HR := Lib.hid (rdN_at l k (by omega) (by omega) HALL.out)
          rw [List.drop_eq_getElem_cons hlt] at HR
          have hN := valN_append (l.take k) [l[k]]
          have hNl := valN_lt (l.take (k + 1))
          have hlk : (l.take k).length = k := by rw [List.length_take]; omega
          have hlk1 : (l.take (k + 1)).length = k + 1 := by rw [List.length_take]; omega
          have hval := valN_lt (l.take k)
          rw [← hsn, hlk] at hN
          rw [hlk1] at hNl
          rw [hlk] at hval
          have hb1 : (128 : Nat) ^ (k + 1) ≤ 9223372036854775808 := by
            have := Nat.pow_le_pow_right (show 0 < 128 from by omega) (show k + 1 ≤ 9 from by omega)
            simpa using this
          have zl : decide ((q : Int) + (k : Int) < (m.length : Int)) = true := by simp; omega
          have z9 : decide ((k : Int) < 9) = true := by simp; omega
          have zx : decide ((128 : Int) ≤ (l[k].toNat : Int)) = false := by simp; omega
          have zk9 : ((k : Int) == 9) = false := by simp; omega
          have zge : decide ((m.length : Int) ≤ (q : Int) + (k : Int)) = false := by simp; omega
          clear hsn
          go_wp2_with fail
          go_quiet (fail)
          go_wp2_with fail
          go_quiet (fail)
          go_wp2_with fail
          go_loopw [4, 5] (fun n i ws => ∃ N : Nat, n = .int .i64 N ∧ ((∃ j : Nat, i = .int .i64 j ∧ j ≤ k ∧ N = valN ((l.take (k + 1)).drop (j + 1))) ∨ (i = .int .i64 (-1) ∧ N = valN (l.take (k + 1)))) ∧ Below w.heap.size w ws) (fun _ i _ => (intOf i + 1).toNat)
          case atStart => exact ⟨0, rfl, .inl ⟨k, rfl, Nat.le_refl _, by rw [List.drop_of_length_le (by omega)]; rfl⟩, (G.out.drewN _).drewN _⟩
          case round =>
            obtain ⟨N, rfl, hN2, hbs⟩ := hrel
            have D2 := H.out.on hbs
            have GS := Lib.hid hbs
            have HD2 := Lib.hid D2
            obtain ⟨-, e2, e3, e4, e5, e6, -, sl2, e7, e8⟩ := D2
            have hs2 : sl2 = .slice (some ⟨b, o, none⟩) m.length c := by
              have := (hbs.cell (p := ⟨g, 0, none⟩) h2).trans (G.out.cell (p := ⟨g, 0, none⟩) h2).symm
              rw [e7, d7] at this; injection this
            subst hs2
            clear d2 d3 d4 d5 d6 d7 c1 hbs
            rcases hN2 with ⟨j, rfl, hj, hN3⟩ | ⟨rfl, hN3⟩
            · have hjl : j < l.length := by omega
              obtain ⟨A', c', e1, -, -, hcl⟩ := e8
              obtain ⟨b', o', e2', hb', hcl⟩ := hcl (by omega)
              cases e1
              cases e2'
              have cj : wr.cell? ⟨b, o + (q + j), none⟩ = some (.int .u8 (l[j].toNat : Int)) := hcl (q + j) l[j] (hget j hjl)
              have hst := val_step l k j hj hjl
              have hNb := val_bound l k j hj (by omega)
              rw [← hN3] at hst hNb
              have HST := Lib.hid hst
              have hNI : (N : Int) < 72057594037927936 := by omega
              have hx256 := l[j].toNat_lt
              clear hcl hst hN3 hNb
              generalize l[j] = y at *
              by_cases hj0 : j = 0
              · subst hj0
                rw [Nat.add_zero] at cj
                go_wp2_with fail
                go_quiet (fail)
                go_wp2_with fail
                go_roundw
                case rel => exact ⟨128 * N + y.toNat % 128, by go_num, .inr ⟨by go_num, by have := HST.out; rw [List.drop_zero] at this; omega⟩, GS.out.drewN _⟩
                case measure => simp [intOf]
              · go_wp2_with fail
                go_quiet (fail)
                go_wp2_with fail
                go_roundw
                case rel => exact ⟨128 * N + y.toNat % 128, by go_num, .inl ⟨j - 1, by go_num, by omega, by rw [show j - 1 + 1 = j from by omega, HST.out]; omega⟩, GS.out.drewN _⟩
                case measure => first | (simp [intOf]; done) | (simp [intOf]; omega)
            · have hNv : N = valN (l.take k) + l[k].toNat % 128 * 128 ^ k := by
                rw [hN3, hN]; simp [valN, Nat.mul_comm]
              have hfew := few_iff (valN (l.take k)) (l[k].toNat % 128) k hval (Nat.mod_lt _ (by omega))
              have hN63 : N < 9223372036854775808 := by omega
              rw [← hNv] at hfew
              have hbad : (4611686018427387904 ≤ N ∨ (l[k].toNat = 0 ∧ 0 < k)) → rdN l = (0, 0, 2) := fun h => by
                rw [HR.out]; exact rdGo_bad _ _ _ _ (by omega) h128 (by rw [← hNv]; exact h)
              have hgood : ¬ (4611686018427387904 ≤ N ∨ (l[k].toNat = 0 ∧ 0 < k)) → rdN l = (N, k + 1, 0) := fun h => by
                rw [HR.out, rdGo_end _ _ _ _ (by omega) h128 (by rw [← hNv]; exact h), ← hNv]
              rw [show l[k].toNat % 128 = l[k].toNat from by omega] at hfew
              generalize l[k].toNat = y at *
              have HF := Lib.hid hfew
              have HBAD := Lib.hid hbad
              have HGOOD := Lib.hid hgood
              clear hfew hbad hgood hNv hN hNl hlk hlk1 hval hb1 e8 hN3 zx z9 zl
              by_cases hbig : 4611686018427387904 ≤ N
              · have hz := Lib.hid (HBAD.out (.inl hbig))
                have hI : (4611686018427387904 : Int) ≤ (N : Int) := by omega
                clear hbig hN63
                go_wp2_with (go_at_call 57; refine (fail_doc2 _ g _ m q 2 HD2.out).mono ?_; rintro x w2 ⟨rfl, hq2, hb2⟩; have hq2 := Lib.hid hq2)
                go_ret
                rw [BADQ.out _ hz.out (by decide)]
                exact ⟨rfl, hq2.out, (grown_of_below GS.out).trans hb2⟩
              · have hI : decide ((4611686018427387904 : Int) ≤ (N : Int)) = false := by rw [decide_eq_false_iff_not]; omega
                have hP := Lib.hid (ref_put_nat N wr hN63)
                by_cases hzz : y = 0 ∧ 0 < k
                · have hz := Lib.hid (HBAD.out (.inr hzz))
                  have hne : (encN N).length ≠ k + 1 := fun h => (HF.out.1 h) hzz
                  clear hbig hN63 hzz
                  go_wp2_with (first
                    | (go_at_call 31; refine hP.out.mono ?_; rintro e w3 ⟨v3, rfl, ho3, hb3⟩; obtain ⟨A3, c3, hv3, -⟩ := own_cap ho3; subst hv3; have hz3 := HD2.out.on hb3; clear ho3
                       have hne3 : (((encN N).length : Int) != (k : Int) + 1) = true := by simp; omega
                       generalize (encN N).length = M at *)
                    | (go_at_call 57; refine (fail_doc2 _ g _ m q 2 hz3).mono ?_; rintro x w2 ⟨rfl, hq2, hb2⟩; have hq2 := Lib.hid hq2))
                  go_ret
                  rw [BADQ.out _ hz.out (by decide)]
                  exact ⟨rfl, hq2.out, (grown_of_below ((GS.out).trans (hb3.mono GS.out.size))).trans hb2⟩
                · have hz := Lib.hid (HGOOD.out (by intro h; rcases h with h | h; exact hbig h; exact hzz h))
                  have heq : (encN N).length = k + 1 := HF.out.2 hzz
                  clear hbig hN63 hzz
                  go_wp2_with (go_at_call 31; refine hP.out.mono ?_; rintro e w3 ⟨v3, rfl, ho3, hb3⟩; obtain ⟨A3, c3, hv3, -⟩ := own_cap ho3; subst hv3; have hz3 := HD2.out.on hb3; clear ho3
                               have hne3 : (((encN N).length : Int) != (k : Int) + 1) = false := by simp; omega
                               generalize (encN N).length = M at *
                               have HZ3 := Lib.hid hz3
                               obtain ⟨-, f2, f3, f4, f5, f6, -, sl3, f7, f8⟩ := hz3
                               clear f8)
                  go_ret
                  rw [GOODQ.out _ _ hz.out]
                  exact ⟨rfl, (HZ3.out).set_at _ _ (by go_num) HLE.out, (grown_of_below ((GS.out).trans (hb3.mono GS.out.size))).trans (grown_set _ 1 _)⟩
      · have hk : k = 9 := by omega
        subst hk
        have HR := Lib.hid (show rdN l = (0, 0, 2) from by rw [rdN_at l 9 (by omega) (by omega) HALL.out, rdGo_nine])
        clear hsn
        have zl : decide ((q : Int) + (9 : Int) < (m.length : Int)) = true := by simp; omega
        go_wp2_with fail
        go_quiet (fail)
        go_wp2_with (go_at_call 57; refine (fail_doc2 _ g _ m q 2 (HD.out.on ((Below.refl _ _).drewN _))).mono ?_; rintro x w2 ⟨rfl, hq2, hb2⟩; have hq2 := Lib.hid hq2)
        go_ret
        rw [BADQ.out _ HR.out (by decide)]
        exact ⟨rfl, hq2.out, (grown_of_below (G.out.drewN _)).trans hb2⟩
    · have hk0 : k = l.length := by omega
      have zl : decide ((q : Int) + (k : Int) < (m.length : Int)) = false := by simp; omega
      have hdr : l.drop k = [] := List.drop_of_length_le (by omega)
      by_cases h9 : k = 9
      · subst h9
        have HR := Lib.hid (show rdN l = (0, 0, 2) from by rw [rdN_at l 9 (by omega) (by omega) HALL.out, rdGo_nine])
        have zl : decide ((q : Int) + (9 : Int) < (m.length : Int)) = false := by simp; omega
        clear hdr hk0 hd8
        go_wp2_with fail
        go_quiet (fail)
        go_wp2_with (go_at_call 57; refine (fail_doc2 _ g _ m q 2 (HD.out.on ((Below.refl _ _).drewN _))).mono ?_; rintro x w2 ⟨rfl, hq2, hb2⟩; have hq2 := Lib.hid hq2)
        go_ret
        rw [BADQ.out _ HR.out (by decide)]
        exact ⟨rfl, hq2.out, (grown_of_below (G.out.drewN _)).trans hb2⟩
      · have HR := Lib.hid (show rdN l = (0, 0, 3) from by rw [rdN_at l k (by omega) (by omega) HALL.out, hdr, rdGo_nil _ _ h9])
        have zk9 : ((k : Int) == 9) = false := by simp; omega
        have zge : decide ((m.length : Int) ≤ (q : Int) + (k : Int)) = true := by simp; omega
        clear hdr hk0 hd8
        go_wp2_with fail
        go_quiet (fail)
        go_wp2_with fail
        go_quiet (fail)
        go_wp2_with (go_at_call 57; refine (fail_doc2 _ g _ m q 3 (HD.out.on ((Below.refl _ _).drewN _))).mono ?_; rintro x w2 ⟨rfl, hq2, hb2⟩; have hq2 := Lib.hid hq2)
        go_ret
        rw [BADQ.out _ HR.out (by decide)]
        exact ⟨rfl, hq2.out, (grown_of_below (G.out.drewN _)).trans hb2⟩

set_option maxHeartbeats 400000 in
theorem number_doc (w : World) (g : Nat) (p : Value) (m : List UInt8) (q : Nat) (e : Int) (h : RdQ w g p m q e) (hl : m.length ≤ 1000000) :
    Calls Try.prog 36 #[p] w fun x w' => x = .returned (.int .i64 (stepQ m q e).1) ∧ RdQ w' g p m (stepQ m q e).2.1 (stepQ m q e).2.2 ∧ w.grownBy w' (some g) := by
  by_cases he : e = 0
  · subst he; exact number_doc0 w g p m q h hl
  · rw [stepQ_err he]
    have H := Lib.hid h
    obtain ⟨rfl, h2, h3, h4, h5, h6, hq, sl, h7, h8⟩ := h
    clear h8
    go_enter Try.func36, Try.ntmps36
    go_wp2
    go_ret
    exact ⟨rfl, H.out, World.grownBy.refl w _⟩
end Go.Proofs.Ytecomnklofceaaa
