/- Layer 1: a tuple's bytes, read. -/
import Derived.Test.YtlpakooogbaclaaOA
import Derived.ChangeSlices
import Derived.Laws.Runes
import Derived.Lib.ConvBytes
namespace Go.Proofs.Ytlpakooogbaclaa.Ord
open Go.RowKit
set_option linter.unusedVariables false

def lenOf : Value → Nat | .slice _ n _ => n | _ => 0

end Go.Proofs.Ytlpakooogbaclaa.Ord
/- Layer 1: a number's bytes, as the document's answer reads them. -/
namespace Go.Proofs.Ytlpakooogbaclaa.Ord
open Go.RowKit
set_option linter.unusedVariables false

theorem eight {l : List UInt8} (h : l.length = 8) : ∃ x0 x1 x2 x3 x4 x5 x6 x7, l = [x0, x1, x2, x3, x4, x5, x6, x7] := by
  match l, h with
  | [x0, x1, x2, x3, x4, x5, x6, x7], _ => exact ⟨x0, x1, x2, x3, x4, x5, x6, x7, rfl⟩

set_option maxHeartbeats 1600000 in
set_option maxRecDepth 1000000 in
theorem ref_value (B : Nat) (v : Value) (l : List UInt8) (w : World) (h : RdB w B v l) (h8 : l.length = 8) :
    Calls Try.prog 103 #[v] w fun e w' => e = .returned (.int .i64 (decNum l)) ∧ w = w' := by
  obtain ⟨x0, x1, x2, x3, x4, x5, x6, x7, rfl⟩ := eight h8
  obtain ⟨A, c, rfl, hlc, hc, hcell⟩ := h
  obtain ⟨b, o, rfl, hb, hcell⟩ := hcell (by simp)
  have c0 := hcell 0 x0 rfl
  have c1 := hcell 1 x1 rfl
  have c2 := hcell 2 x2 rfl
  have c3 := hcell 3 x3 rfl
  have c4 := hcell 4 x4 rfl
  have c5 := hcell 5 x5 rfl
  have c6 := hcell 6 x6 rfl
  have c7 := hcell 7 x7 rfl
  rw [Nat.add_zero] at c0
  have l0 := x0.toNat_lt
  have l1 := x1.toNat_lt
  have l2 := x2.toNat_lt
  have l3 := x3.toNat_lt
  have l4 := x4.toNat_lt
  have l5 := x5.toNat_lt
  have l6 := x6.toNat_lt
  have l7 := x7.toNat_lt
  have hd : decNum [x0, x1, x2, x3, x4, x5, x6, x7] = 256 * (256 * (256 * (256 * (256 * (256 * (256 * x0.toNat + x1.toNat) + x2.toNat) + x3.toNat) + x4.toNat) + x5.toNat) + x6.toNat) + x7.toNat - 9223372036854775808 := by
    simp only [decNum, List.foldl_cons, List.foldl_nil]; omega
  have HD := Lib.hid hd
  simp only [List.length_cons, List.length_nil] at *
  clear hcell hd h8
  by_cases hx : x0.toNat < 128
  · go_enter Try.func103, Try.ntmps103
    go_wp2
    go_rounds 8
    go_ret
    exact ⟨ret_int (by rw [HD.out]; omega), rfl⟩
  · have hx2 : decide ((x0.toNat : Int) < 128) = false := by simp; omega
    go_enter Try.func103, Try.ntmps103
    go_wp2
    go_rounds 8
    go_ret
    exact ⟨ret_int (by rw [HD.out]; omega), rfl⟩
end Go.Proofs.Ytlpakooogbaclaa.Ord
/- Layer 1: a tuple's bytes, as the document's answer reads them. -/
namespace Go.Proofs.Ytlpakooogbaclaa.Ord
open Go.RowKit
set_option linter.unusedVariables false

/-- 'v[k:m]': what it is, in whatever world, and that it reads so. -/
theorem sl_mid {w : World} {B : Nat} {v : Value} {l : List UInt8} (h : RdB w B v l) (k m : Nat) (y z : Int) (hy : y = (k : Int)) (hz : z = (m : Int)) (hkm : k ≤ m) (hm : m ≤ l.length) :
    ∃ A c, (∀ W, (Instr.slice 127 v (some (.int .i64 y)) (some (.int .i64 z)) none).run Try.prog W = .ok (.slice A (m - k) c) W) ∧ RdB w B (.slice A (m - k) c) ((l.drop k).take (m - k)) := by
  subst hy hz
  obtain ⟨A, c, rfl, h1, h2, h3⟩ := h
  have ht : Try.prog.underlying 127 = some (.slice (Try.prog.elem 127)) := by simp [Program.elem, Try.underlying127]
  have he : Try.prog.elem 127 = 5 := by simp [Program.elem, Try.underlying127]
  have hl : ((l.drop k).take (m - k)).length = m - k := by rw [List.length_take, List.length_drop]; omega
  refine ⟨if c = k then A else A.map (·.add k), c - k, fun W => ?_, ⟨_, c - k, by rw [hl], by rw [hl]; omega, by omega, fun hp => ?_⟩⟩
  · rw [run_slice_lh W _ _ _ _ ht _ _ _ _ (by omega) (by omega) (by omega), he, u8_size]
    simp [Result.andThen, sliced]
  · rw [hl] at hp
    obtain ⟨b, o, rfl, hb, hc⟩ := h3 (by omega)
    refine ⟨b, o + k, ?_, hb, fun j u hu => ?_⟩
    · rw [if_neg (by omega)]; simp [addr_plain]
    · rw [Nat.add_assoc]
      rw [List.getElem?_take] at hu
      split at hu
      · rw [List.getElem?_drop] at hu; exact hc (k + j) u hu
      · cases hu

/-- Rows of two element types lie in two blocks. -/
theorem own_ne {w : World} {base base' : Nat} {v u : Value} {s : List PartD} {t : List UInt8} (h : OwnP w base v s) (k : OwnB w base' u t) : v.ownBlock = none ∨ v.ownBlock ≠ u.ownBlock := by
  rcases h.2 with ⟨rfl, _⟩ | ⟨g, cap, cur, rfl, _, hg, _⟩
  · exact .inl rfl
  · rcases k.2 with ⟨rfl, _⟩ | ⟨g', cap', cur', rfl, _, hg', _⟩
    · exact .inr (by simp [Value.ownBlock])
    · refine .inr fun e => ?_
      have : g = g' := by simpa [Value.ownBlock] using e
      subst this
      rw [hg] at hg'
      injection hg' with h1
      injection h1 with _ h2
      exact absurd h2 (by decide)

def ovOf : Value → Nat | .bool true => 0 | _ => 1

theorem rdPart_num {l : List UInt8} {k : Nat} (h : k < l.length) (h1 : l[k] = 1) (h8 : k + 1 + 8 ≤ l.length) : rdPart (l.drop k) = (0, ⟨false, decNum ((l.drop (k + 1)).take 8), ⟨#[]⟩⟩, l.drop (k + 9)) := by
  rw [drop_at h, h1]
  have : ¬ (l.drop (k + 1)).length < 8 := by rw [List.length_drop]; omega
  simp only [rdPart, if_true, if_neg this, List.drop_drop]
theorem rdPart_numshort {l : List UInt8} {k : Nat} (h : k < l.length) (h1 : l[k] = 1) (h8 : l.length < k + 1 + 8) : rdPart (l.drop k) = (3, ⟨false, 0, ⟨#[]⟩⟩, []) := by
  rw [drop_at h, h1]
  have : (l.drop (k + 1)).length < 8 := by rw [List.length_drop]; omega
  simp only [rdPart, if_true, if_pos this]
theorem rdPart_text {l : List UInt8} {k : Nat} (h : k < l.length) (h1 : l[k] = 2) : rdPart (l.drop k) = ((rdText (l.drop (k + 1))).1, ⟨true, 0, ⟨(rdText (l.drop (k + 1))).2.1.toArray⟩⟩, (rdText (l.drop (k + 1))).2.2) := by
  rw [drop_at h, h1]
  simp only [rdPart, if_true, show ¬ (2 : UInt8) = 1 from by decide, if_false]
theorem rdPart_bad {l : List UInt8} {k : Nat} (h : k < l.length) (h1 : l[k] ≠ 1) (h2 : l[k] ≠ 2) : rdPart (l.drop k) = (2, ⟨false, 0, ⟨#[]⟩⟩, []) := by
  rw [drop_at h]
  simp only [rdPart, if_neg h1, if_neg h2]

set_option maxHeartbeats 3200000 in
set_option maxRecDepth 1000000 in
theorem ref_read (v : Value) (l : List UInt8) (w : World) (h : RdB w w.heap.size v l) (hl : l.length ≤ 1000000) :
    Calls Try.prog 94 #[v] w fun e w' => ∃ v', e = .returned (.tuple #[v', .int .i64 (rdAll l).1]) ∧ RdParts w' w'.heap.size v' (rdAll l).2 ∧ Below w.heap.size w w' := by
  have H := Lib.hid h
  obtain ⟨A, c, rfl, hlc, hc, -⟩ := h
  go_enter Try.func94, Try.ntmps94
  go_wp2
  go_loopw [4, 5] (fun x i wr => ∃ (k : Nat) (s : List PartD), k ≤ l.length ∧ s.length ≤ k ∧ i = .int .i64 k ∧ preAll s (rdAll (l.drop k)) = rdAll l ∧ OwnP wr w.heap.size x s ∧ Below w.heap.size w wr) (fun _ i _ => l.length - (intOf i).toNat)
  case atStart => exact ⟨0, [], Nat.zero_le _, Nat.le_refl _, rfl, preAll_nil l, OwnP.nil w _, Below.refl _ _⟩
  case round =>
    obtain ⟨k, s, hk, hsl, rfl, hp, ho, hbw⟩ := hrel
    obtain ⟨wo, rfl⟩ : ∃ wo : World, wo = wr := ⟨_, rfl⟩
    have hgs := hbw.size
    have HR := Lib.hid (H.out.below hbw)
    have HO := Lib.hid ho
    have HW := Lib.hid hbw
    clear ho hbw
    by_cases hlt : k < l.length
    · have hne : l.drop k ≠ [] := fun h0 => by have := congrArg List.length h0; rw [List.length_drop] at this; simp at this; omega
      rw [rdAll_step hne] at hp
      obtain ⟨A', c', e1, _, _, hcell⟩ := HR.out
      obtain ⟨b, o, rfl, hb, hcell⟩ := hcell (by omega)
      cases e1
      have c1 := hcell k l[k] (List.getElem?_eq_getElem hlt)
      have z1 := u8_beq (c := l[k]) (d := 1) (n := 1) rfl
      have z2 := u8_beq (c := l[k]) (d := 2) (n := 2) rfl
      clear hne hcell
      by_cases h1 : l[k] = 1
      · have hd : decide (l[k] = 1) = true := by simpa using h1
        rw [hd] at z1
        clear hd z2
        by_cases h8 : k + 1 + 8 ≤ l.length
        · rw [rdPart_num hlt h1 h8] at hp
          simp only [if_true] at hp
          have HPQ := Lib.hid hp
          obtain ⟨A2, c2, hsl2, hr2⟩ := sl_mid HR.out (k + 1) (k + 1 + 8) ((k : Int) + 1) ((k : Int) + 1 + 8) (by omega) (by omega) (by omega) h8
          have e8 : k + 1 + 8 - (k + 1) = 8 := by omega
          rw [e8] at hsl2 hr2
          have HR2 := Lib.hid hr2
          have hl8 := Lib.hid (show ((l.drop (k + 1)).take 8).length = 8 by rw [List.length_take, List.length_drop]; omega)
          clear hp h1 e8 hr2
          generalize l[k] = c9 at c1 z1
          go_wp2_with (first
            | (go_at_call 103; refine (ref_value _ _ _ _ HR2.out hl8.out).mono ?_; rintro e w1 ⟨rfl, rfl⟩)
            | (at_builtin; refine wpl_appg rfl (.tmp 26) (.tmp 34) rfl Try.underlying124 part_info rfl (by omega) u4 _ _ wo.heap.size 1 1 [.bool false, .int .i64 (decNum ((l.drop (k + 1)).take 8)), .string ⟨#[]⟩] rfl rfl rfl (blk_new _ _ _ (by simp)) (one_cells ⟨false, _, _⟩) (HO.out.alloc _) ?_ ?_ ?_ ?_; rotate_left 3; intro v2 w2 ho2 hg2 hs2))
          · have hb3 : Below w.heap.size w w2 := (HW.out.alloc (by omega) _).trans (hg2.below (by simp; omega) (OwnP.base HO.out))
            have HB3 := Lib.hid hb3
            clear hb3
            go_roundw
            case rel =>
              refine ⟨k + 9, s ++ [⟨false, decNum ((l.drop (k + 1)).take 8), ⟨#[]⟩⟩], by omega, by simp; omega, by go_num, HPQ.out, ?_, HB3.out⟩
              unfold OwnP
              rw [pcells_append, List.length_append]
              exact ho2
            case measure => simp [intOf]; omega
          all_goals first | omega | (simp; omega)
        · rw [rdPart_numshort hlt h1 (by omega)] at hp
          have HPQ := Lib.hid (show ((3 : Int), ([] : List PartD)) = rdAll l from by rw [← hp]; rfl)
          clear hp h1
          generalize l[k] = c9 at c1 z1
          go_wp2
          go_ret2
          exact ⟨.slice none 0 0, by rw [← HPQ.out]; rfl, by rw [← HPQ.out]; exact rd_none _ _, HW.out⟩
      · have hd : decide (l[k] = 1) = false := by simpa using h1
        rw [hd] at z1
        clear hd
        by_cases h2 : l[k] = 2
        · have hd2 : decide (l[k] = 2) = true := by simpa using h2
          rw [hd2] at z2
          rw [rdPart_text hlt h2] at hp
          have HPP := Lib.hid hp
          clear hp hd2 h1 h2
          generalize l[k] = c9 at c1 z1 z2
          go_wp2
          go_loopw [5, 7, 8] (fun i x ov wr => ∃ (j : Nat) (t : List UInt8), k < j ∧ j ≤ l.length ∧ t.length ≤ j ∧ i = .int .i64 j ∧ OwnB wr w.heap.size x t ∧ OwnP wr w.heap.size u4 s ∧ Below w.heap.size w wr ∧
            ((ov = .bool false ∧ preText t (rdText (l.drop j)) = rdText (l.drop (k + 1))) ∨ (ov = .bool true ∧ (0, t, l.drop j) = rdText (l.drop (k + 1))))) (fun i _ ov _ => l.length - (intOf i).toNat + ovOf ov)
          case atStart => exact ⟨k + 1, [], by omega, by omega, by simp, by go_num, OwnB.nil _ _, HO.out, HW.out, .inl ⟨rfl, preText_nil _⟩⟩
          case round =>
            obtain ⟨j, t, hkj, hj, htj, rfl, hot, hos, hbw2, hov⟩ := hrel
            have hgs2 := hbw2.size
            have HT := Lib.hid hot
            have HS := Lib.hid hos
            have HW2 := Lib.hid hbw2
            have HR2 := Lib.hid (H.out.below hbw2)
            clear hot hos hbw2
            rcases hov with ⟨rfl, hq⟩ | ⟨rfl, hq⟩
            · by_cases hjl : j < l.length
              · obtain ⟨A', c', e1, _, _, hcell⟩ := HR2.out
                obtain ⟨b', o', e2, hb', hcell⟩ := hcell (by omega)
                cases e1
                cases e2
                have d1 := hcell j l[j] (List.getElem?_eq_getElem hjl)
                have y0 := u8_beq (c := l[j]) (d := 0) (n := 0) rfl
                by_cases hz : l[j] = 0
                · have hd3 : decide (l[j] = 0) = true := by simpa using hz
                  rw [hd3] at y0
                  have y9 : (l[j].toNat : Int) = 0 := by rw [hz]; rfl
                  by_cases hj2 : j + 1 < l.length
                  · have d2 := hcell (j + 1) l[j + 1] (List.getElem?_eq_getElem hj2)
                    have x255 := u8_beq (c := l[j + 1]) (d := 255) (n := 255) rfl
                    have x1 := u8_beq (c := l[j + 1]) (d := 1) (n := 1) rfl
                    rw [drop_two hj2, hz] at hq
                    clear hcell hd3 z1 z2 c1
                    by_cases h255 : l[j + 1] = 255
                    · have hd4 : decide (l[j + 1] = 255) = true := by simpa using h255
                      rw [hd4] at x255
                      have hd5 : decide (l[j + 1] = 1) = false := by rw [h255]; decide
                      rw [hd5] at x1
                      rw [h255, rdText_esc] at hq
                      have HQ := Lib.hid hq
                      have w255 : ((l[j + 1].toNat : Int) != 255) = false := by simp [bne, x255]
                      clear hq hd4 hd5 h255 hz
                      generalize l[j + 1] = d at d2 x255 x1 w255
                      generalize l[j] = c8 at d1 y0 y9
                      go_wp2_with (at_builtin; refine wpl_app rfl (.tmp 96) (.tmp 97) rfl w.heap.size _ t [0] _ _ _ rfl rfl rfl rfl HT.out ?_ ?_ ?_; rotate_left 2; intro v1 w1 ho1 hg1 hgs1)
                      · have hb1 : Below w.heap.size wr w1 := hg1.below (by omega) (OwnB.base HT.out)
                        have HB1 := Lib.hid (HW2.out.trans hb1)
                        have hne : (Value.ownBlock u4 = none) ∨ Value.ownBlock u4 ≠ Value.ownBlock u7 := own_ne HS.out HT.out
                        have HS1 := Lib.hid (show OwnP w1 w.heap.size u4 s from HS.out.kept hg1.grown hne)
                        clear hb1 hne
                        go_roundw
                        case rel => exact ⟨j + 2, t ++ [0], by omega, by omega, by simp; omega, by go_num, ho1, HS1.out, HB1.out, .inl ⟨rfl, HQ.out⟩⟩
                        case measure => simp [intOf, ovOf]; omega
                      all_goals first | omega | (simp; omega)
                    · have hd4 : decide (l[j + 1] = 255) = false := by simpa using h255
                      rw [hd4] at x255
                      have w255 : ((l[j + 1].toNat : Int) != 255) = true := by simp [bne, x255]
                      by_cases h1 : l[j + 1] = 1
                      · have hd5 : decide (l[j + 1] = 1) = true := by simpa using h1
                        rw [hd5] at x1
                        have w1 : ((l[j + 1].toNat : Int) != 1) = false := by simp [bne, x1]
                        rw [h1, rdText_end] at hq
                        have HQ := Lib.hid hq
                        clear hq hd4 hd5 h255 hz h1
                        generalize l[j + 1] = d at d2 x255 x1 w255 w1
                        generalize l[j] = c8 at d1 y0 y9
                        go_wp2
                        go_roundw
                        case rel => exact ⟨j + 2, t, by omega, by omega, by omega, by go_num, HT.out, HS.out, HW2.out, .inr ⟨rfl, HQ.out⟩⟩
                        case measure => simp [intOf, ovOf]; omega
                      · have hd5 : decide (l[j + 1] = 1) = false := by simpa using h1
                        rw [hd5] at x1
                        have w1 : ((l[j + 1].toNat : Int) != 1) = true := by simp [bne, x1]
                        rw [rdText_bad h255 h1] at hq
                        have HPQ := Lib.hid (show ((2 : Int), ([] : List PartD)) = rdAll l from by rw [← HPP.out, ← hq]; rfl)
                        clear hq hd4 hd5 h255 hz h1
                        generalize l[j + 1] = d at d2 x255 x1 w255 w1
                        generalize l[j] = c8 at d1 y0 y9
                        go_wp2
                        go_ret2
                        exact ⟨.slice none 0 0, by rw [← HPQ.out]; rfl, by rw [← HPQ.out]; exact rd_none _ _, HW2.out⟩
                  · have hj3 : j + 1 = l.length := by omega
                    rw [drop_at hjl, hz, hj3, List.drop_length, rdText_zero] at hq
                    have HPQ := Lib.hid (show ((3 : Int), ([] : List PartD)) = rdAll l from by rw [← HPP.out, show rdText (l.drop (k + 1)) = (3, [], []) from hq.symm]; rfl)
                    clear hq hcell hd3 hz hj3 z1 z2 c1
                    generalize l[j] = c8 at d1 y0 y9
                    go_wp2
                    go_ret2
                    exact ⟨.slice none 0 0, by rw [← HPQ.out]; rfl, by rw [← HPQ.out]; exact rd_none _ _, HW2.out⟩
                · have hd3 : decide (l[j] = 0) = false := by simpa using hz
                  rw [hd3] at y0
                  have y1 : ((l[j].toNat : Int) != 0) = true := by simp [bne, y0]
                  rw [drop_at hjl, rdText_plain hz] at hq
                  have HQ := Lib.hid hq
                  clear hq hcell hd3 hz z1 z2 c1
                  generalize l[j] = c8 at d1 y0 y1 HQ
                  go_wp2_with (at_builtin; refine wpl_app rfl (.tmp 65) (.tmp 70) rfl w.heap.size _ t [c8] _ _ _ rfl rfl rfl rfl HT.out ?_ ?_ ?_; rotate_left 2; intro v1 w1 ho1 hg1 hgs1)
                  · have hb1 : Below w.heap.size wr w1 := hg1.below (by omega) (OwnB.base HT.out)
                    have HB1 := Lib.hid (HW2.out.trans hb1)
                    have hne : (Value.ownBlock u4 = none) ∨ Value.ownBlock u4 ≠ Value.ownBlock u7 := own_ne HS.out HT.out
                    have HS1 := Lib.hid (show OwnP w1 w.heap.size u4 s from HS.out.kept hg1.grown hne)
                    clear hb1 hne
                    go_roundw
                    case rel => exact ⟨j + 1, t ++ [c8], by omega, by omega, by simp; omega, by go_num, ho1, HS1.out, HB1.out, .inl ⟨rfl, HQ.out⟩⟩
                    case measure => simp [intOf, ovOf]; omega
                  all_goals first | omega | (simp; omega)
              · have hj3 : j = l.length := by omega
                rw [hj3, List.drop_length, rdText_short] at hq
                have HPQ := Lib.hid (show ((3 : Int), ([] : List PartD)) = rdAll l from by rw [← HPP.out, show rdText (l.drop (k + 1)) = (3, [], []) from hq.symm]; rfl)
                clear hq hj3 z1 z2 c1
                go_wp2
                go_ret2
                exact ⟨.slice none 0 0, by rw [← HPQ.out]; rfl, by rw [← HPQ.out]; exact rd_none _ _, HW2.out⟩
            · have hpp := HPP.out
              rw [← hq] at hpp
              simp only [if_true] at hpp
              have HPQ := Lib.hid hpp
              have hcv := OwnB.str HT.out
              clear hq hpp z1 z2 c1
              go_wp2_with (at_builtin; refine wpl_appg rfl (.tmp 101) (.tmp 105) rfl Try.underlying124 part_info rfl (by omega) u4 _ _ wr.heap.size 1 1 [.bool true, .int .i64 0, .string ⟨t.toArray⟩] rfl rfl rfl (blk_new _ _ _ (by simp)) (one_cells ⟨true, _, _⟩) (HS.out.alloc _) ?_ ?_ ?_ ?_; rotate_left 3; intro v2 w2 ho2 hg2 hs2)
              · have hb3 : Below w.heap.size w w2 := (HW2.out.alloc (by omega) _).trans (hg2.below (by simp; omega) (OwnP.base HS.out))
                have HB3 := Lib.hid hb3
                clear hb3
                go_roundw
                case rel =>
                  refine ⟨j, s ++ [⟨true, 0, ⟨t.toArray⟩⟩], by omega, by simp; omega, rfl, HPQ.out, ?_, HB3.out⟩
                  unfold OwnP
                  rw [pcells_append, List.length_append]
                  exact ho2
                case measure => simp [intOf]; omega
              all_goals first | omega | (simp; omega)
        · have hd2 : decide (l[k] = 2) = false := by simpa using h2
          rw [hd2] at z2
          have z3 : ((l[k].toNat : Int) != 2) = true := by simp [bne, z2]
          rw [rdPart_bad hlt h1 h2] at hp
          have HPQ := Lib.hid (show ((2 : Int), ([] : List PartD)) = rdAll l from by rw [← hp]; rfl)
          clear hp h1 h2 hd2
          generalize l[k] = c9 at c1 z1 z2 z3
          go_wp2
          go_ret2
          exact ⟨.slice none 0 0, by rw [← HPQ.out]; rfl, by rw [← HPQ.out]; exact rd_none _ _, HW.out⟩
    · have hk2 : k = l.length := by omega
      rw [hk2, List.drop_length, rdAll_nil] at hp
      have HPQ := Lib.hid hp
      clear hp hk2
      go_wp2
      go_ret2
      exact ⟨_, by rw [← HPQ.out]; rfl, by rw [← HPQ.out]; exact OwnP.rd HO.out, HW.out⟩
end Go.Proofs.Ytlpakooogbaclaa.Ord
/- Layer 1: whether two tuples are the same. -/
namespace Go.Proofs.Ytlpakooogbaclaa.Ord
open Go.RowKit
set_option linter.unusedVariables false

end Go.Proofs.Ytlpakooogbaclaa.Ord
/- Layer 1: bytes of tuples are in their order (plain). -/
namespace Go.Proofs.Ytlpakooogbaclaa.Ord
open Go.RowKit

end Go.Proofs.Ytlpakooogbaclaa.Ord
/- Layer 1: the order is turned round; a cut tuple can be written. -/
namespace Go.Proofs.Ytlpakooogbaclaa.Ord
open Go.RowKit
set_option linter.unusedVariables false

end Go.Proofs.Ytlpakooogbaclaa.Ord
/- Layer 1: an argument that is bytes, opened; its first 200. -/
namespace Go.Proofs.Ytlpakooogbaclaa.Ord
open Go.RowKit Go.ChangeShapes Go.WideShapes Go.ChangeAt Go.Deep
set_option linter.unusedVariables false

end Go.Proofs.Ytlpakooogbaclaa.Ord
/- Layer 1: what is written is read (plain). -/
namespace Go.Proofs.Ytlpakooogbaclaa.Ord
open Go.RowKit

end Go.Proofs.Ytlpakooogbaclaa.Ord
/- Layer 1: a tuple's bytes, as the document's answer makes them. -/
namespace Go.Proofs.Ytlpakooogbaclaa.Ord
open Go.RowKit
set_option linter.unusedVariables false

/-- append of bytes that are read to an owned row. -/
theorem wpl_app_rd {W : World} {ops : Array Oper} {rest : List Oper} {o : Oper} {a : Act} {Q : Exit → Act → World → Prop} (hgd : o.guard = none) (s x : Operand)
    (ho : o.op = .call { callee := .builtin .append, args := #[s, x], argTypes := #[127, 127] })
    (base B : Nat) (v u : Value) (l r : List UInt8) (hs : a.eval s = v) (hx : a.eval x = u) (hown : OwnB W base v l) (hrd : RdB W B u r) (hr : 0 < r.length) (hb : base ≤ W.heap.size) (hlen : l.length + r.length ≤ 1099511627776)
    (h : ∀ v' w', OwnB w' base v' (l ++ r) → Grew W w' v v' → W.heap.size ≤ w'.heap.size → wpList Try.prog ops Q rest (a.put o.dst v') w') :
    wpList Try.prog ops Q (o :: rest) a W := by
  obtain ⟨A, c, rfl, _, _, hc⟩ := hrd
  obtain ⟨g, off, rfl, _, hc⟩ := hc hr
  refine wpl_appg_at hgd s x ho Try.underlying127 u8_info rfl (by omega) v l.length (bv l) g off r.length c (bv r) hs hx (by simp [bv]) ?_ (by simp [bv, Value.oneCell']) hown (by omega) (by omega) hb ?_
  · intro j u hu
    simp only [bv, List.getElem?_map, Option.map_eq_some_iff] at hu
    obtain ⟨y, hy, rfl⟩ := hu
    exact hc j y hy
  · intro v' w' h1 h2 h3
    exact h v' w' (by unfold OwnB; rw [bv_append, List.length_append]; exact h1) h2 h3

theorem encPart_text (n : Int) (s : ByteArray) : encPart ⟨true, n, s⟩ = [2] ++ (encText s.data.toList ++ [0, 1]) := rfl
theorem encPart_num (n : Int) (s : ByteArray) : encPart ⟨false, n, s⟩ = [1] ++ encNum n := rfl

end Go.Proofs.Ytlpakooogbaclaa.Ord
/- Layer 1: a key's bytes, split: the program and the document's answer; the document's key. -/
namespace Go.Proofs.Ytlpakooogbaclaa.Ord
open Go.RowKit
set_option linter.unusedVariables false


/-- Is a tuple a key? -/
def keyOf (l : List PartD) : Option (Int × ByteArray) :=
  match l with
  | [p, q] => if p.isText = false ∧ q.isText = true ∧ 0 ≤ p.num ∧ p.num < 4 ∧ q.text.size ≤ 40 then some (p.num, q.text) else none
  | _ => none

end Go.Proofs.Ytlpakooogbaclaa.Ord
/- Layer 1: Split, the program's and the document's. -/
namespace Go.Proofs.Ytlpakooogbaclaa.Ord
open Go.RowKit
set_option linter.unusedVariables false

/-- A text as bytes: new memory that reads so. -/
theorem str_bytes (s : ByteArray) (w : World) (hs : s.size ≤ 9223372036854775807) :
    ∃ A c w1, (convert 9 127 (.string s)).run Try.prog w = .ok (.slice A s.size c) w1 ∧ RdB w1 w1.heap.size (.slice A s.size c) s.data.toList ∧ Below w.heap.size w w1 := by
  refine ⟨some ⟨w.heap.size, 0, none⟩, grownCap w s.size 0 5, Lib.bytesWorld w 5 s, Lib.run_convert_string_bytes w _ _ 5 s Try.underlying9 Try.underlying127 Try.underlying5, ?_, ?_⟩
  · have hsz : s.data.toList.length = s.size := by simp
    refine ⟨_, _, by rw [hsz], by rw [hsz]; exact grownCap_ge w s.size 0 _, by have := grownCap_le_maxLen w s.size 0 5 (by simp only [maxLen]; omega); simpa [maxLen] using this, fun hp => ⟨w.heap.size, 0, rfl, by rw [Lib.bytesWorld_size]; omega, fun k u hu => ?_⟩⟩
    have hk : k < s.size := by rw [← hsz]; exact (List.getElem?_eq_some_iff.1 hu).1
    rw [Nat.zero_add, Lib.bytesWorld_cell w _ s k hk, List.getD_eq_getElem?_getD, hu]
    rfl
  · refine ⟨?_, ?_, ?_, by rw [Lib.bytesWorld_size]; omega, fun k hk => Lib.bytesWorld_at_old w _ s k hk⟩
    all_goals (simp [Lib.bytesWorld, World.freeze]; try rfl)

/-- What Split tells. -/
def splitOf (l : List UInt8) : Int × ByteArray × Int :=
  if (rdAll l).1 = 0 then (match keyOf (rdAll l).2 with | some (t, s) => (t, s, 0) | none => (0, ⟨#[]⟩, 2)) else (0, ⟨#[]⟩, (rdAll l).1)

theorem key_two {l : List PartD} {t : Int} {s : ByteArray} (h : keyOf l = some (t, s)) : ∃ p q, l = [p, q] ∧ p.isText = false ∧ q.isText = true ∧ p.num = t ∧ q.text = s ∧ 0 ≤ t ∧ t < 4 ∧ s.size ≤ 40 := by
  unfold keyOf at h
  split at h
  · rename_i p q
    split at h
    · rename_i hc
      simp only [Option.some.injEq, Prod.mk.injEq] at h
      exact ⟨p, q, rfl, hc.1, hc.2.1, h.1, h.2, by omega, by omega, by rw [← h.2]; exact hc.2.2.2.2⟩
    · cases h
  · cases h

set_option maxHeartbeats 800000 in
theorem ref_split (s : ByteArray) (w : World) (hs : s.size ≤ 1000000) :
    Calls Try.prog 79 #[.string s] w fun e w' => e = .returned (.tuple #[.int .i64 (splitOf s.data.toList).1, .string (splitOf s.data.toList).2.1, .int .i64 (splitOf s.data.toList).2.2]) ∧ Below w.heap.size w w' := by
  obtain ⟨A, c, w1, hcv, hr, hb⟩ := str_bytes s w (by omega)
  have HR := Lib.hid hr
  have HB := Lib.hid hb
  have hs1 := hb.size
  clear hr hb
  generalize hl : s.data.toList = l at *
  have hll : l.length ≤ 1000000 := by rw [← hl]; simpa using hs
  clear hl
  have hsp : splitOf l = if (rdAll l).1 = 0 then (match keyOf (rdAll l).2 with | some (t, s) => (t, s, 0) | none => (0, ⟨#[]⟩, 2)) else (0, ⟨#[]⟩, (rdAll l).1) := rfl
  generalize splitOf l = sp at *
  go_enter Try.func79, Try.ntmps79
  have HSP := Lib.hid hsp
  clear hsp
  go_wp2_with fail
  refine (ref_read _ l _ HR.out hll).mono ?_
  rintro e w2 ⟨x, rfl, hx, hb2⟩
  generalize rdAll l = ra at *
  obtain ⟨er, ps⟩ := ra
  have H2 := Lib.hid (HB.out.trans (hb2.mono hs1))
  have hs2 := H2.out.size
  have HX := Lib.hid hx
  clear hb2 hx hcv
  have hsp := HSP.out
  simp only at hsp
  by_cases he : er = 0
  · subst he
    simp only [if_true] at hsp
    have HSP := Lib.hid hsp
    clear hsp
    have HX2 := HX.out
    by_cases h2 : ps.length = 2
    · obtain ⟨p, q, rfl⟩ : ∃ p q, ps = [p, q] := by
        match ps, h2 with
        | [p, q], _ => exact ⟨p, q, rfl⟩
      obtain ⟨A2, c2, rfl, _, _, hcell⟩ := HX2
      obtain ⟨b, o, rfl, _, hcell⟩ := hcell (by simp)
      obtain ⟨a0, a1, a2⟩ := hcell 0 p rfl
      obtain ⟨b0, b1, b2⟩ := hcell 1 q rfl
      obtain ⟨tp, np, zp⟩ := p
      obtain ⟨tq, nq, zq⟩ := q
      simp only [Nat.zero_mul, Nat.add_zero, Nat.one_mul] at a0 a1 a2 b0 b1 b2
      simp only [List.length_cons, List.length_nil] at *
      clear hcell h2
      have hsp := HSP.out
      cases tp
      · cases tq
        · have hk : keyOf [⟨false, np, zp⟩, ⟨false, nq, zq⟩] = none := by simp [keyOf]
          rw [hk] at hsp
          simp only at hsp
          subst hsp
          clear hk
          go_wp2
          go_ret3
          exact ⟨rfl, H2.out⟩
        · by_cases hn : 0 ≤ np ∧ np < 4 ∧ zq.size ≤ 40
          · obtain ⟨n1, n2, n3⟩ := hn
            have hk : keyOf [⟨false, np, zp⟩, ⟨true, nq, zq⟩] = some (np, zq) := by simp [keyOf, n1, n2, n3]
            rw [hk] at hsp
            simp only at hsp
            subst hsp
            clear hk
            go_wp2
            go_quiet (fail)
            go_wp2
            go_ret3
            exact ⟨rfl, H2.out.drewN _⟩
          · have hk : keyOf [⟨false, np, zp⟩, ⟨true, nq, zq⟩] = none := by simp [keyOf]; omega
            rw [hk] at hsp
            simp only at hsp
            subst hsp
            clear hk
            by_cases n1 : 0 ≤ np
            · by_cases n2 : np < 4
              · have n3 : 40 < zq.size := by omega
                clear hn
                go_wp2
                go_ret3
                exact ⟨rfl, H2.out⟩
              · have n4 : 4 ≤ np := by omega
                have hd : decide (3 < np) = true := by simp; omega
                clear hn n2
                go_wp2
                go_ret3
                exact ⟨rfl, H2.out⟩
            · have n4 : np < 0 := by omega
              clear hn n1
              go_wp2
              go_ret3
              exact ⟨rfl, H2.out⟩
      · have hk : keyOf [⟨true, np, zp⟩, ⟨tq, nq, zq⟩] = none := by simp [keyOf]
        rw [hk] at hsp
        simp only at hsp
        subst hsp
        clear hk
        go_wp2
        go_ret3
        exact ⟨rfl, H2.out⟩
    · have hk : keyOf ps = none := by
        unfold keyOf
        split
        · simp at h2
        · rfl
      have hsp := HSP.out
      rw [hk] at hsp
      simp only at hsp
      subst hsp
      obtain ⟨A2, c2, rfl, _, _, _⟩ := HX2
      have h3 : ((ps.length : Int) != 2) = true := by simp; omega
      clear hk
      go_wp2
      go_ret3
      exact ⟨rfl, H2.out⟩
  · have he1 : (er != 0) = true := by simpa using he
    rw [if_neg he] at hsp
    subst hsp
    clear he
    go_wp2
    go_ret3
    exact ⟨rfl, H2.out⟩
end Go.Proofs.Ytlpakooogbaclaa.Ord
