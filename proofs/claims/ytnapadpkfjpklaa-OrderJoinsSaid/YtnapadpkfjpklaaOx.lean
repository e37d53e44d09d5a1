/- Layer 1: a tuple's bytes, as the document's answer reads them. -/
import Derived.Test.YtnapadpkfjpklaaOw
namespace Go.Proofs.Ytnapadpkfjpklaa
open Go.RowKit
set_option linter.unusedVariables false

/-- 'v[k:m]': what it is, in whatever world, and that it reads so. -/
theorem sl_mid {w : World} {B : Nat} {v : Value} {l : List UInt8} (h : RdB w B v l) (k m : Nat) (y z : Int) (hy : y = (k : Int)) (hz : z = (m : Int)) (hkm : k ≤ m) (hm : m ≤ l.length) :
    ∃ A c, (∀ W, (Instr.slice 24 v (some (.int .i64 y)) (some (.int .i64 z)) none).run Try.prog W = .ok (.slice A (m - k) c) W) ∧ RdB w B (.slice A (m - k) c) ((l.drop k).take (m - k)) := by
  subst hy hz
  obtain ⟨A, c, rfl, h1, h2, h3⟩ := h
  have ht : Try.prog.underlying 24 = some (.slice (Try.prog.elem 24)) := by simp [Program.elem, Try.underlying24]
  have he : Try.prog.elem 24 = 5 := by simp [Program.elem, Try.underlying24]
  have hl : ((l.drop k).take (m - k)).length = m - k := by rw [List.length_take, List.length_drop]; omega
  refine ⟨if c = k then A else A.map (·.add k), c - k, fun W => ?_, ⟨_, c - k, by rw [hl], by rw [hl]; omega, by omega, fun hp => ?_⟩⟩
  · rw [run_slice_lh W _ _ _ _ ht _ _ _ _ (by omega) (by omega) (by omega), he, u8_size]
    simp [Result.andThen, sliced]
  · rw [hl] at hp
    obtain ⟨b, o, rfl, hb, hc⟩ := h3 (by omega)
    refine ⟨b, o + k, ?_, hb, fun j u hu => ?_⟩
    · rw [if_neg (by omega)]; simp [addr_plain]
    · rw [Nat.add_assoc]
      rw [List.getElem?_take] at hu
      split at hu
      · rw [List.getElem?_drop] at hu; exact hc (k + j) u hu
      · cases hu

/-- Rows of two element types lie in two blocks. -/
theorem own_ne {w : World} {base base' : Nat} {v u : Value} {s : List PartD} {t : List UInt8} (h : OwnP w base v s) (k : OwnB w base' u t) : v.ownBlock = none ∨ v.ownBlock ≠ u.ownBlock := by
  rcases h.2 with ⟨rfl, _⟩ | ⟨g, cap, cur, rfl, _, hg, _⟩
  · exact .inl rfl
  · rcases k.2 with ⟨rfl, _⟩ | ⟨g', cap', cur', rfl, _, hg', _⟩
    · exact .inr (by simp [Value.ownBlock])
    · refine .inr fun e => ?_
      have : g = g' := by simpa [Value.ownBlock] using e
      subst this
      rw [hg] at hg'
      injection hg' with h1
      injection h1 with _ h2
      exact absurd h2 (by decide)

def ovOf : Value → Nat | .bool true => 0 | _ => 1

theorem rdPart_num {l : List UInt8} {k : Nat} (h : k < l.length) (h1 : l[k] = 1) (h8 : k + 1 + 8 ≤ l.length) : rdPart (l.drop k) = (0, ⟨false, decNum ((l.drop (k + 1)).take 8), ⟨#[]⟩⟩, l.drop (k + 9)) := by
  rw [drop_at h, h1]
  have : ¬ (l.drop (k + 1)).length < 8 := by rw [List.length_drop]; omega
  simp only [rdPart, if_true, if_neg this, List.drop_drop]
theorem rdPart_numshort {l : List UInt8} {k : Nat} (h : k < l.length) (h1 : l[k] = 1) (h8 : l.length < k + 1 + 8) : rdPart (l.drop k) = (3, ⟨false, 0, ⟨#[]⟩⟩, []) := by
  rw [drop_at h, h1]
  have : (l.drop (k + 1)).length < 8 := by rw [List.length_drop]; omega
  simp only [rdPart, if_true, if_pos this]
theorem rdPart_text {l : List UInt8} {k : Nat} (h : k < l.length) (h1 : l[k] = 2) : rdPart (l.drop k) = ((rdText (l.drop (k + 1))).1, ⟨true, 0, ⟨(rdText (l.drop (k + 1))).2.1.toArray⟩⟩, (rdText (l.drop (k + 1))).2.2) := by
  rw [drop_at h, h1]
  simp only [rdPart, if_true, show ¬ (2 : UInt8) = 1 from by decide, if_false]
theorem rdPart_bad {l : List UInt8} {k : Nat} (h : k < l.length) (h1 : l[k] ≠ 1) (h2 : l[k] ≠ 2) : rdPart (l.drop k) = (2, ⟨false, 0, ⟨#[]⟩⟩, []) := by
  rw [drop_at h]
  simp only [rdPart, if_neg h1, if_neg h2]

set_option maxHeartbeats 3200000 in
set_option maxRecDepth 1000000 in
theorem ref_read (v : Value) (l : List UInt8) (w : World) (h : RdB w w.heap.size v l) (hl : l.length ≤ 1000000) :
    Calls Try.prog 18 #[v] w fun e w' => ∃ v', e = .returned (.tuple #[v', .int .i64 (rdAll l).1]) ∧ RdParts w' w'.heap.size v' (rdAll l).2 ∧ Below w.heap.size w w' := by
  have H := Lib.hid h
  obtain ⟨A, c, rfl, hlc, hc, -⟩ := h
  go_enter Try.func18, Try.ntmps18
  go_wp2
  go_loopw [4, 5] (fun x i wr => ∃ (k : Nat) (s : List PartD), k ≤ l.length ∧ s.length ≤ k ∧ i = .int .i64 k ∧ preAll s (rdAll (l.drop k)) = rdAll l ∧ OwnP wr w.heap.size x s ∧ Below w.heap.size w wr) (fun _ i _ => l.length - (intOf i).toNat)
  case atStart => exact ⟨0, [], Nat.zero_le _, Nat.le_refl _, rfl, preAll_nil l, OwnP.nil w _, Below.refl _ _⟩
  case round =>
    obtain ⟨k, s, hk, hsl, rfl, hp, ho, hbw⟩ := hrel
    obtain ⟨wo, rfl⟩ : ∃ wo : World, wo = wr := ⟨_, rfl⟩
    have hgs := hbw.size
    have HR := Lib.hid (H.out.below hbw)
    have HO := Lib.hid ho
    have HW := Lib.hid hbw
    clear ho hbw
    by_cases hlt : k < l.length
    · have hne : l.drop k ≠ [] := fun h0 => by have := congrArg List.length h0; rw [List.length_drop] at this; simp at this; omega
      rw [rdAll_step hne] at hp
      obtain ⟨A', c', e1, _, _, hcell⟩ := HR.out
      obtain ⟨b, o, rfl, hb, hcell⟩ := hcell (by omega)
      cases e1
      have c1 := hcell k l[k] (List.getElem?_eq_getElem hlt)
      have z1 := u8_beq (c := l[k]) (d := 1) (n := 1) rfl
      have z2 := u8_beq (c := l[k]) (d := 2) (n := 2) rfl
      clear hne hcell
      by_cases h1 : l[k] = 1
      · have hd : decide (l[k] = 1) = true := by simpa using h1
        rw [hd] at z1
        clear hd z2
        by_cases h8 : k + 1 + 8 ≤ l.length
        · rw [rdPart_num hlt h1 h8] at hp
          simp only [if_true] at hp
          have HPQ := Lib.hid hp
          obtain ⟨A2, c2, hsl2, hr2⟩ := sl_mid HR.out (k + 1) (k + 1 + 8) ((k : Int) + 1) ((k : Int) + 1 + 8) (by omega) (by omega) (by omega) h8
          have e8 : k + 1 + 8 - (k + 1) = 8 := by omega
          rw [e8] at hsl2 hr2
          have HR2 := Lib.hid hr2
          have hl8 := Lib.hid (show ((l.drop (k + 1)).take 8).length = 8 by rw [List.length_take, List.length_drop]; omega)
          clear hp h1 e8 hr2
          generalize l[k] = c9 at c1 z1
          go_wp2_with (first
            | (go_at_call 30; refine (ref_value _ _ _ _ HR2.out hl8.out).mono ?_; rintro e w1 ⟨rfl, rfl⟩)
            | (at_builtin; refine wpl_appg rfl (.tmp 26) (.tmp 34) rfl Try.underlying22 part_info rfl (by omega) u4 _ _ wo.heap.size 1 1 [.bool false, .int .i64 (decNum ((l.drop (k + 1)).take 8)), .string ⟨#[]⟩] rfl rfl rfl (blk_new _ _ _ (by simp)) (one_cells ⟨false, _, _⟩) (HO.out.alloc _) ?_ ?_ ?_ ?_; rotate_left 3; intro v2 w2 ho2 hg2 hs2))
          · have hb3 : Below w.heap.size w w2 := (HW.out.alloc (by omega) _).trans (hg2.below (by simp; omega) (OwnP.base HO.out))
            have HB3 := Lib.hid hb3
            clear hb3
            go_roundw
            case rel =>
              refine ⟨k + 9, s ++ [⟨false, decNum ((l.drop (k + 1)).take 8), ⟨#[]⟩⟩], by omega, by simp; omega, by go_num, HPQ.out, ?_, HB3.out⟩
              unfold OwnP
              rw [pcells_append, List.length_append]
              exact ho2
            case measure => simp [intOf]; omega
          all_goals first | omega | (simp; omega)
        · rw [rdPart_numshort hlt h1 (by omega)] at hp
          have HPQ := Lib.hid (show ((3 : Int), ([] : List PartD)) = rdAll l from by rw [← hp]; rfl)
          clear hp h1
          generalize l[k] = c9 at c1 z1
          go_wp2
          go_ret2
          exact ⟨.slice none 0 0, by rw [← HPQ.out]; rfl, by rw [← HPQ.out]; exact rd_none _ _, HW.out⟩
      · have hd : decide (l[k] = 1) = false := by simpa using h1
        rw [hd] at z1
        clear hd
        by_cases h2 : l[k] = 2
        · have hd2 : decide (l[k] = 2) = true := by simpa using h2
          rw [hd2] at z2
          rw [rdPart_text hlt h2] at hp
          have HPP := Lib.hid hp
          clear hp hd2 h1 h2
          generalize l[k] = c9 at c1 z1 z2
          go_wp2
          go_loopw [5, 7, 8] (fun i x ov wr => ∃ (j : Nat) (t : List UInt8), k < j ∧ j ≤ l.length ∧ t.length ≤ j ∧ i = .int .i64 j ∧ OwnB wr w.heap.size x t ∧ OwnP wr w.heap.size u4 s ∧ Below w.heap.size w wr ∧
            ((ov = .bool false ∧ preText t (rdText (l.drop j)) = rdText (l.drop (k + 1))) ∨ (ov = .bool true ∧ (0, t, l.drop j) = rdText (l.drop (k + 1))))) (fun i _ ov _ => l.length - (intOf i).toNat + ovOf ov)
          case atStart => exact ⟨k + 1, [], by omega, by omega, by simp, by go_num, OwnB.nil _ _, HO.out, HW.out, .inl ⟨rfl, preText_nil _⟩⟩
          case round =>
            obtain ⟨j, t, hkj, hj, htj, rfl, hot, hos, hbw2, hov⟩ := hrel
            have hgs2 := hbw2.size
            have HT := Lib.hid hot
            have HS := Lib.hid hos
            have HW2 := Lib.hid hbw2
            have HR2 := Lib.hid (H.out.below hbw2)
            clear hot hos hbw2
            rcases hov with ⟨rfl, hq⟩ | ⟨rfl, hq⟩
            · by_cases hjl : j < l.length
              · obtain ⟨A', c', e1, _, _, hcell⟩ := HR2.out
                obtain ⟨b', o', e2, hb', hcell⟩ := hcell (by omega)
                cases e1
                cases e2
                have d1 := hcell j l[j] (List.getElem?_eq_getElem hjl)
                have y0 := u8_beq (c := l[j]) (d := 0) (n := 0) rfl
                by_cases hz : l[j] = 0
                · have hd3 : decide (l[j] = 0) = true := by simpa using hz
                  rw [hd3] at y0
                  have y9 : (l[j].toNat : Int) = 0 := by rw [hz]; rfl
                  by_cases hj2 : j + 1 < l.length
                  · have d2 := hcell (j + 1) l[j + 1] (List.getElem?_eq_getElem hj2)
                    have x255 := u8_beq (c := l[j + 1]) (d := 255) (n := 255) rfl
                    have x1 := u8_beq (c := l[j + 1]) (d := 1) (n := 1) rfl
                    rw [drop_two hj2, hz] at hq
                    clear hcell hd3 z1 z2 c1
                    by_cases h255 : l[j + 1] = 255
                    · have hd4 : decide (l[j + 1] = 255) = true := by simpa using h255
                      rw [hd4] at x255
                      have hd5 : decide (l[j + 1] = 1) = false := by rw [h255]; decide
                      rw [hd5] at x1
                      rw [h255, rdText_esc] at hq
                      have HQ := Lib.hid hq
                      have w255 : ((l[j + 1].toNat : Int) != 255) = false := by simp [bne, x255]
                      clear hq hd4 hd5 h255 hz
                      generalize l[j + 1] = d at d2 x255 x1 w255
                      generalize l[j] = c8 at d1 y0 y9
                      go_wp2_with (at_builtin; refine wpl_app rfl (.tmp 96) (.tmp 97) rfl w.heap.size _ t [0] _ _ _ rfl rfl rfl rfl HT.out ?_ ?_ ?_; rotate_left 2; intro v1 w1 ho1 hg1 hgs1)
                      · have hb1 : Below w.heap.size wr w1 := hg1.below (by omega) (OwnB.base HT.out)
                        have HB1 := Lib.hid (HW2.out.trans hb1)
                        have hne : (Value.ownBlock u4 = none) ∨ Value.ownBlock u4 ≠ Value.ownBlock u7 := own_ne HS.out HT.out
                        have HS1 := Lib.hid (show OwnP w1 w.heap.size u4 s from HS.out.kept hg1.grown hne)
                        clear hb1 hne
                        go_roundw
                        case rel => exact ⟨j + 2, t ++ [0], by omega, by omega, by simp; omega, by go_num, ho1, HS1.out, HB1.out, .inl ⟨rfl, HQ.out⟩⟩
                        case measure => simp [intOf, ovOf]; omega
                      all_goals first | omega | (simp; omega)
                    · have hd4 : decide (l[j + 1] = 255) = false := by simpa using h255
                      rw [hd4] at x255
                      have w255 : ((l[j + 1].toNat : Int) != 255) = true := by simp [bne, x255]
                      by_cases h1 : l[j + 1] = 1
                      · have hd5 : decide (l[j + 1] = 1) = true := by simpa using h1
                        rw [hd5] at x1
                        have w1 : ((l[j + 1].toNat : Int) != 1) = false := by simp [bne, x1]
                        rw [h1, rdText_end] at hq
                        have HQ := Lib.hid hq
                        clear hq hd4 hd5 h255 hz h1
                        generalize l[j + 1] = d at d2 x255 x1 w255 w1
                        generalize l[j] = c8 at d1 y0 y9
                        go_wp2
                        go_roundw
                        case rel => exact ⟨j + 2, t, by omega, by omega, by omega, by go_num, HT.out, HS.out, HW2.out, .inr ⟨rfl, HQ.out⟩⟩
                        case measure => simp [intOf, ovOf]; omega
                      · have hd5 : decide (l[j + 1] = 1) = false := by simpa using h1
                        rw [hd5] at x1
                        have w1 : ((l[j + 1].toNat : Int) != 1) = true := by simp [bne, x1]
                        rw [rdText_bad h255 h1] at hq
                        have HPQ := Lib.hid (show ((2 : Int), ([] : List PartD)) = rdAll l from by rw [← HPP.out, ← hq]; rfl)
                        clear hq hd4 hd5 h255 hz h1
                        generalize l[j + 1] = d at d2 x255 x1 w255 w1
                        generalize l[j] = c8 at d1 y0 y9
                        go_wp2
                        go_ret2
                        exact ⟨.slice none 0 0, by rw [← HPQ.out]; rfl, by rw [← HPQ.out]; exact rd_none _ _, HW2.out⟩
                  · have hj3 : j + 1 = l.length := by omega
                    rw [drop_at hjl, hz, hj3, List.drop_length, rdText_zero] at hq
                    have HPQ := Lib.hid (show ((3 : Int), ([] : List PartD)) = rdAll l from by rw [← HPP.out, show rdText (l.drop (k + 1)) = (3, [], []) from hq.symm]; rfl)
                    clear hq hcell hd3 hz hj3 z1 z2 c1
                    generalize l[j] = c8 at d1 y0 y9
                    go_wp2
                    go_ret2
                    exact ⟨.slice none 0 0, by rw [← HPQ.out]; rfl, by rw [← HPQ.out]; exact rd_none _ _, HW2.out⟩
                · have hd3 : decide (l[j] = 0) = false := by simpa using hz
                  rw [hd3] at y0
                  have y1 : ((l[j].toNat : Int) != 0) = true := by simp [bne, y0]
                  rw [drop_at hjl, rdText_plain hz] at hq
                  have HQ := Lib.hid hq
                  clear hq hcell hd3 hz z1 z2 c1
                  generalize l[j] = c8 at d1 y0 y1 HQ
                  go_wp2_with (at_builtin; refine wpl_app rfl (.tmp 65) (.tmp 70) rfl w.heap.size _ t [c8] _ _ _ rfl rfl rfl rfl HT.out ?_ ?_ ?_; rotate_left 2; intro v1 w1 ho1 hg1 hgs1)
                  · have hb1 : Below w.heap.size wr w1 := hg1.below (by omega) (OwnB.base HT.out)
                    have HB1 := Lib.hid (HW2.out.trans hb1)
                    have hne : (Value.ownBlock u4 = none) ∨ Value.ownBlock u4 ≠ Value.ownBlock u7 := own_ne HS.out HT.out
                    have HS1 := Lib.hid (show OwnP w1 w.heap.size u4 s from HS.out.kept hg1.grown hne)
                    clear hb1 hne
                    go_roundw
                    case rel => exact ⟨j + 1, t ++ [c8], by omega, by omega, by simp; omega, by go_num, ho1, HS1.out, HB1.out, .inl ⟨rfl, HQ.out⟩⟩
                    case measure => simp [intOf, ovOf]; omega
                  all_goals first | omega | (simp; omega)
              · have hj3 : j = l.length := by omega
                rw [hj3, List.drop_length, rdText_short] at hq
                have HPQ := Lib.hid (show ((3 : Int), ([] : List PartD)) = rdAll l from by rw [← HPP.out, show rdText (l.drop (k + 1)) = (3, [], []) from hq.symm]; rfl)
                clear hq hj3 z1 z2 c1
                go_wp2
                go_ret2
                exact ⟨.slice none 0 0, by rw [← HPQ.out]; rfl, by rw [← HPQ.out]; exact rd_none _ _, HW2.out⟩
            · have hpp := HPP.out
              rw [← hq] at hpp
              simp only [if_true] at hpp
              have HPQ := Lib.hid hpp
              have hcv := OwnB.str HT.out
              clear hq hpp z1 z2 c1
              go_wp2_with (at_builtin; refine wpl_appg rfl (.tmp 101) (.tmp 105) rfl Try.underlying22 part_info rfl (by omega) u4 _ _ wr.heap.size 1 1 [.bool true, .int .i64 0, .string ⟨t.toArray⟩] rfl rfl rfl (blk_new _ _ _ (by simp)) (one_cells ⟨true, _, _⟩) (HS.out.alloc _) ?_ ?_ ?_ ?_; rotate_left 3; intro v2 w2 ho2 hg2 hs2)
              · have hb3 : Below w.heap.size w w2 := (HW2.out.alloc (by omega) _).trans (hg2.below (by simp; omega) (OwnP.base HS.out))
                have HB3 := Lib.hid hb3
                clear hb3
                go_roundw
                case rel =>
                  refine ⟨j, s ++ [⟨true, 0, ⟨t.toArray⟩⟩], by omega, by simp; omega, rfl, HPQ.out, ?_, HB3.out⟩
                  unfold OwnP
                  rw [pcells_append, List.length_append]
                  exact ho2
                case measure => simp [intOf]; omega
              all_goals first | omega | (simp; omega)
        · have hd2 : decide (l[k] = 2) = false := by simpa using h2
          rw [hd2] at z2
          have z3 : ((l[k].toNat : Int) != 2) = true := by simp [bne, z2]
          rw [rdPart_bad hlt h1 h2] at hp
          have HPQ := Lib.hid (show ((2 : Int), ([] : List PartD)) = rdAll l from by rw [← hp]; rfl)
          clear hp h1 h2 hd2
          generalize l[k] = c9 at c1 z1 z2 z3
          go_wp2
          go_ret2
          exact ⟨.slice none 0 0, by rw [← HPQ.out]; rfl, by rw [← HPQ.out]; exact rd_none _ _, HW.out⟩
    · have hk2 : k = l.length := by omega
      rw [hk2, List.drop_length, rdAll_nil] at hp
      have HPQ := Lib.hid hp
      clear hp hk2
      go_wp2
      go_ret2
      exact ⟨_, by rw [← HPQ.out]; rfl, by rw [← HPQ.out]; exact OwnP.rd HO.out, HW.out⟩
end Go.Proofs.Ytnapadpkfjpklaa
