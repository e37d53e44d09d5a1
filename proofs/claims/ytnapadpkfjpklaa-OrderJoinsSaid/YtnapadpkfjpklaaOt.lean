/- Layer 1: a text's bytes, read, by a jump back to where the next one is looked at. -/
import Derived.Test.YtnapadpkfjpklaaOs
namespace Go.Proofs.Ytnapadpkfjpklaa
open Go.RowKit
set_option linter.unusedVariables false

theorem drop_at {l : List UInt8} {k : Nat} (h : k < l.length) : l.drop k = l[k] :: l.drop (k + 1) := List.drop_eq_getElem_cons h
theorem drop_two {l : List UInt8} {k : Nat} (h : k + 1 < l.length) : l.drop k = l[k] :: l[k + 1] :: l.drop (k + 2) := by rw [List.drop_eq_getElem_cons (by omega), List.drop_eq_getElem_cons h]

set_option maxHeartbeats 3200000 in
set_option maxRecDepth 1000000 in
theorem read_text (B : Nat) (v : Value) (l : List UInt8) (w : World) (h : RdB w B v l) (hB : B ≤ w.heap.size) (hl : l.length ≤ 1000000) :
    Calls Try.prog 37 #[v] w fun e w' => ∃ v', e = .returned (.tuple #[.string ⟨(rdText l).2.1.toArray⟩, v', .int .i64 (rdText l).1]) ∧ RdB w' B v' (rdText l).2.2 ∧ Below w.heap.size w w' := by
  have H := Lib.hid h
  obtain ⟨A, c, rfl, hlc, hc, -⟩ := h
  go_enter Try.func37, Try.ntmps37
  go_wp2
  refine wp_scope_jumps 0 (fun a' w' => ∃ (k : Nat) (s : List UInt8) (x : Value) (u7 u8 u9 u10 u11 u12 u13 u14 u15 u16 u17 u18 u19 u20 u21 u22 u23 u24 u25 u26 u27 u28 u29 u30 u31 u32 u33 u34 u35 u36 u37 u38 u39 u40 u41 u42 u43 u44 u45 u46 u47 u48 u49 : Value), (k ≤ l.length ∧ preText s (rdText (l.drop k)) = rdText l ∧ OwnB w' w.heap.size x s ∧ s.length ≤ k ∧ Below w.heap.size w w') ∧ a' = { tmps := #[.slice A l.length c, undef, .string ⟨#[]⟩, .slice none 0 0, .int .i64 0, x, .int .i64 k, u7, u8, u9, u10, u11, u12, u13, u14, u15, u16, u17, u18, u19, u20, u21, u22, u23, u24, u25, u26, u27, u28, u29, u30, u31, u32, u33, u34, u35, u36, u37, u38, u39, u40, u41, u42, u43, u44, u45, u46, u47, u48, u49], defers := [] })
    (fun a' _ => l.length - (intOf (a'.tmps.getD 6 undef)).toNat) rfl ?first ?pass
  case' first =>
    go_wp2
    go_step3
    simp only [Exit.then]
    rename_i K hK
    refine hK _ _ ?_
    clear hK K
    refine (?_ : ∀ (k : Nat) (s : List UInt8) (x : Value) (u7 u8 u9 u10 u11 u12 u13 u14 u15 u16 u17 u18 u19 u20 u21 u22 u23 u24 u25 u26 u27 u28 u29 u30 u31 u32 u33 u34 u35 u36 u37 u38 u39 u40 u41 u42 u43 u44 u45 u46 u47 u48 u49 : Value) (w' : World), (k ≤ l.length ∧ preText s (rdText (l.drop k)) = rdText l ∧ OwnB w' w.heap.size x s ∧ s.length ≤ k ∧ Below w.heap.size w w') → Code.wp Try.prog _ _ { tmps := #[.slice A l.length c, undef, .string ⟨#[]⟩, .slice none 0 0, .int .i64 0, x, .int .i64 (k : Int), u7, u8, u9, u10, u11, u12, u13, u14, u15, u16, u17, u18, u19, u20, u21, u22, u23, u24, u25, u26, u27, u28, u29, u30, u31, u32, u33, u34, u35, u36, u37, u38, u39, u40, u41, u42, u43, u44, u45, u46, u47, u48, u49], defers := [] } w') 0 [] (.slice none 0 0) undef undef undef undef undef undef undef undef undef undef undef undef undef undef undef undef undef undef undef undef undef undef undef undef undef undef undef undef undef undef undef undef undef undef undef undef undef undef undef undef undef undef undef w ⟨Nat.zero_le _, by rw [preText_nil]; rfl, OwnB.nil _ _, Nat.zero_le _, Below.refl _ _⟩
    intro k s x u7 u8 u9 u10 u11 u12 u13 u14 u15 u16 u17 u18 u19 u20 u21 u22 u23 u24 u25 u26 u27 u28 u29 u30 u31 u32 u33 u34 u35 u36 u37 u38 u39 u40 u41 u42 u43 u44 u45 u46 u47 u48 u49 w' hf
  case' pass =>
    rintro a' w' ⟨k, s, x, u7, u8, u9, u10, u11, u12, u13, u14, u15, u16, u17, u18, u19, u20, u21, u22, u23, u24, u25, u26, u27, u28, u29, u30, u31, u32, u33, u34, u35, u36, u37, u38, u39, u40, u41, u42, u43, u44, u45, u46, u47, u48, u49, hf, rfl⟩
  all_goals
    obtain ⟨hk, hp, ho, hsl, hbw⟩ := hf
    have hgs := hbw.size
    have HR := Lib.hid (H.out.below (hbw.mono hB))
    have HO := Lib.hid ho
    have HW := Lib.hid hbw
    by_cases hlt : k < l.length
    · obtain ⟨A', c', e1, _, _, hcell⟩ := HR.out
      obtain ⟨b, o, rfl, hb, hcell⟩ := hcell (by omega)
      cases e1
      have c1 := hcell k l[k] (List.getElem?_eq_getElem hlt)
      by_cases hc0 : l[k] = 0
      · have z0 : ((l[k].toNat : Int) == 0) = true := by rw [hc0]; rfl
        by_cases hlt2 : k + 1 < l.length
        · have c2 := hcell (k + 1) l[k + 1] (List.getElem?_eq_getElem hlt2)
          rw [drop_two hlt2, hc0] at hp
          generalize hd : l[k + 1] = d at *
          generalize hc9 : l[k] = c9 at *
          clear hcell hbw ho hd hc9
          by_cases h255 : d = 255
          · subst h255
            rw [rdText_esc] at hp
            have HP := Lib.hid hp
            have z1 : (((255 : UInt8).toNat : Int) == 255) = true := rfl
            have hs1 : (s ++ [0]).length ≤ k + 2 := by simp; omega
            have HS := Lib.hid hs1
            have z9 : (c9.toNat : Int) = 0 := by rw [hc0]; rfl
            clear hp hs1 z0 hc0
            go_wp2_with (at_builtin; refine wpl_app rfl (.tmp 37) (.tmp 38) rfl w.heap.size x s [0] _ _ _ rfl rfl rfl rfl HO.out ?_ ?_ ?_; rotate_left 2; intro v1 w1 ho1 hg1 hgs1
                         have hb1 : Below w.heap.size w w1 := HW.out.trans (hg1.below (by omega) (OwnB.base HO.out)))
            · rw [show ((k : Int) + 2) = ((k + 2 : Nat) : Int) from by omega]
              go_step3
              first
                | exact ⟨rfl, k + 2, s ++ [0], v1, _, _, _, _, _, _, _, _, _, _, _, _, _, _, _, _, _, _, _, _, _, _, _, _, _, _, _, _, _, _, _, _, _, _, _, _, _, _, _, _, _, _, _, ⟨by omega, HP.out, ho1, HS.out, hb1⟩, rfl⟩
                | exact ⟨rfl, ⟨k + 2, s ++ [0], v1, _, _, _, _, _, _, _, _, _, _, _, _, _, _, _, _, _, _, _, _, _, _, _, _, _, _, _, _, _, _, _, _, _, _, _, _, _, _, _, _, _, _, _, ⟨by omega, HP.out, ho1, HS.out, hb1⟩, rfl⟩, by simp [intOf]; omega⟩

            all_goals first | omega | (simp; omega)
          · have z1 : ((d.toNat : Int) == 255) = false := by
              rw [beq_eq_false_iff_ne]; intro e; exact h255 (UInt8.toNat_inj.1 (by have : (255 : UInt8).toNat = 255 := rfl; omega))
            have z9 : (c9.toNat : Int) = 0 := by rw [hc0]; rfl
            by_cases h1 : d = 1
            · subst h1
              rw [rdText_end] at hp
              have HP := Lib.hid hp
              have z2 : (((1 : UInt8).toNat : Int) == 1) = true := rfl
              have hcv := OwnB.str HO.out
              have hcv2 := fun n => OwnB.str (w := w'.drewN n) HO.out
              obtain ⟨A2, c2', hsl2, hr2⟩ := sl_tail HR.out (k + 2) ((k : Int) + 2) (by omega) (by omega)
              have HR2 := Lib.hid hr2
              clear hp h255 hc0 z0 hr2
              go_wp2
              go_quiet (fail)
              go_wp2
              simp only [Exit.jump]
              go_ret3
              exact ⟨_, by rw [← HP.out]; rfl, by rw [← HP.out]; exact HR2.out, HW.out.drewN _⟩
            · have z2 : ((d.toNat : Int) == 1) = false := by
                rw [beq_eq_false_iff_ne]; intro e; exact h1 (UInt8.toNat_inj.1 (by have : (1 : UInt8).toNat = 1 := rfl; omega))
              rw [rdText_bad h255 h1] at hp
              have HP := Lib.hid hp
              clear hp h255 h1 hc0 z0
              go_wp2
              simp only [Exit.jump]
              go_ret3
              exact ⟨_, by rw [← HP.out]; rfl, by rw [← HP.out]; exact RdB.nil _ _, HW.out⟩
        · have hk1 : k + 1 = l.length := by omega
          rw [drop_at hlt, hc0, hk1, List.drop_length, rdText_zero] at hp
          have HP := Lib.hid (show ((3 : Int), ([] : List UInt8), ([] : List UInt8)) = rdText l from hp)
          have z9 : (l[k].toNat : Int) = 0 := by rw [hc0]; rfl
          clear hp hcell hbw ho hc0 z0 hk1
          generalize l[k] = c9 at *
          go_wp2
          simp only [Exit.jump]
          go_ret3
          exact ⟨_, by rw [← HP.out]; rfl, by rw [← HP.out]; exact RdB.nil _ _, HW.out⟩
      · have z0 : ((l[k].toNat : Int) == 0) = false := by
          rw [beq_eq_false_iff_ne]; intro e; exact hc0 (UInt8.toNat_inj.1 (by have : (0 : UInt8).toNat = 0 := rfl; omega))
        have z1 : ((l[k].toNat : Int) != 0) = true := by simp [bne, z0]
        rw [drop_at hlt, rdText_plain hc0] at hp
        have HP := Lib.hid hp
        have hs1 : (s ++ [l[k]]).length ≤ k + 1 := by simp; omega
        have HS := Lib.hid hs1
        clear hp hs1 hcell hbw ho hc0
        generalize l[k] = c9 at *
        go_wp2_with (at_builtin; refine wpl_app rfl (.tmp 16) (.tmp 21) rfl w.heap.size x s [c9] _ _ _ rfl rfl rfl rfl HO.out ?_ ?_ ?_; rotate_left 2; intro v1 w1 ho1 hg1 hgs1
                     have hb1 : Below w.heap.size w w1 := HW.out.trans (hg1.below (by omega) (OwnB.base HO.out)))
        · rw [show ((k : Int) + 1) = ((k + 1 : Nat) : Int) from by omega]
          go_step3
          first
            | exact ⟨rfl, k + 1, s ++ [c9], v1, _, _, _, _, _, _, _, _, _, _, _, _, _, _, _, _, _, _, _, _, _, _, _, _, _, _, _, _, _, _, _, _, _, _, _, _, _, _, _, _, _, _, _, ⟨by omega, HP.out, ho1, HS.out, hb1⟩, rfl⟩
            | exact ⟨rfl, ⟨k + 1, s ++ [c9], v1, _, _, _, _, _, _, _, _, _, _, _, _, _, _, _, _, _, _, _, _, _, _, _, _, _, _, _, _, _, _, _, _, _, _, _, _, _, _, _, _, _, _, _, ⟨by omega, HP.out, ho1, HS.out, hb1⟩, rfl⟩, by simp [intOf]; omega⟩

        all_goals first | omega | (simp; omega)
    · have hk1 : k = l.length := by omega
      rw [hk1, List.drop_length, rdText_short] at hp
      have HP := Lib.hid (show ((3 : Int), ([] : List UInt8), ([] : List UInt8)) = rdText l from hp)
      clear hp hbw ho
      have z1 : ((k : Int) == (l.length : Int)) = true := by rw [beq_iff_eq]; omega
      clear hk1
      go_wp2
      simp only [Exit.jump]
      go_ret3
      exact ⟨_, by rw [← HP.out]; rfl, by rw [← HP.out]; exact RdB.nil _ _, HW.out⟩
end Go.Proofs.Ytnapadpkfjpklaa
