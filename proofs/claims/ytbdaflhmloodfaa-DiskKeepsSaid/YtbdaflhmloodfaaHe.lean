/- Layer 7, the project's disk: Create. -/
import Derived.Test.YtbdaflhmloodfaaHd
namespace Go.Proofs.Ytbdaflhmloodfaa
open Go.RowKit
set_option linter.unusedVariables false

section
variable {S : Nat → Prop} {w w' : World} {m : Nat} {gb : ByteArray → Nat} {vv : ByteArray → Value} {g : Nat} {d : Dk} {p : Value}
theorem mayD_sorted (h : RdMp w S g d m gb vv) : SortD (mayD d 0).1.f := by rw [(mayD_f d 0).1]; exact h.files.sorted
theorem nameB_size {n : ByteArray} (h : nameB n.data.toList = true) : n.size ≤ 20 := by
  unfold nameB at h
  simp only [Bool.and_eq_true, decide_eq_true_eq] at h
  have := h.2
  simpa using this

set_option maxHeartbeats 4000000 in
set_option maxRecDepth 100000 in
theorem p_create (h : RdM w S g p d) (hd : OkD d) (hS : ∀ i, w.heap.size ≤ i → S i) (n : ByteArray) (hn : n.size ≤ 9223372036854775807) :
    Calls Try.prog 16 #[p, .string n] w fun e w' => e = .returned (.int .i64 (createD d n).2) ∧ RdM w' S g p (createD d n).1 ∧ Kept S w w' := by
  obtain ⟨rfl, m, gb, vv, h⟩ := h
  have HSZ := Lib.hid hn
  clear hn
  have hg0 : g < w.heap.size := by obtain ⟨A, hb, -⟩ := h.box; exact hb.lt
  have H0 := Lib.hid ((h.on (alloc_below w (.cells #[.pointer (some ⟨g, 0, none⟩)] 23))).on (alloc_below _ (.cells #[.string n] 9)))
  have K0 := Lib.hid (((Kept.refl S w).alloc (.cells #[.pointer (some ⟨g, 0, none⟩)] 23)).alloc (.cells #[.string n] 9))
  have BD := Lib.hid ((Box.new w #[.pointer (some ⟨g, 0, none⟩)] 23 _ rfl).alloc (.cells #[.string n] 9))
  have BN := Lib.hid (Box.new (w.alloc (.cells #[.pointer (some ⟨g, 0, none⟩)] 23)) #[.string n] 9 (w.heap.size + 1) (by simp))
  have HS := Lib.hid (show ∀ i, ((w.alloc (.cells #[.pointer (some ⟨g, 0, none⟩)] 23)).alloc (.cells #[.string n] 9)).heap.size ≤ i → S i from fun i hi => hS i (by have := (((Kept.refl S w).alloc (.cells #[.pointer (some ⟨g, 0, none⟩)] 23)).alloc (.cells #[.string n] 9)).size; omega))
  have hsg := Lib.hid h.sg
  clear h hS
  generalize hW0 : (w.alloc (.cells #[.pointer (some ⟨g, 0, none⟩)] 23)).alloc (.cells #[.string n] 9) = W0 at *
  obtain ⟨A, hb, hA⟩ := H0.out.box
  have HB := Lib.hid hb
  have HA := Lib.hid hA
  clear hA
  cases hdn : d.down
  · have c3 : W0.cell? ⟨g, 3, none⟩ = some (.bool false) := by rw [← hdn]; exact hb.cell 3 _ rfl
    have c0 := hb.cell 0 (.map (some m)) rfl
    have d0 := BD.out.cell 0 _ rfl
    have n0 := BN.out.cell 0 _ rfl
    have HDN := Lib.hid hdn
    clear hb hdn
    cases hnm : nameB n.data.toList
    · have HN := Lib.hid hnm
      have hr := Lib.hid (show createD d n = (d, 1) from by
        have he : createE d n = 1 := by unfold createE; rw [if_pos hnm]
        unfold createD; rw [he, mayD_err HDN.out (by omega)]; simp)
      clear hnm
      go_enter Try.func16, Try.ntmps16
      go_wp2_with (go_at_call 38; refine (p_isName n _ HSZ.out).mono ?_; rintro e w' ⟨rfl, rfl⟩; rw [HN.out])
      go_ret
      rw [hr.out]
      exact ⟨rfl, ⟨rfl, m, gb, vv, H0.out⟩, K0.out⟩
    · have HN := Lib.hid hnm
      have hn20 := Lib.hid (nameB_size hnm)
      clear hnm
      go_enter Try.func16, Try.ntmps16
      go_wp2_with (go_at_call 38; refine (p_isName n _ HSZ.out).mono ?_; rintro e w' ⟨rfl, rfl⟩; rw [HN.out])
      go_still_tail 5, (by kernel_rfl)
      by_cases hat : atF d.f n < 0
      · have hno := atF_none hat
        have hlk := (H0.out.on (Below.refl _ W0).drew).files.miss HSZ.out hno
        have HNO := Lib.hid hno
        by_cases hfull : 400 ≤ d.f.length
        · have hr := Lib.hid (show createD d n = (d, 6) from by
            have he : createE d n = 6 := by unfold createE; rw [if_neg (by rw [HN.out]; simp), if_neg (by omega), if_pos hfull]
            unfold createD; rw [he, mayD_err HDN.out (by omega)]; simp)
          have zf : decide ((400 : Int) ≤ (d.f.length : Int)) = true := by simp; omega
          clear hno hat
          go_wp2_with (at_len; refine wpl_len7 rfl (.tmp 26) rfl rfl (H0.out.on (Below.refl _ W0).drew).files ?_)
          go_ret
          rw [hr.out]
          exact ⟨rfl, ⟨rfl, m, gb, vv, H0.out.on (Below.refl _ _).drew⟩, K0.out.drew⟩
        · have hlen : d.f.length ≤ 1000000 := by omega
          have zf : decide ((400 : Int) ≤ (d.f.length : Int)) = false := by rw [decide_eq_false_iff_not]; omega
          have he := Lib.hid (show createE d n = 0 from by unfold createE; rw [if_neg (by rw [HN.out]; simp), if_neg (by omega), if_neg hfull])
          have hleft := Lib.hid hd.left
          have hlen := Lib.hid hlen
          clear hno hat hfull
          have h1 : (mayD d 0).1.f = d.f := (mayD_f d 0).1
          by_cases hl0 : d.left = 0
          · have HL := Lib.hid (show decide (d.left = 0) = true from decide_eq_true hl0)
            have hr := Lib.hid (show createD d n = ((mayD d 0).1, 7) from by unfold createD; rw [he.out, mayD_goes HDN.out hl0]; simp)
            clear hl0 h1
            go_wp2_with (first
              | (at_len; refine wpl_len7 rfl (.tmp 26) rfl rfl (H0.out.on (Below.refl _ W0).drew).files ?_)
              | (go_at_call 57; refine (p_goes (H0.out.on (Below.refl _ W0).drew) HDN.out hleft.out).mono ?_; rintro e w1 ⟨rfl, hm1, hk1, -⟩; have M1 := Lib.hid hm1; have K1 := Lib.hid hk1; clear hm1 hk1; rw [HL.out])
              | (go_at_call 41; refine (p_nothing _).mono ?_; rintro e w2 ⟨rfl, rfl⟩)
              | go_in)
            go_ret
            rw [hr.out]
            exact ⟨rfl, ⟨rfl, m, gb, vv, M1.out⟩, K0.out.drew.trans K1.out⟩
          · have HL := Lib.hid (show decide (d.left = 0) = false from decide_eq_false hl0)
            have hr := Lib.hid (show createD d n = ({ (mayD d 0).1 with f := putF (mayD d 0).1.f ⟨n, ⟨#[]⟩, 0⟩ }, 0) from by unfold createD; rw [he.out, if_pos (mayD_ok HDN.out hl0)])
            have H1 := Lib.hid h1
            clear hl0 h1
            go_wp2_with (first
              | (at_len; refine wpl_len7 rfl (.tmp 26) rfl rfl (H0.out.on (Below.refl _ W0).drew).files ?_)
              | (go_at_call 57; refine (p_goes (H0.out.on (Below.refl _ W0).drew) HDN.out hleft.out).mono ?_; rintro e w1 ⟨rfl, hm1, hk1, -⟩; have M1 := Lib.hid hm1; have K1 := Lib.hid hk1; clear hm1 hk1; rw [HL.out])
              | (go_at_call 40; refine (p_create1 (d := (mayD d 0).1) w1 (w.heap.size) (w.heap.size + 1) n (K1.out.box BD.out rfl) (K1.out.box BN.out rfl) M1.out (fun i hi => HS.out i (Nat.le_trans K1.out.size hi)) (by rw [H1.out]; exact hlen.out) hn20.out (by rw [H1.out]; exact HNO.out)).mono ?_; rintro e w2 ⟨rfl, hm2, hk2⟩; have M2 := Lib.hid hm2; have K2 := Lib.hid hk2; clear hm2 hk2)
              | go_in)
            go_ret
            rw [hr.out]
            exact ⟨rfl, M2.out, (K0.out.drew.trans K1.out).trans K2.out⟩
      · have hat' := hat
        obtain ⟨hk, hkn⟩ := atF_some hat
        have hlk := (H0.out.on (Below.refl _ W0).drew).files.hit (List.getElem_mem hk)
        rw [hkn] at hlk
        have hr := Lib.hid (show createD d n = (d, 9) from by
          have he : createE d n = 9 := by unfold createE; rw [if_neg (by rw [HN.out]; simp), if_pos (by omega)]
          unfold createD; rw [he, mayD_err HDN.out (by omega)]; simp)
        clear hat hat' hk hkn
        go_wp2_with fail
        go_ret
        rw [hr.out]
        exact ⟨rfl, ⟨rfl, m, gb, vv, H0.out.on (Below.refl _ _).drew⟩, K0.out.drew⟩
  · have c3 : W0.cell? ⟨g, 3, none⟩ = some (.bool true) := by rw [← hdn]; exact hb.cell 3 _ rfl
    have d0 := BD.out.cell 0 _ rfl
    have hr := Lib.hid (show createD d n = (d, 7) from by unfold createD; rw [mayD_down hdn]; simp)
    clear hb hdn
    go_enter Try.func16, Try.ntmps16
    go_wp2_with fail
    go_ret
    rw [hr.out]
    exact ⟨rfl, ⟨rfl, m, gb, vv, H0.out⟩, K0.out⟩
end
end Go.Proofs.Ytbdaflhmloodfaa
