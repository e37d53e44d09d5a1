/- Layer 7, the project's disk: Remove. -/
import Derived.Test.YtbdaflhmloodfaaHi
namespace Go.Proofs.Ytbdaflhmloodfaa
open Go.RowKit
set_option linter.unusedVariables false

section
variable {S : Nat → Prop} {w w' : World} {l : List Fl} {m : Nat} {gb : ByteArray → Nat} {vv : ByteArray → Value} {g : Nat} {d : Dk} {p : Value}
set_option maxHeartbeats 4000000 in
set_option maxRecDepth 100000 in
theorem p_remove1 (w : World) (bd bn : Nat) {k : Nat} (hk : k < d.f.length) (hbd : Box w bd #[.pointer (some ⟨g, 0, none⟩)] 23) (hbn : Box w bn #[.string d.f[k].name] 9) (h : RdMp w S g d m gb vv) :
    Calls Try.prog 55 #[.pointer (some ⟨bd, 0, none⟩), .pointer (some ⟨bn, 0, none⟩)] w fun e w' => e = .returned (.tuple #[]) ∧ RdM w' S g (.pointer (some ⟨g, 0, none⟩)) { d with f := cutF7 d.f k } ∧ Kept S w w' := by
  obtain ⟨hs, ⟨A, hb, hA⟩, hf⟩ := h
  have HB := Lib.hid hb
  have HF := Lib.hid hf
  have HS := Lib.hid hs
  have HA := Lib.hid hA
  have c0 := hb.cell 0 _ rfl
  have d0 := hbd.cell 0 _ rfl
  have n0 := hbn.cell 0 _ rfl
  clear hb hA hf hs hbd hbn
  go_enter Try.func55, Try.ntmps55
  go_wp2_with fail
  go_still_tail 5, (by kernel_rfl)
  go_wp2_with (at_delete; refine wpl_del7 rfl (.tmp 5) (.tmp 6) rfl hk rfl rfl (HF.out.on (Below.refl _ w).drew) ?_; intro w1 hf1 hg1; have F1 := Lib.hid hf1; have G1 := Lib.hid hg1; clear hf1 hg1)
  go_end0
  exact ⟨rfl, ⟨rfl, m, gb, vv, HS.out, ⟨A, (HF.out.on (Below.refl _ w).drew).mapBox G1.out (show Box w.drew _ _ _ from HB.out), HA.out⟩, F1.out⟩, (Kept.refl S w).drew.trans ((HF.out.on (Below.refl _ w).drew).mapKept G1.out)⟩

set_option maxHeartbeats 4000000 in
set_option maxRecDepth 100000 in
theorem p_remove (h : RdM w S g p d) (hd : OkD d) (hS : ∀ i, w.heap.size ≤ i → S i) (n : ByteArray) (hn : n.size ≤ 9223372036854775807) :
    Calls Try.prog 33 #[p, .string n] w fun e w' => e = .returned (.int .i64 (endsD d n true).2) ∧ RdM w' S g p (endsD d n true).1 ∧ Kept S w w' := by
  obtain ⟨rfl, m, gb, vv, h⟩ := h
  have HSZ := Lib.hid hn
  have hleft := Lib.hid hd.left
  have HS := Lib.hid hS
  obtain ⟨W0, hW0⟩ : ∃ W0, (w.alloc (.cells #[.pointer (some ⟨g, 0, none⟩)] 23)).alloc (.cells #[.string n] 9) = W0 := ⟨_, rfl⟩
  have H := Lib.hid (show RdMp W0 S g d m gb vv from by rw [← hW0]; exact (h.on (alloc_below _ _)).on (alloc_below _ _))
  have K0 := Lib.hid (show Kept S w W0 from by rw [← hW0]; exact ((Kept.refl S w).alloc _).alloc _)
  have BD := Lib.hid (show Box W0 w.heap.size #[.pointer (some ⟨g, 0, none⟩)] 23 from by rw [← hW0]; exact (Box.new w _ _ _ rfl).alloc _)
  have BN := Lib.hid (show Box W0 (w.heap.size + 1) #[.string n] 9 from by rw [← hW0]; exact Box.new _ _ _ _ (by simp))
  have d0 := BD.out.cell 0 _ rfl
  have n0 := BN.out.cell 0 _ rfl
  clear hn h hS hd
  cases hdn : d.down
  · by_cases hat : atF d.f n < 0
    · have HC := Lib.hid (p_find_none H.out hdn n HSZ.out (atF_none hat))
      have hr := Lib.hid (show endsD d n true = (d, 8) from by
        have he : goneE d n = 8 := by unfold goneE; rw [if_pos hat]
        unfold endsD; rw [he, mayD_err hdn (by omega), if_pos (by simp)])
      clear hdn hat
      go_enter Try.func33, Try.ntmps33
      go_wp2_with (go_at_call 42; refine (HC.out).mono ?_; rintro e w' ⟨rfl, rfl⟩)
      go_ret
      rw [hr.out]
      exact ⟨rfl, ⟨rfl, m, gb, vv, H.out⟩, K0.out⟩
    · obtain ⟨hk, hkn⟩ := atF_some hat
      have HC := Lib.hid (p_find_hit H.out hdn (List.getElem_mem hk))
      have hE := Lib.hid (show goneE d n = 0 from by unfold goneE; rw [if_neg hat])
      have hA := Lib.hid (show endsD d n true = (if (mayD d (goneE d n)).2 ≠ 0 then mayD d (goneE d n) else ({ (mayD d (goneE d n)).1 with f := if true = true then cutF7 d.f (atF d.f n).toNat else syncF d.f (atF d.f n).toNat }, 0)) from rfl)
      generalize (atF d.f n).toNat = k at *
      subst hkn
      have HDN := Lib.hid hdn
      clear hat hdn
      by_cases hl0 : d.left = 0
      · have HL := Lib.hid (show decide (d.left = 0) = true from decide_eq_true hl0)
        have hr := Lib.hid (show endsD d d.f[k].name true = ((mayD d 0).1, 7) from by
          rw [hA.out, hE.out, mayD_goes HDN.out hl0, if_pos (by simp)])
        clear hl0
        go_enter Try.func33, Try.ntmps33
        go_wp2_with (first
          | (go_at_call 42; refine (HC.out).mono ?_; rintro e w' ⟨rfl, rfl⟩)
          | (go_at_call 57; refine (p_goes H.out HDN.out hleft.out).mono ?_; rintro e w1 ⟨rfl, hm1, hk1, -⟩; have M1 := Lib.hid hm1; have K1 := Lib.hid hk1; clear hm1 hk1; rw [HL.out])
          | (go_at_call 41; refine (p_nothing _).mono ?_; rintro e w2 ⟨rfl, rfl⟩)
          | go_in)
        go_ret
        rw [hr.out]
        exact ⟨rfl, ⟨rfl, m, gb, vv, M1.out⟩, K0.out.trans K1.out⟩
      · have HL := Lib.hid (show decide (d.left = 0) = false from decide_eq_false hl0)
        have hr := Lib.hid (show endsD d d.f[k].name true = (⟨cutF7 d.f k, d.max, (mayD d 0).1.left, (mayD d 0).1.down⟩, 0) from by
          rw [hA.out, hE.out, if_neg (by rw [mayD_ok HDN.out hl0]; simp), if_pos rfl]; simp only [(mayD_f d 0).2])
        clear hl0
        go_enter Try.func33, Try.ntmps33
        go_wp2_with (first
          | (go_at_call 42; refine (HC.out).mono ?_; rintro e w' ⟨rfl, rfl⟩)
          | (go_at_call 57; refine (p_goes H.out HDN.out hleft.out).mono ?_; rintro e w1 ⟨rfl, hm1, hk1, -⟩; have M1 := Lib.hid hm1; have K1 := Lib.hid hk1; clear hm1 hk1; rw [HL.out])
          | (go_at_call 55; refine (p_remove1 (d := ⟨d.f, d.max, (mayD d 0).1.left, (mayD d 0).1.down⟩) w1 w.heap.size (w.heap.size + 1) hk (K1.out.box BD.out rfl) (K1.out.box BN.out rfl) (by rw [← mayD_eta]; exact M1.out)).mono ?_; rintro e w2 ⟨rfl, hm2, hk2⟩; have M2 := Lib.hid hm2; have K3 := Lib.hid hk2; clear hm2 hk2)
          | go_in)
        go_ret
        rw [hr.out]
        exact ⟨rfl, M2.out, (K0.out.trans K1.out).trans K3.out⟩
  · have HC := Lib.hid (p_find_down H.out hdn n)
    have hr := Lib.hid (show endsD d n true = (d, 7) from by unfold endsD; rw [mayD_down hdn, if_pos (by simp)])
    clear hdn
    go_enter Try.func33, Try.ntmps33
    go_wp2_with (go_at_call 42; refine (HC.out).mono ?_; rintro e w' ⟨rfl, rfl⟩)
    go_ret
    rw [hr.out]
    exact ⟨rfl, ⟨rfl, m, gb, vv, H.out⟩, K0.out⟩
end
end Go.Proofs.Ytbdaflhmloodfaa
