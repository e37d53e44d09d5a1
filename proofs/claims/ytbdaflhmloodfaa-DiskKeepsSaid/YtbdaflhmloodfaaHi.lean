/- Layer 7, the project's disk: Sync, Remove. -/
import Derived.Test.YtbdaflhmloodfaaHe
import Derived.Test.YtbdaflhmloodfaaHh
namespace Go.Proofs.Ytbdaflhmloodfaa
open Go.RowKit
set_option linter.unusedVariables false

section
variable {S : Nat → Prop} {w w' : World} {l : List Fl} {m : Nat} {gb : ByteArray → Nat} {vv : ByteArray → Value} {g : Nat} {d : Dk} {p : Value}
theorem FilesR.synced (h : FilesR w S l m gb vv) {k : Nat} (hk : k < l.length) : FilesR (w.setCell ⟨gb l[k].name, 1, none⟩ (.int .i64 l[k].b.size)) S (l.set k ⟨l[k].name, l[k].b, l[k].b.size⟩) m gb (upd vv l[k].name (vv l[k].name)) := by
  have hf := h.file _ (List.getElem_mem hk)
  refine h.turn hk rfl ⟨hf.sg, hf.box.set 1 _, hf.own.to fun j o hj _ hjo => ?_, hf.sv⟩ (fun j hj => .inl hj) (fun i o hi _ hio => (Below.heap_setCell w ⟨gb l[k].name, 1, none⟩ _ i hi).trans hio)
  exact (Below.heap_setCell w ⟨gb l[k].name, 1, none⟩ _ j (fun e => hf.apart (by rw [hj, e]))).trans hjo

set_option maxHeartbeats 4000000 in
set_option maxRecDepth 100000 in
theorem p_sync1 (w : World) (bf : Nat) {k : Nat} (hk : k < d.f.length) (hbf : Box w bf #[.pointer (some ⟨gb d.f[k].name, 0, none⟩)] 67) (h : RdMp w S g d m gb vv) :
    Calls Try.prog 44 #[.pointer (some ⟨bf, 0, none⟩)] w fun e w' => e = .returned (.tuple #[]) ∧ RdM w' S g (.pointer (some ⟨g, 0, none⟩)) { d with f := d.f.set k ⟨d.f[k].name, d.f[k].b, d.f[k].b.size⟩ } ∧ Kept S w w' := by
  obtain ⟨hs, ⟨A, hb, hA⟩, hf⟩ := h
  have hff := hf.file _ (List.getElem_mem hk)
  have hgne : g ≠ gb d.f[k].name := fun e => by
    have := box_two hb (show Box w g _ _ from by rw [e]; exact hff.box)
    cases this
  have R := Lib.hid (show RdM (w.setCell ⟨gb d.f[k].name, 1, none⟩ (.int .i64 d.f[k].b.size)) S g (.pointer (some ⟨g, 0, none⟩)) { d with f := d.f.set k ⟨d.f[k].name, d.f[k].b, d.f[k].b.size⟩ } from
    ⟨rfl, m, gb, _, hs, ⟨A, hb.other _ _ hgne, hA⟩, hf.synced hk⟩)
  have KK := Lib.hid (show Kept S w (w.setCell ⟨gb d.f[k].name, 1, none⟩ (.int .i64 d.f[k].b.size)) from (Kept.refl S w).set hff.box hff.sg (projO_file _) 1 _)
  obtain ⟨v, hv⟩ : ∃ v, v = vv d.f[k].name := ⟨_, rfl⟩
  rw [← hv] at hff
  obtain ⟨X, c, e, -⟩ := own_cap hff.own
  subst e
  have hsz : d.f[k].b.data.toList.length = d.f[k].b.size := by simp
  have c0 : w.cell? ⟨gb d.f[k].name, 0, none⟩ = some (.slice X d.f[k].b.size c) := by rw [← hsz]; exact hff.box.cell 0 _ rfl
  have c1 := hff.box.cell 1 _ rfl
  have f1 := hff.box.frozen 1
  have cf := hbf.cell 0 _ rfl
  clear hb hA hf hff hgne hv hsz hs hbf
  generalize gb d.f[k].name = gf at *
  generalize d.f[k].b.size = z at *
  go_enter Try.func44, Try.ntmps44
  go_wp2_with fail
  go_still_tail 8, (by kernel_rfl)
  go_wp2_with fail
  go_end0
  exact ⟨rfl, R.out.on (Below.refl _ _).drew, KK.out.drew⟩

set_option maxHeartbeats 4000000 in
set_option maxRecDepth 100000 in
theorem p_sync (h : RdM w S g p d) (hd : OkD d) (hS : ∀ i, w.heap.size ≤ i → S i) (n : ByteArray) (hn : n.size ≤ 9223372036854775807) :
    Calls Try.prog 18 #[p, .string n] w fun e w' => e = .returned (.int .i64 (endsD d n false).2) ∧ RdM w' S g p (endsD d n false).1 ∧ Kept S w w' := by
  obtain ⟨rfl, m, gb, vv, h⟩ := h
  have HSZ := Lib.hid hn
  have hleft := Lib.hid hd.left
  have H := Lib.hid h
  have HS := Lib.hid hS
  clear hn h hS hd
  cases hdn : d.down
  · by_cases hat : atF d.f n < 0
    · have HC := Lib.hid (p_find_none H.out hdn n HSZ.out (atF_none hat))
      have hr := Lib.hid (show endsD d n false = (d, 8) from by
        have he : goneE d n = 8 := by unfold goneE; rw [if_pos hat]
        unfold endsD; rw [he, mayD_err hdn (by omega), if_pos (by simp)])
      have H2 := Lib.hid (H.out.on (alloc_below _ (.cells #[.pointer none] 67)))
      clear hdn hat
      go_enter Try.func18, Try.ntmps18
      go_wp2_with (go_at_call 42; refine (HC.out).mono ?_; rintro e w' ⟨rfl, rfl⟩)
      go_ret
      rw [hr.out]
      exact ⟨rfl, ⟨rfl, m, gb, vv, H2.out⟩, (Kept.refl S w).alloc _⟩
    · obtain ⟨hk, hkn⟩ := atF_some hat
      have HC := Lib.hid (p_find_hit H.out hdn (List.getElem_mem hk))
      have hE := Lib.hid (show goneE d n = 0 from by unfold goneE; rw [if_neg hat])
      have hA := Lib.hid (show endsD d n false = (if (mayD d (goneE d n)).2 ≠ 0 then mayD d (goneE d n) else ({ (mayD d (goneE d n)).1 with f := if false = true then cutF7 d.f (atF d.f n).toNat else syncF d.f (atF d.f n).toNat }, 0)) from rfl)
      generalize (atF d.f n).toNat = k at *
      subst hkn
      have hst := Lib.hid (show syncF d.f k = d.f.set k ⟨d.f[k].name, d.f[k].b, d.f[k].b.size⟩ from by unfold syncF; rw [List.getElem?_eq_getElem hk])
      obtain ⟨W2, hW2⟩ : ∃ W2, W2 = w.alloc (.cells #[.pointer (some ⟨gb d.f[k].name, 0, none⟩)] 67) := ⟨_, rfl⟩
      have H2 := Lib.hid (show RdMp W2 S g d m gb vv from by rw [hW2]; exact H.out.on (alloc_below _ _))
      have K2 := Lib.hid (show Kept S w W2 from by rw [hW2]; exact (Kept.refl S w).alloc _)
      have BF := Lib.hid (show Box W2 w.heap.size #[.pointer (some ⟨gb d.f[k].name, 0, none⟩)] 67 from by rw [hW2]; exact Box.new _ _ _ _ rfl)
      have HDN := Lib.hid hdn
      have HW2 := Lib.hid hW2.symm
      clear hat hdn hW2
      by_cases hl0 : d.left = 0
      · have HL := Lib.hid (show decide (d.left = 0) = true from decide_eq_true hl0)
        have hr := Lib.hid (show endsD d d.f[k].name false = ((mayD d 0).1, 7) from by
          rw [hA.out, hE.out, mayD_goes HDN.out hl0, if_pos (by simp)])
        clear hl0
        go_enter Try.func18, Try.ntmps18
        go_wp2_with (first
          | (go_at_call 42; refine (HC.out).mono ?_; rintro e w' ⟨rfl, rfl⟩)
          | (go_at_call 57; rw [HW2.out]; refine (p_goes H2.out HDN.out hleft.out).mono ?_; rintro e w1 ⟨rfl, hm1, hk1, -⟩; have M1 := Lib.hid hm1; have K1 := Lib.hid hk1; clear hm1 hk1; rw [HL.out])
          | (go_at_call 41; refine (p_nothing _).mono ?_; rintro e w2 ⟨rfl, rfl⟩)
          | go_in)
        go_ret
        rw [hr.out]
        exact ⟨rfl, ⟨rfl, m, gb, vv, M1.out⟩, K2.out.trans K1.out⟩
      · have HL := Lib.hid (show decide (d.left = 0) = false from decide_eq_false hl0)
        have hr := Lib.hid (show endsD d d.f[k].name false = (⟨d.f.set k ⟨d.f[k].name, d.f[k].b, d.f[k].b.size⟩, d.max, (mayD d 0).1.left, (mayD d 0).1.down⟩, 0) from by
          rw [hA.out, hE.out, if_neg (by rw [mayD_ok HDN.out hl0]; simp), if_neg (by simp), hst.out]; simp only [(mayD_f d 0).2])
        clear hl0
        go_enter Try.func18, Try.ntmps18
        go_wp2_with (first
          | (go_at_call 42; refine (HC.out).mono ?_; rintro e w' ⟨rfl, rfl⟩)
          | (go_at_call 57; rw [HW2.out]; refine (p_goes H2.out HDN.out hleft.out).mono ?_; rintro e w1 ⟨rfl, hm1, hk1, -⟩; have M1 := Lib.hid hm1; have K1 := Lib.hid hk1; clear hm1 hk1; rw [HL.out])
          | (go_at_call 44; refine (p_sync1 (d := ⟨d.f, d.max, (mayD d 0).1.left, (mayD d 0).1.down⟩) w1 w.heap.size hk (K1.out.box BF.out rfl) (by rw [← mayD_eta]; exact M1.out)).mono ?_; rintro e w2 ⟨rfl, hm2, hk2⟩; have M2 := Lib.hid hm2; have K3 := Lib.hid hk2; clear hm2 hk2)
          | go_in)
        go_ret
        rw [hr.out]
        exact ⟨rfl, M2.out, (K2.out.trans K1.out).trans K3.out⟩
  · have HC := Lib.hid (p_find_down H.out hdn n)
    have hr := Lib.hid (show endsD d n false = (d, 7) from by unfold endsD; rw [mayD_down hdn, if_pos (by simp)])
    have H2 := Lib.hid (H.out.on (alloc_below _ (.cells #[.pointer none] 67)))
    clear hdn
    go_enter Try.func18, Try.ntmps18
    go_wp2_with (go_at_call 42; refine (HC.out).mono ?_; rintro e w' ⟨rfl, rfl⟩)
    go_ret
    rw [hr.out]
    exact ⟨rfl, ⟨rfl, m, gb, vv, H2.out⟩, (Kept.refl S w).alloc _⟩
end
end Go.Proofs.Ytbdaflhmloodfaa
