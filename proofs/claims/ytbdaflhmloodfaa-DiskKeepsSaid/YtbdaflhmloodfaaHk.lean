/- Layer 7, the project's disk: Rename. -/
import Derived.Test.YtbdaflhmloodfaaHj
namespace Go.Proofs.Ytbdaflhmloodfaa
open Go.RowKit
set_option linter.unusedVariables false

section
variable {S : Nat → Prop} {w w' : World} {l : List Fl} {m : Nat} {gb : ByteArray → Nat} {vv : ByteArray → Value} {g : Nat} {d : Dk} {p : Value}
theorem FilesR.mapHeap (h : FilesR w S l m gb vv) (hg : w.grownBy w' (some m)) {i : Nat} {o : Obj} (hi : w.heap[i]? = some o) (hne : ∀ es c, o ≠ .map es c) : w'.heap[i]? = some o := by
  obtain ⟨es, c, hm⟩ := h.block
  have him : i ≠ m := fun e => hne es c (Option.some.inj (hi.symm.trans (by rw [e]; exact hm)))
  exact (hg.block i (Array.getElem?_eq_some_iff.1 hi).1 (fun e => him (by injection e))).trans hi
theorem FilesR.mapFile (h : FilesR w S l m gb vv) (hg : w.grownBy w' (some m)) {x : Nat} {v : Value} {f : Fl} (hf : FileR w S x v f) : FileR w' S x v f :=
  ⟨hf.sg, h.mapHeap hg hf.box (by intro es c e; cases e), ⟨hf.own.1, by
      rcases hf.own.2 with h2 | ⟨g', cap, cur, e1, hg', hc, h3⟩
      · exact .inl h2
      · exact .inr ⟨g', cap, cur, e1, hg', h.mapHeap hg hc (by intro es c e; cases e), h3⟩⟩, hf.sv⟩

set_option maxHeartbeats 4000000 in
set_option maxRecDepth 100000 in
theorem p_rename1 (w : World) (bd bn bf bt : Nat) (t : ByteArray) {k : Nat} (hk : k < d.f.length) (hbd : Box w bd #[.pointer (some ⟨g, 0, none⟩)] 23) (hbn : Box w bn #[.string d.f[k].name] 9) (hbf : Box w bf #[.pointer (some ⟨gb d.f[k].name, 0, none⟩)] 67) (hbt : Box w bt #[.string t] 9) (h : RdMp w S g d m gb vv) (ht : t.size ≤ 20) (hl : d.f.length ≤ 1000000) :
    Calls Try.prog 54 #[.pointer (some ⟨bd, 0, none⟩), .pointer (some ⟨bn, 0, none⟩), .pointer (some ⟨bf, 0, none⟩), .pointer (some ⟨bt, 0, none⟩)] w fun e w' => e = .returned (.tuple #[]) ∧ RdM w' S g (.pointer (some ⟨g, 0, none⟩)) { d with f := putF (cutF7 d.f k) ⟨t, d.f[k].b, d.f[k].safe⟩ } ∧ Kept S w w' := by
  obtain ⟨hs, ⟨A, hb, hA⟩, hf⟩ := h
  have HB := Lib.hid (show Box w.drew _ _ _ from hb)
  have HF := Lib.hid (hf.on (Below.refl _ w).drew)
  have HS := Lib.hid hs
  have HA := Lib.hid hA
  have HT := Lib.hid ht
  have hcl := Lib.hid (show (cutF7 d.f k).length ≤ 1000000 from by rw [len_cut d.f k hk]; omega)
  have BD := Lib.hid (show Box w.drew _ _ _ from hbd)
  have BF := Lib.hid (show Box w.drew _ _ _ from hbf)
  have BT := Lib.hid (show Box w.drew _ _ _ from hbt)
  have c0 := hb.cell 0 _ rfl
  have d0 := hbd.cell 0 _ rfl
  have n0 := hbn.cell 0 _ rfl
  clear hb hA hf hs hbd hbn hbf hbt ht hl
  go_enter Try.func54, Try.ntmps54
  go_wp2_with fail
  go_still_tail 5, (by kernel_rfl)
  go_wp2_with (at_delete; refine wpl_del7 rfl (.tmp 7) (.tmp 8) rfl hk rfl rfl HF.out ?_; intro w1 hf1 hg1; have F1 := Lib.hid hf1; have G1 := Lib.hid hg1; clear hf1 hg1)
  have B1 := Lib.hid (HF.out.mapBox G1.out HB.out)
  have c0 := B1.out.cell 0 _ rfl
  have d0 := (HF.out.mapBox G1.out BD.out).cell 0 _ rfl
  have f0 := (HF.out.mapBox G1.out BF.out).cell 0 _ rfl
  have t0 := (HF.out.mapBox G1.out BT.out).cell 0 _ rfl
  go_wp2_with fail
  go_still_tail 6, (by kernel_rfl)
  have FQ := Lib.hid (show FileR w1.drew S (gb d.f[k].name) (vv d.f[k].name) ⟨t, d.f[k].b, d.f[k].safe⟩ from by
    have h1 := HF.out.mapFile G1.out (HF.out.file _ (List.getElem_mem hk))
    exact ⟨h1.sg, h1.box, h1.own, h1.sv⟩)
  have AP := Lib.hid (show ∀ f ∈ cutF7 d.f k, f.name ≠ t → gb f.name ≠ gb d.f[k].name ∧ ∀ j, (vv f.name).ownBlock = some j → (vv d.f[k].name).ownBlock ≠ some j from fun f hf _ => by
    obtain ⟨a, b⟩ := (mem_cutF HF.out.sorted hk).1 hf
    exact HF.out.apart f a _ (List.getElem_mem hk) b)
  go_wp2_with (at_mapUpdate; refine wpl_put7 rfl (.tmp 12) (.tmp 13) (.tmp 14) rfl (q := ⟨t, d.f[k].b, d.f[k].safe⟩) rfl rfl rfl (F1.out.on (Below.refl _ w1).drew) hcl.out FQ.out HT.out AP.out ?_; intro w2 hf2 hg2; have F2 := Lib.hid hf2; have G2 := Lib.hid hg2; clear hf2 hg2)
  go_end0
  exact ⟨rfl, ⟨rfl, m, _, _, HS.out, ⟨A, (F1.out.on (Below.refl _ w1).drew).mapBox G2.out (show Box w1.drew _ _ _ from B1.out), HA.out⟩, F2.out⟩, ((Kept.refl S w).drew.trans (HF.out.mapKept G1.out)).drew.trans ((F1.out.on (Below.refl _ w1).drew).mapKept G2.out)⟩

set_option maxHeartbeats 4000000 in
set_option maxRecDepth 100000 in
theorem p_rename (h : RdM w S g p d) (hd : OkD d) (hS : ∀ i, w.heap.size ≤ i → S i) (n t : ByteArray) (hn : n.size ≤ 9223372036854775807) (ht : t.size ≤ 9223372036854775807) :
    Calls Try.prog 31 #[p, .string n, .string t] w fun e w' => e = .returned (.int .i64 (renameD d n t).2) ∧ RdM w' S g p (renameD d n t).1 ∧ Kept S w w' := by
  obtain ⟨rfl, m, gb, vv, h⟩ := h
  have HSZ := Lib.hid hn
  have HTZ := Lib.hid ht
  have hleft := Lib.hid hd.left
  have hlen := Lib.hid hd.len
  have HS := Lib.hid hS
  obtain ⟨W0, hW0⟩ : ∃ W0, ((w.alloc (.cells #[.pointer (some ⟨g, 0, none⟩)] 23)).alloc (.cells #[.string n] 9)).alloc (.cells #[.string t] 9) = W0 := ⟨_, rfl⟩
  have hWs : W0.heap.size = w.heap.size + 3 := by rw [← hW0]; simp
  have H := Lib.hid (show RdMp W0 S g d m gb vv from by rw [← hW0]; exact ((h.on (alloc_below _ _)).on (alloc_below _ _)).on (alloc_below _ _))
  have K0 := Lib.hid (show Kept S w W0 from by rw [← hW0]; exact (((Kept.refl S w).alloc _).alloc _).alloc _)
  have BD := Lib.hid (show Box W0 w.heap.size #[.pointer (some ⟨g, 0, none⟩)] 23 from by rw [← hW0]; exact ((Box.new w _ _ _ rfl).alloc _).alloc _)
  have BN := Lib.hid (show Box W0 (w.heap.size + 1) #[.string n] 9 from by rw [← hW0]; exact (Box.new _ _ _ _ (by simp)).alloc _)
  have BT := Lib.hid (show Box W0 (w.heap.size + 2) #[.string t] 9 from by rw [← hW0]; exact Box.new _ _ _ _ (by simp))
  have d0 := BD.out.cell 0 _ rfl
  have n0 := BN.out.cell 0 _ rfl
  have t0 := BT.out.cell 0 _ rfl
  have HWS := Lib.hid hWs
  clear hn h hS hd ht
  cases hdn : d.down
  · by_cases hat : atF d.f n < 0
    · have HC := Lib.hid (p_find_none H.out hdn n HSZ.out (atF_none hat))
      have hr := Lib.hid (show renameD d n t = (d, 8) from by
        have he : renameE d n t = 8 := by unfold renameE; rw [if_pos hat]
        unfold renameD; rw [he, mayD_err hdn (by omega), if_pos (by simp)])
      clear hdn hat
      go_enter Try.func31, Try.ntmps31
      go_wp2_with (go_at_call 42; refine (HC.out).mono ?_; rintro e w' ⟨rfl, rfl⟩)
      go_ret
      rw [hr.out]
      exact ⟨rfl, ⟨rfl, m, gb, vv, H.out.on (alloc_below _ _)⟩, K0.out.alloc _⟩
    · obtain ⟨hk, hkn⟩ := atF_some hat
      have HC := Lib.hid (p_find_hit H.out hdn (List.getElem_mem hk))
      have hE := Lib.hid (show renameE d n t = if nameB t.data.toList = false then 1 else 0 from by unfold renameE; rw [if_neg hat])
      have hA := Lib.hid (show renameD d n t = (if (mayD d (renameE d n t)).2 ≠ 0 then mayD d (renameE d n t) else ({ (mayD d (renameE d n t)).1 with f := renF d.f (atF d.f n).toNat t }, 0)) from rfl)
      generalize (atF d.f n).toNat = k at *
      subst hkn
      have hst := Lib.hid (show renF d.f k t = putF (cutF7 d.f k) ⟨t, d.f[k].b, d.f[k].safe⟩ from by unfold renF; rw [List.getElem?_eq_getElem hk])
      have HDN := Lib.hid hdn
      obtain ⟨W2, hW2⟩ : ∃ W2, W0.alloc (.cells #[.pointer (some ⟨gb d.f[k].name, 0, none⟩)] 67) = W2 := ⟨_, rfl⟩
      have H2 := Lib.hid (show RdMp W2 S g d m gb vv from by rw [← hW2]; exact H.out.on (alloc_below _ _))
      have K2 := Lib.hid (show Kept S w W2 from by rw [← hW2]; exact K0.out.alloc _)
      have BF := Lib.hid (show Box W2 W0.heap.size #[.pointer (some ⟨gb d.f[k].name, 0, none⟩)] 67 from by rw [← hW2]; exact Box.new _ _ _ _ rfl)
      have BD2 := Lib.hid (show Box W2 w.heap.size #[.pointer (some ⟨g, 0, none⟩)] 23 from by rw [← hW2]; exact BD.out.alloc _)
      have BN2 := Lib.hid (show Box W2 (w.heap.size + 1) #[.string d.f[k].name] 9 from by rw [← hW2]; exact BN.out.alloc _)
      have BT2 := Lib.hid (show Box W2 (w.heap.size + 2) #[.string t] 9 from by rw [← hW2]; exact BT.out.alloc _)
      have HW2 := Lib.hid hW2
      have t2 : (W0.alloc (.cells #[.pointer (some ⟨gb d.f[k].name, 0, none⟩)] 67)).cell? ⟨w.heap.size + 2, 0, none⟩ = some (.string t) := (BT.out.alloc _).cell 0 _ rfl
      have d2 : (W0.alloc (.cells #[.pointer (some ⟨gb d.f[k].name, 0, none⟩)] 67)).cell? ⟨w.heap.size, 0, none⟩ = some (.pointer (some ⟨g, 0, none⟩)) := (BD.out.alloc _).cell 0 _ rfl
      clear hat hdn hW2 hWs
      cases hnm : nameB t.data.toList
      · have HN := Lib.hid hnm
        have hr := Lib.hid (show renameD d d.f[k].name t = (d, 1) from by rw [hA.out, hE.out, if_pos hnm, mayD_err HDN.out (by omega), if_pos (by simp)])
        clear hnm
        go_enter Try.func31, Try.ntmps31
        go_wp2_with (first
          | (go_at_call 42; refine (HC.out).mono ?_; rintro e w' ⟨rfl, rfl⟩)
          | (go_at_call 38; refine (p_isName t _ HTZ.out).mono ?_; rintro e w' ⟨rfl, rfl⟩; rw [HN.out]))
        go_ret
        rw [hr.out, HW2.out]
        exact ⟨rfl, ⟨rfl, m, gb, vv, H2.out⟩, K2.out⟩
      · have HN := Lib.hid hnm
        have ht20 := Lib.hid (nameB_size hnm)
        have hE0 := Lib.hid (show renameE d d.f[k].name t = 0 from by rw [hE.out, hnm]; simp)
        clear hnm
        by_cases hl0 : d.left = 0
        · have HL := Lib.hid (show decide (d.left = 0) = true from decide_eq_true hl0)
          have hr := Lib.hid (show renameD d d.f[k].name t = ((mayD d 0).1, 7) from by
            rw [hA.out, hE0.out, mayD_goes HDN.out hl0, if_pos (by simp)])
          clear hl0
          go_enter Try.func31, Try.ntmps31
          go_wp2_with (first
            | (go_at_call 42; refine (HC.out).mono ?_; rintro e w' ⟨rfl, rfl⟩)
            | (go_at_call 38; refine (p_isName t _ HTZ.out).mono ?_; rintro e w' ⟨rfl, rfl⟩; rw [HN.out])
            | (go_at_call 57; rw [HW2.out]; refine (p_goes H2.out HDN.out hleft.out).mono ?_; rintro e w1 ⟨rfl, hm1, hk1, -⟩; have M1 := Lib.hid hm1; have K1 := Lib.hid hk1; clear hm1 hk1; rw [HL.out])
            | (go_at_call 41; refine (p_nothing _).mono ?_; rintro e w2 ⟨rfl, rfl⟩)
            | go_in)
          go_ret
          rw [hr.out]
          exact ⟨rfl, ⟨rfl, m, gb, vv, M1.out⟩, K2.out.trans K1.out⟩
        · have HL := Lib.hid (show decide (d.left = 0) = false from decide_eq_false hl0)
          have hr := Lib.hid (show renameD d d.f[k].name t = (⟨putF (cutF7 d.f k) ⟨t, d.f[k].b, d.f[k].safe⟩, d.max, (mayD d 0).1.left, (mayD d 0).1.down⟩, 0) from by
            rw [hA.out, hE0.out, if_neg (by rw [mayD_ok HDN.out hl0]; simp), hst.out]; simp only [(mayD_f d 0).2])
          clear hl0
          go_enter Try.func31, Try.ntmps31
          go_wp2_with (first
            | (go_at_call 42; refine (HC.out).mono ?_; rintro e w' ⟨rfl, rfl⟩)
            | (go_at_call 38; refine (p_isName t _ HTZ.out).mono ?_; rintro e w' ⟨rfl, rfl⟩; rw [HN.out])
            | (go_at_call 57; rw [HW2.out]; refine (p_goes H2.out HDN.out hleft.out).mono ?_; rintro e w1 ⟨rfl, hm1, hk1, -⟩; have M1 := Lib.hid hm1; have K1 := Lib.hid hk1; clear hm1 hk1; rw [HL.out])
            | (go_at_call 54; refine (p_rename1 (d := ⟨d.f, d.max, (mayD d 0).1.left, (mayD d 0).1.down⟩) w1 _ _ _ _ t hk (K1.out.box BD2.out rfl) (K1.out.box BN2.out rfl) (K1.out.box BF.out rfl) (K1.out.box BT2.out rfl) (by rw [← mayD_eta]; exact M1.out) ht20.out (by have := hlen.out; simp only; omega)).mono ?_; rintro e w2 ⟨rfl, hm2, hk2⟩; have M2 := Lib.hid hm2; have K3 := Lib.hid hk2; clear hm2 hk2)
            | go_in)
          go_ret
          rw [hr.out]
          exact ⟨rfl, M2.out, (K2.out.trans K1.out).trans K3.out⟩
  · have HC := Lib.hid (p_find_down H.out hdn n)
    have hr := Lib.hid (show renameD d n t = (d, 7) from by unfold renameD; rw [mayD_down hdn, if_pos (by simp)])
    clear hdn
    go_enter Try.func31, Try.ntmps31
    go_wp2_with (go_at_call 42; refine (HC.out).mono ?_; rintro e w' ⟨rfl, rfl⟩)
    go_ret
    rw [hr.out]
    exact ⟨rfl, ⟨rfl, m, gb, vv, H.out.on (alloc_below _ _)⟩, K0.out.alloc _⟩
end
end Go.Proofs.Ytbdaflhmloodfaa
