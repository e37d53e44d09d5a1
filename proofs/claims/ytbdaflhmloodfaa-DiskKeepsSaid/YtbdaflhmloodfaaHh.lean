/- Layer 7, the project's disk: Append. -/
import Derived.Test.YtbdaflhmloodfaaHf
import Derived.Test.YtbdaflhmloodfaaHg
namespace Go.Proofs.Ytbdaflhmloodfaa
open Go.RowKit
set_option linter.unusedVariables false

section
variable {S : Nat → Prop} {w w' w7 : World} {l : List Fl} {m : Nat} {gb : ByteArray → Nat} {vv : ByteArray → Value} {g : Nat} {d : Dk} {p : Value}
theorem mayD_eta (d : Dk) : (mayD d 0).1 = ⟨d.f, d.max, (mayD d 0).1.left, (mayD d 0).1.down⟩ := by
  obtain ⟨h1, h2⟩ := mayD_f d 0
  generalize (mayD d 0).1 = x at *
  obtain ⟨a, b, c, e⟩ := x
  simp only at h1 h2
  subst h1 h2
  rfl

/-- Bytes that are read are none of the disk's own cells. -/
theorem RdB.beside {B : Nat} {u : Value} {x : List UInt8} (h : RdB w B u x) {v0 v1 v2 v3 : Value} {t : TypeId} (hb : Box w g #[v0, v1, v2, v3] t) (hv : ∀ z : Int, v0 ≠ .int .u8 z ∧ v1 ≠ .int .u8 z ∧ v2 ≠ .int .u8 z ∧ v3 ≠ .int .u8 z) (hg : w.grownBy w' (some g)) : RdB w' B u x := by
  obtain ⟨A, c, rfl, h1, h2, h3⟩ := h
  refine ⟨A, c, rfl, h1, h2, fun hp => ?_⟩
  obtain ⟨b, o, e, hB, hc⟩ := h3 hp
  have hne : b ≠ g := fun e2 => by
    subst e2
    have h0 := hc 0 x[0] (by simp [hp])
    have hcell : w.cell? ⟨b, o + 0, none⟩ = #[v0, v1, v2, v3][o + 0]? := cell_of_row _ _ _ _ _ (0, 0) hb
    rw [hcell] at h0
    obtain ⟨a0, a1, a2, a3⟩ := hv x[0].toNat
    match o, h0 with
    | 0, h0 => exact a0 (by simpa using h0)
    | 1, h0 => exact a1 (by simpa using h0)
    | 2, h0 => exact a2 (by simpa using h0)
    | 3, h0 => exact a3 (by simpa using h0)
    | n + 4, h0 => simp at h0
  refine ⟨b, o, e, hB, fun k y hk => ?_⟩
  have h0 := hc k y hk
  rw [World.cell?_of_block (w := w) (hg.block b (cell_lt h0) (fun e2 => hne (by injection e2)))]
  exact h0

set_option maxHeartbeats 4000000 in
set_option maxRecDepth 100000 in
theorem p_append (h : RdM w S g p d) (hd : OkD d) (hS : ∀ i, w.heap.size ≤ i → S i) (n b : ByteArray) (hn : n.size ≤ 9223372036854775807) (hbs : b.size ≤ 1000000) (u : Value) (hu : RdB w w.heap.size u b.data.toList) :
    Calls Try.prog 17 #[p, .string n, u] w fun e w' => e = .returned (.int .i64 (appendD d n b).2) ∧ RdM w' S g p (appendD d n b).1 ∧ Kept S w w' := by
  obtain ⟨rfl, m, gb, vv, h⟩ := h
  obtain ⟨X, c, e, hu1, hu2, hu3⟩ := hu
  have hbl : b.data.toList.length = b.size := by simp
  rw [hbl] at e hu1 hu3
  subst e
  have HU := Lib.hid (show RdB w w.heap.size (.slice X b.size c) b.data.toList from ⟨X, c, by rw [hbl], by rw [hbl]; exact hu1, hu2, by rw [hbl]; exact hu3⟩)
  have HSZ := Lib.hid hn
  have HBS := Lib.hid hbs
  have HD := Lib.hid hd
  have hleft := Lib.hid hd.left
  have hused := Lib.hid hd.used
  have hmax := Lib.hid hd.max
  have H := Lib.hid h
  have HS := Lib.hid hS
  have H1 := Lib.hid (h.on (alloc_below w (.cells #[.slice X b.size c] 38)))
  have K1 := Lib.hid ((Kept.refl S w).alloc (.cells #[.slice X b.size c] 38))
  clear hn hbs h hS hu1 hu2 hu3 hbl hd
  cases hdn : d.down
  · by_cases hat : atF d.f n < 0
    · have HC := Lib.hid (p_find_none H1.out hdn n HSZ.out (atF_none hat))
      have hr := Lib.hid (show appendD d n b = (d, 8) from by
        have he : appendE d n b = 8 := by unfold appendE; rw [if_pos hat]
        unfold appendD; rw [he, mayD_err hdn (by omega), if_neg (by simp)])
      have H2 := Lib.hid (H1.out.on (alloc_below _ (.cells #[.pointer none] 67)))
      clear hdn hat
      go_enter Try.func17, Try.ntmps17
      go_wp2_with (go_at_call 42; refine (HC.out).mono ?_; rintro e w' ⟨rfl, rfl⟩)
      go_ret
      rw [hr.out]
      exact ⟨rfl, ⟨rfl, m, gb, vv, H2.out⟩, K1.out.alloc _⟩
    · obtain ⟨hk, hkn⟩ := atF_some hat
      have hdn' := hdn
      have HC := Lib.hid (p_find_hit H1.out hdn (List.getElem_mem hk))
      have hsz := usedF_ge d.f _ hk
      have hE := Lib.hid (show appendE d n b = if d.max < usedF d.f + b.size then 6 else 0 from by unfold appendE; rw [if_neg hat])
      have hA := Lib.hid (show appendD d n b = (if (mayD d (appendE d n b)).2 = 0 ∨ ((mayD d (appendE d n b)).2 = 7 ∧ d.down = false) then ({ (mayD d (appendE d n b)).1 with f := setBF d.f (atF d.f n).toNat b }, (mayD d (appendE d n b)).2) else mayD d (appendE d n b)) from rfl)
      generalize (atF d.f n).toNat = k at *
      subst hkn
      have hst := Lib.hid (show setBF d.f k b = d.f.set k ⟨d.f[k].name, d.f[k].b ++ b, d.f[k].safe⟩ from by unfold setBF; rw [List.getElem?_eq_getElem hk])
      have hfs := Lib.hid (show d.f[k].b.size + b.size ≤ 1000000000000 from by have := hused.out; have := HBS.out; omega)
      obtain ⟨W2, hW2⟩ : ∃ W2, W2 = (w.alloc (.cells #[.slice X b.size c] 38)).alloc (.cells #[.pointer (some ⟨gb d.f[k].name, 0, none⟩)] 67) := ⟨_, rfl⟩
      have H2 := Lib.hid (show RdMp W2 S g d m gb vv from by rw [hW2]; exact H1.out.on (alloc_below _ _))
      have K2 := Lib.hid (show Kept S w W2 from by rw [hW2]; exact K1.out.alloc _)
      have BF := Lib.hid (show Box W2 (w.heap.size + 1) #[.pointer (some ⟨gb d.f[k].name, 0, none⟩)] 67 from by rw [hW2]; exact Box.new _ _ _ _ (by simp))
      have BB := Lib.hid (show Box W2 w.heap.size #[.slice X b.size c] 38 from by rw [hW2]; exact (Box.new w _ _ _ rfl).alloc _)
      have HU2 := Lib.hid (show RdB W2 W2.heap.size (.slice X b.size c) b.data.toList from by rw [hW2]; exact (HU.out.on (alloc_below _ _)).on (alloc_below _ _))
      obtain ⟨A, hb2, hA2⟩ := H2.out.box
      have DB := Lib.hid hb2
      have HDN := Lib.hid hdn
      have hw : IntKind.i64.wrap (usedF d.f + (b.size : Int)) = usedF d.f + (b.size : Int) := by have := hused.out; have := HBS.out; have := usedF_nn d.f; rw [IntKind.wrap_i64]; omega
      clear hb2 hA2 hat hdn hdn' hsz
      have HW2 := Lib.hid hW2.symm
      clear hW2
      go_enter Try.func17, Try.ntmps17
      go_wp2_with (go_at_call 42; refine (HC.out).mono ?_; rintro e w' ⟨rfl, rfl⟩)
      rw [HW2.out]
      refine reg_start (by kernel_rfl) ?_
      refine reg_take2 0 21 (v := ?_) (T' := ?_) (Later.refl _) (by kernel_rfl) (by kernel_rfl) (by kernel_rfl) (fun _ _ _ h => h) (fun o ho => ?_) ?_ ?_
      rotate_left 2
      · cases ho
        refine ⟨rfl, rfl, fun W hW => ?_⟩
        go_simp; (try with_reducible rfl)
      · simp only [List.setIfInBounds_toArray, List.set_cons_succ, List.set_cons_zero]; exact rfl
      refine reg_take2 2 23 (v := ?_) (T' := ?_) (Later.refl _) (by kernel_rfl) (by kernel_rfl) (by kernel_rfl) (fun _ _ _ h => h) (fun o ho => ?_) ?_ ?_
      rotate_left 2
      · cases ho
        refine ⟨rfl, rfl, fun W hW => ?_⟩
        have q1 := Box.cell (Box.on (show Box W2.drew _ _ _ from BB.out) hW BB.out.lt) 0 (.slice X b.size c) rfl
        go_simp; (try with_reducible rfl)
      · simp only [List.setIfInBounds_toArray, List.set_cons_succ, List.set_cons_zero]; exact rfl
      refine reg_take2 3 24 (v := ?_) (T' := ?_) (Later.refl _) (by kernel_rfl) (by kernel_rfl) (by kernel_rfl) (fun _ _ _ h => h) (fun o ho => ?_) ?_ ?_
      rotate_left 2
      · cases ho
        refine ⟨rfl, rfl, fun W hW => ?_⟩
        go_simp; (try with_reducible rfl)
      · simp only [List.setIfInBounds_toArray, List.set_cons_succ, List.set_cons_zero]; exact rfl
      refine reg_take2 5 26 (v := ?_) (T' := ?_) (Later.refl _) (by kernel_rfl) (by kernel_rfl) (by kernel_rfl) (fun _ _ _ h => h) (fun o ho => ?_) ?_ ?_
      rotate_left 2
      · cases ho
        refine ⟨rfl, rfl, fun W hW => ?_⟩
        go_simp; (try with_reducible rfl)
      · simp only [List.setIfInBounds_toArray, List.set_cons_succ, List.set_cons_zero]; exact rfl
      refine reg_take2 6 27 (v := ?_) (T' := ?_) (Later.refl _) (by kernel_rfl) (by kernel_rfl) (by kernel_rfl) (fun _ _ _ h => h) (fun o ho => ?_) ?_ ?_
      rotate_left 2
      · cases ho
        refine ⟨rfl, rfl, fun W hW => ?_⟩
        go_simp; (try with_reducible rfl)
      · simp only [List.setIfInBounds_toArray, List.set_cons_succ, List.set_cons_zero]; exact rfl
      refine reg_take2 7 28 (v := ?_) (T' := ?_) (Later.refl _) (by kernel_rfl) (by kernel_rfl) (by kernel_rfl) (fun _ _ _ h => h) (fun o ho => ?_) ?_ ?_
      rotate_left 2
      · cases ho
        refine ⟨rfl, rfl, fun W hW => ?_⟩
        go_simp; (try with_reducible rfl)
      · simp only [List.setIfInBounds_toArray, List.set_cons_succ, List.set_cons_zero]; exact rfl
      refine reg_take2 8 29 (v := ?_) (T' := ?_) (Later.refl _) (by kernel_rfl) (by kernel_rfl) (by kernel_rfl) (fun _ _ _ h => h) (fun o ho => ?_) ?_ ?_
      rotate_left 2
      · cases ho
        refine ⟨rfl, rfl, fun W hW => ?_⟩
        have q1 := Box.cell (Box.on (show Box W2.drew _ _ _ from DB.out) hW DB.out.lt) 1 (.int .i64 d.max) rfl
        go_simp; (try with_reducible rfl)
      · simp only [List.setIfInBounds_toArray, List.set_cons_succ, List.set_cons_zero]; exact rfl
      refine reg_call2 1 22 (Later.refl _) (by kernel_rfl) 22 #[.pointer (some ⟨g, 0, none⟩)] (fun o ho => by cases ho; exact ⟨rfl, rfl, fun W => by go_simp⟩) ?_
      refine (p_used ((RdM.mk rfl ⟨m, gb, vv, H2.out⟩).on (Below.refl _ W2).drew) (by have := hused.out; omega)).mono ?_
      rintro e x1 ⟨rfl, hb1⟩
      have G1 := Lib.hid hb1
      refine ⟨_, _, rfl, hb1, (by simp only [List.setIfInBounds_toArray, List.set_cons_succ, List.set_cons_zero]; exact rfl), ?_⟩
      clear hb1
      refine reg_take2 4 25 (v := ?_) (T' := ?_) (Later.refl _) (by kernel_rfl) (by kernel_rfl) (by kernel_rfl) (fun _ _ _ h => h) (fun o ho => ?_) ?_ ?_
      rotate_left 2
      · cases ho
        refine ⟨rfl, rfl, fun W hW => ?_⟩
        go_simp; (try with_reducible rfl)
      · simp only [List.setIfInBounds_toArray, List.set_cons_succ, List.set_cons_zero]; exact rfl
      refine reg_take2 9 30 (v := ?_) (T' := ?_) (Later.refl _) (by kernel_rfl) (by kernel_rfl) (by kernel_rfl) (fun _ _ _ h => h) (fun o ho => ?_) ?_ ?_
      rotate_left 2
      · cases ho
        refine ⟨rfl, rfl, fun W hW => ?_⟩
        go_simp; (try with_reducible rfl)
      · simp only [List.setIfInBounds_toArray, List.set_cons_succ, List.set_cons_zero]; exact rfl
      refine reg_take2 10 20 (v := ?_) (T' := ?_) (Later.refl _) (by kernel_rfl) (by kernel_rfl) (by kernel_rfl) (fun _ _ _ h => h) (fun o ho => ?_) ?_ ?_
      rotate_left 2
      · cases ho
        refine ⟨rfl, rfl, fun W hW => ?_⟩
        go_simp; (try with_reducible rfl)
      · simp only [List.setIfInBounds_toArray, List.set_cons_succ, List.set_cons_zero]; exact rfl
      refine reg_done (by kernel_rfl) ?_
      have H3 := Lib.hid ((H2.out.on (Below.refl _ W2).drew).on G1.out)
      have K3 := Lib.hid (K2.out.drew.trans (Kept.of_below G1.out))
      have BF3 := Lib.hid ((show Box W2.drew _ _ _ from BF.out).later G1.out)
      have BB3 := Lib.hid ((show Box W2.drew _ _ _ from BB.out).later G1.out)
      have DB3 := Lib.hid ((show Box W2.drew _ _ _ from DB.out).later G1.out)
      have HU3 := Lib.hid ((show RdB W2.drew W2.drew.heap.size _ _ from HU2.out).on G1.out)
      by_cases hq : d.max < usedF d.f + b.size
      · have zq : decide (d.max < usedF d.f + (b.size : Int)) = true := decide_eq_true hq
        have hr := Lib.hid (show appendD d d.f[k].name b = (d, 6) from by
          rw [hA.out, hE.out, if_pos hq, mayD_err HDN.out (by omega), if_neg (by simp)])
        clear zq
        go_wp2_with fail
        go_ret
        rw [hr.out]
        exact ⟨rfl, ⟨rfl, m, gb, vv, H3.out⟩, K3.out⟩
      · have zq : decide (d.max < usedF d.f + (b.size : Int)) = false := decide_eq_false hq
        have hr := Lib.hid (show appendD d d.f[k].name b = (⟨d.f.set k ⟨d.f[k].name, d.f[k].b ++ b, d.f[k].safe⟩, d.max, (mayD d 0).1.left, (mayD d 0).1.down⟩, (mayD d 0).2) from by
          rw [hA.out, hE.out, if_neg hq, if_pos (by
            by_cases hl0 : d.left = 0
            · exact .inr ⟨by rw [mayD_goes HDN.out hl0], HDN.out⟩
            · exact .inl (mayD_ok HDN.out hl0)), hst.out, (mayD_f d 0).2])
        have hq2 : usedF d.f + (b.size : Int) ≤ d.max := by omega
        clear hq zq
        by_cases hl0 : d.left = 0
        · have HL := Lib.hid (show decide (d.left = 0) = true from decide_eq_true hl0)
          have h7 := Lib.hid (show (mayD d 0).2 = 7 from by rw [mayD_goes HDN.out hl0])
          clear hl0
          go_wp2_with (first
            | (go_at_call 57; refine (p_goes H3.out HDN.out hleft.out).mono ?_; rintro e w1 ⟨rfl, hm1, hk1, hgr⟩; have M1 := Lib.hid hm1; have K4 := Lib.hid hk1; have HU4 := Lib.hid (HU3.out.beside DB3.out (fun z => ⟨by simp, by simp, by simp, by simp⟩) hgr); clear hm1 hk1 hgr; rw [HL.out])
            | (go_at_call 43; refine (p_append1 (d := ⟨d.f, d.max, (mayD d 0).1.left, (mayD d 0).1.down⟩) w1 (w.heap.size + 1) w.heap.size _ _ b hk (K4.out.box BF3.out rfl) (K4.out.box BB3.out rfl) HU4.out (by rw [← mayD_eta]; exact M1.out) (fun i hi => HS.out i (Nat.le_trans K3.out.size (Nat.le_trans K4.out.size hi))) hfs.out).mono ?_; rintro e w2 ⟨rfl, hm2, hk2⟩; have M2 := Lib.hid hm2; have K5 := Lib.hid hk2; clear hm2 hk2)
            | go_in)
          go_ret
          rw [hr.out]
          exact ⟨ret_int h7.out.symm, M2.out, (K3.out.trans K4.out).trans K5.out⟩
        · have HL := Lib.hid (show decide (d.left = 0) = false from decide_eq_false hl0)
          have h7 := Lib.hid (show (mayD d 0).2 = 0 from mayD_ok HDN.out hl0)
          clear hl0
          go_wp2_with (first
            | (go_at_call 57; refine (p_goes H3.out HDN.out hleft.out).mono ?_; rintro e w1 ⟨rfl, hm1, hk1, hgr⟩; have M1 := Lib.hid hm1; have K4 := Lib.hid hk1; have HU4 := Lib.hid (HU3.out.beside DB3.out (fun z => ⟨by simp, by simp, by simp, by simp⟩) hgr); clear hm1 hk1 hgr; rw [HL.out])
            | (go_at_call 43; refine (p_append1 (d := ⟨d.f, d.max, (mayD d 0).1.left, (mayD d 0).1.down⟩) w1 (w.heap.size + 1) w.heap.size _ _ b hk (K4.out.box BF3.out rfl) (K4.out.box BB3.out rfl) HU4.out (by rw [← mayD_eta]; exact M1.out) (fun i hi => HS.out i (Nat.le_trans K3.out.size (Nat.le_trans K4.out.size hi))) hfs.out).mono ?_; rintro e w2 ⟨rfl, hm2, hk2⟩; have M2 := Lib.hid hm2; have K5 := Lib.hid hk2; clear hm2 hk2)
            | go_in)
          go_ret
          rw [hr.out]
          exact ⟨ret_int h7.out.symm, M2.out, (K3.out.trans K4.out).trans K5.out⟩
  · have HC := Lib.hid (p_find_down H1.out hdn n)
    have hr := Lib.hid (show appendD d n b = (d, 7) from by unfold appendD; rw [mayD_down hdn, if_neg (by simp [hdn])])
    have H2 := Lib.hid (H1.out.on (alloc_below _ (.cells #[.pointer none] 67)))
    clear hdn
    go_enter Try.func17, Try.ntmps17
    go_wp2_with (go_at_call 42; refine (HC.out).mono ?_; rintro e w' ⟨rfl, rfl⟩)
    go_ret
    rw [hr.out]
    exact ⟨rfl, ⟨rfl, m, gb, vv, H2.out⟩, K1.out.alloc _⟩
end
end Go.Proofs.Ytbdaflhmloodfaa
