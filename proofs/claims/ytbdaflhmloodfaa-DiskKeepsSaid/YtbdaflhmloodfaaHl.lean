/- Layer 7, the project's disk: Read. -/
import Derived.Test.YtbdaflhmloodfaaHd
import Derived.Lib.SliceRun
namespace Go.Proofs.Ytbdaflhmloodfaa
open Go.RowKit
set_option linter.unusedVariables false

set_option maxHeartbeats 400000 in
theorem clone_any (v : Value) (l : List UInt8) (w : World) (h : RdB w w.heap.size v l) (hl : l.length ≤ 549755813888) :
    Calls Try.prog 48 #[v] w fun e w' => ∃ v', e = .returned v' ∧ OwnB w' w.heap.size v' l ∧ Below w.heap.size w w' := by
  have H := Lib.hid h
  obtain ⟨A, c, rfl, hlc, hc, h3⟩ := h
  have hq := fun W => Lib.run_eql_slice_nil (P := Try.prog) W 38 5 A l.length c 0 0 Try.underlying38
  cases A with
  | none =>
    have h0 : l.length = 0 := by
      rcases Nat.eq_zero_or_pos l.length with h0 | h0
      · exact h0
      · obtain ⟨b, o, e, _⟩ := h3 h0; cases e
    have h1 := Lib.hid (List.eq_nil_of_length_eq_zero h0)
    clear h3 h0
    go_enter Try.func48, Try.ntmps48
    go_wp2
    go_ret
    refine ⟨_, rfl, ?_, by go_grown⟩
    rw [h1.out]; exact OwnB.nil _ _
  | some p =>
    clear h3
    have H2 := Lib.hid ((H.out.on (alloc_below w (.cells #[] 5))))
    go_enter Try.func48, Try.ntmps48
    go_wp2_with (at_builtin; refine wpl_app_bytes rfl (.tmp 5) (.tmp 6) rfl w.heap.size _ _ _ [] l rfl rfl (own_new w _ [] 0 rfl rfl (by simp)) H2.out ?_ ?_ ?_; rotate_left 2; intro v1 w1 ho1 hg1 hs1)
    · go_ret
      exact ⟨v1, rfl, ho1, (alloc_below w _).trans (hg1.below (by simp) (OwnB.base (own_new w _ [] 0 rfl rfl (by simp))))⟩
    all_goals first | omega | (simp; done) | (simp; omega)

section
variable {S : Nat → Prop} {w w' : World} {l : List Fl} {m : Nat} {gb : ByteArray → Nat} {vv : ByteArray → Value} {g : Nat} {d : Dk} {p : Value}
theorem readF_past (s : ByteArray) (x n : Int) (h : (s.size : Int) ≤ x) : (readF s x n).data.toList = [] := by unfold readF; rw [if_pos h]
theorem readF_in (s : ByteArray) (k m : Nat) (n : Int) (h : k < s.size) (hm : (m : Int) = if (s.size : Int) - k < n then (s.size : Int) - k else n) : (readF s k n).data.toList = (s.data.toList.drop k).take m := by
  unfold readF
  rw [if_neg (by omega), ← hm, show ((k : Int)).toNat = k from by omega, show ((k : Int) + (m : Int)).toNat = k + m from by omega]
  rw [ByteArray.data_extract, Array.toList_extract, List.extract_eq_take_drop]
  simp

set_option maxHeartbeats 4000000 in
set_option maxRecDepth 100000 in
theorem p_read (h : RdM w S g p d) (n : ByteArray) (x y : Int) (hn : n.size ≤ 9223372036854775807) (hd : OkD d) (hx : -9223372036854775808 ≤ x ∧ x ≤ 9223372036854775807) (hy : -9223372036854775808 ≤ y ∧ y ≤ 9223372036854775807) :
    Calls Try.prog 21 #[p, .string n, .int .i64 x, .int .i64 y] w fun e w' => ∃ v, e = .returned (.tuple #[v, .int .i64 (readD d n x y).2]) ∧ OwnB w' w.heap.size v (readD d n x y).1.data.toList ∧ Below w.heap.size w w' := by
  obtain ⟨rfl, m, gb, vv, h⟩ := h
  have HSZ := Lib.hid hn
  have H := Lib.hid h
  have hused := Lib.hid hd.used
  clear hn h hd
  cases hdn : d.down
  · by_cases hat : atF d.f n < 0
    · have HC := Lib.hid (p_find_none H.out hdn n HSZ.out (atF_none hat))
      have hr := Lib.hid (show readD d n x y = (⟨#[]⟩, 8) from by
        unfold readD; rw [if_neg (by simp [hdn])]
        split
        · rfl
        · rw [if_pos hat])
      clear hdn hat
      go_enter Try.func21, Try.ntmps21
      go_wp2_with (go_at_call 42; refine (HC.out).mono ?_; rintro e w' ⟨rfl, rfl⟩)
      go_ret2
      rw [hr.out]
      exact ⟨_, rfl, OwnB.nil _ _, Below.refl _ _⟩
    · obtain ⟨hk, hkn⟩ := atF_some hat
      have HC := Lib.hid (p_find_hit H.out hdn (List.getElem_mem hk))
      have hA := Lib.hid (show readD d n x y = if x < 0 ∨ y < 0 then (⟨#[]⟩, 1) else (readF (d.f[(atF d.f n).toNat]).b x y, 0) from by
        unfold readD; rw [if_neg (by simp [hdn]), List.getElem?_eq_getElem hk]; simp only [if_neg hat])
      generalize (atF d.f n).toNat = k at *
      subst hkn
      have hff := H.out.files.file _ (List.getElem_mem hk)
      have hus := usedF_ge d.f k hk
      have hsb := Lib.hid (show (d.f[k].b.size : Int) ≤ 16777216 from by have := hused.out; omega)
      clear hat hdn hused hus
      generalize d.f[k] = f at *
      obtain ⟨v, hv⟩ : ∃ v, v = vv f.name := ⟨_, rfl⟩
      rw [← hv] at hff
      have hsz : f.b.data.toList.length = f.b.size := by simp
      have RB := hff.own.rd
      obtain ⟨X, c, e, -⟩ := own_cap hff.own
      rw [hsz] at e
      subst e
      have c0 := hff.box.cell 0 _ rfl
      clear hff hv
      by_cases hneg : x < 0 ∨ y < 0
      · have hr := Lib.hid (show readD d f.name x y = (⟨#[]⟩, 1) from by rw [hA.out, if_pos hneg])
        clear RB hsz hA hsb
        generalize gb f.name = gf at *
        generalize f.name = fn at *
        go_enter Try.func21, Try.ntmps21
        go_wp2_with (go_at_call 42; refine (HC.out).mono ?_; rintro e w' ⟨rfl, rfl⟩)
        all_goals first
          | (go_ret2
             rw [hr.out]
             exact ⟨_, rfl, OwnB.nil _ _, Below.refl _ _⟩)
          | (exfalso; omega)
      · have hr := Lib.hid (show readD d f.name x y = (readF f.b x y, 0) from by rw [hA.out, if_neg hneg])
        have hx0 : 0 ≤ x := by omega
        have hy0 : 0 ≤ y := by omega
        clear hneg
        by_cases hin : x < f.b.size
        · obtain ⟨k1, rfl⟩ : ∃ k1 : Nat, x = k1 := ⟨x.toNat, by omega⟩
          obtain ⟨m1, hm1⟩ : ∃ m1 : Nat, (m1 : Int) = if (f.b.size : Int) - k1 < y then (f.b.size : Int) - k1 else y := ⟨(if (f.b.size : Int) - k1 < y then (f.b.size : Int) - k1 else y).toNat, by split <;> omega⟩
          have hres := Lib.hid (readF_in f.b k1 m1 y (by omega) hm1)
          obtain ⟨r, hr0⟩ : ∃ r : Nat, r = f.b.size - k1 := ⟨_, rfl⟩
          have hri : (r : Int) = (f.b.size : Int) - k1 := by omega
          obtain ⟨X1, c1, hs1, RB1⟩ := sl_tail RB k1 k1 rfl (by omega)
          rw [hsz, ← hr0] at hs1 RB1
          obtain ⟨X2, c2, hs2, RB2⟩ := sl_head RB1 m1 m1 rfl (by rw [List.length_drop]; split at hm1 <;> omega)
          have RB2 := Lib.hid RB2
          have hl2 := Lib.hid (show ((f.b.data.toList.drop k1).take m1).length ≤ 549755813888 from by have := hsb.out; rw [List.length_take, List.length_drop]; omega)
          rw [← hri] at hm1
          have hsb2 := hsb.out
          clear RB RB1 hA
          generalize gb f.name = gf at *
          by_cases hmy : (r : Int) < y
          · rw [if_pos hmy] at hm1
            obtain rfl : m1 = r := by omega
            have hmn : min (k1 : Int) (f.b.size : Int) = k1 := by omega
            have hmnN : min k1 f.b.size = k1 := by omega
            have hmn2 : min y (m1 : Int) = m1 := by omega
            clear hm1 hsz hr0 hri
            go_enter Try.func21, Try.ntmps21
            go_wp2_with (go_at_call 42; refine (HC.out).mono ?_; rintro e w' ⟨rfl, rfl⟩)
            go_still_tail 12, (by kernel_rfl)
            go_wp2_with (go_at_call 48; refine (clone_any _ _ _ (RB2.out.on (Below.refl _ _).drew) hl2.out).mono ?_; rintro e w1 ⟨v1, rfl, ho1, hb1⟩; have O1 := Lib.hid ho1; have G1 := Lib.hid hb1; clear ho1 hb1)
            go_ret2
            rw [hr.out, hres.out]
            exact ⟨_, rfl, O1.out, ((Below.refl _ w).drew).trans G1.out⟩
          · rw [if_neg hmy] at hm1
            obtain rfl : y = (m1 : Int) := hm1.symm
            have hmn : min (k1 : Int) (f.b.size : Int) = k1 := by omega
            have hmnN : min k1 f.b.size = k1 := by omega
            have hmn2 : min (m1 : Int) (r : Int) = m1 := by omega
            have hmn3 : min m1 r = m1 := by omega
            clear hmy hm1 hsz hr0 hri
            go_enter Try.func21, Try.ntmps21
            go_wp2_with (go_at_call 42; refine (HC.out).mono ?_; rintro e w' ⟨rfl, rfl⟩)
            go_still_tail 12, (by kernel_rfl)
            go_wp2_with (go_at_call 48; refine (clone_any _ _ _ (RB2.out.on (Below.refl _ _).drew) hl2.out).mono ?_; rintro e w1 ⟨v1, rfl, ho1, hb1⟩; have O1 := Lib.hid ho1; have G1 := Lib.hid hb1; clear ho1 hb1)
            go_ret2
            rw [hr.out, hres.out]
            exact ⟨_, rfl, O1.out, ((Below.refl _ w).drew).trans G1.out⟩
        · have hres := Lib.hid (readF_past f.b x y (by omega))
          obtain ⟨X1, c1, hs1, RB1⟩ := sl_tail RB f.b.size f.b.size rfl (by omega)
          rw [hsz, Nat.sub_self] at hs1 RB1
          obtain ⟨X2, c2, hs2, RB2⟩ := sl_head RB1 0 0 rfl (by omega)
          have RB2 := Lib.hid (show RdB w w.heap.size (.slice X2 0 c2) [] from by simpa using RB2)
          have hl2 := Lib.hid (show ([] : List UInt8).length ≤ 549755813888 from by simp)
          have hge : (f.b.size : Int) ≤ x := by omega
          clear RB RB1 hA hin hsz
          generalize gb f.name = gf at *
          have hmn : min x (f.b.size : Int) = f.b.size := by omega
          by_cases hy1 : 0 < y
          · have hmn2 : min y (0 : Int) = 0 := by omega
            go_enter Try.func21, Try.ntmps21
            go_wp2_with (go_at_call 42; refine (HC.out).mono ?_; rintro e w' ⟨rfl, rfl⟩)
            go_still_tail 12, (by kernel_rfl)
            go_wp2_with (go_at_call 48; refine (clone_any _ _ _ (RB2.out.on (Below.refl _ _).drew) hl2.out).mono ?_; rintro e w1 ⟨v1, rfl, ho1, hb1⟩; have O1 := Lib.hid ho1; have G1 := Lib.hid hb1; clear ho1 hb1)
            go_ret2
            rw [hr.out, hres.out]
            exact ⟨_, rfl, O1.out, ((Below.refl _ w).drew).trans G1.out⟩
          · obtain rfl : y = 0 := by omega
            have hmn2 : min (0 : Int) ((0 : Nat) : Int) = 0 := by simp
            go_enter Try.func21, Try.ntmps21
            go_wp2_with (go_at_call 42; refine (HC.out).mono ?_; rintro e w' ⟨rfl, rfl⟩)
            go_still_tail 12, (by kernel_rfl)
            go_wp2_with (go_at_call 48; refine (clone_any _ _ _ (RB2.out.on (Below.refl _ _).drew) hl2.out).mono ?_; rintro e w1 ⟨v1, rfl, ho1, hb1⟩; have O1 := Lib.hid ho1; have G1 := Lib.hid hb1; clear ho1 hb1)
            go_ret2
            rw [hr.out, hres.out]
            exact ⟨_, rfl, O1.out, ((Below.refl _ w).drew).trans G1.out⟩
  · have HC := Lib.hid (p_find_down H.out hdn n)
    have hr := Lib.hid (show readD d n x y = (⟨#[]⟩, 7) from by unfold readD; rw [if_pos hdn])
    clear hdn
    go_enter Try.func21, Try.ntmps21
    go_wp2_with (go_at_call 42; refine (HC.out).mono ?_; rintro e w' ⟨rfl, rfl⟩)
    go_ret2
    rw [hr.out]
    exact ⟨_, rfl, OwnB.nil _ _, Below.refl _ _⟩
end
end Go.Proofs.Ytbdaflhmloodfaa
