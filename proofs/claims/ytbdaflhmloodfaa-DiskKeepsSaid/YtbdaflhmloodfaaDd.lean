/- Layer 7, the document's disk: Append. -/
import Derived.Test.YtbdaflhmloodfaaDc
namespace Go.Proofs.Ytbdaflhmloodfaa
open Go.RowKit
set_option linter.unusedVariables false

theorem OwnX.box {α : Type} {L : Lay α} {e : TypeId} {w : World} {base g n c : Nat} {l : List α} (h : OwnX L e w base (.slice (some ⟨g, 0, none⟩) n c) l) : ∃ cur, Box w g cur e ∧ base ≤ g := by
  rcases h.2 with ⟨e1, _⟩ | ⟨g', cap, cur, e1, hg, hc, h3⟩
  · cases e1
  · cases e1
    exact ⟨cur, hc, hg⟩
theorem mayD_app (d : Dk) (e : Int) (h7 : e ≠ 7) (h : (mayD d e).2 = 0 ∨ ((mayD d e).2 = 7 ∧ d.down = false)) : e = 0 := by
  unfold mayD at h
  by_cases hd : d.down = true
  · rw [if_pos hd] at h
    rcases h with h | ⟨_, h⟩
    · cases h
    · rw [h] at hd; cases hd
  · rw [if_neg hd] at h
    by_cases he : e = 0
    · exact he
    · rw [if_pos he] at h
      rcases h with h | ⟨h, _⟩
      · exact h
      · exact absurd h h7
theorem appendE_ne (d : Dk) (n b : ByteArray) : appendE d n b ≠ 7 := by
  unfold appendE; split
  · decide
  · split <;> decide

theorem usedF_ge (l : List Fl) (k : Nat) (h : k < l.length) : (l[k].b.size : Int) ≤ usedF l := by
  have h1 := usedF_take l k h
  have h2 := usedF_take_le l (k + 1)
  have h3 := usedF_nn (l.take k)
  omega

set_option maxHeartbeats 8000000 in
theorem ref_append7 (w : World) (B g : Nat) (p : Value) (d : Dk) (n b : ByteArray) (h : RdD w B g p d) (hd : OkD d) (hn : b.size ≤ 1000000) :
    Calls Try.prog 29 #[p, .string n, .string b] w fun x w' => x = .returned (.int .i64 (appendD d n b).2) ∧ RdD w' B g p (appendD d n b).1 ∧ Keeps B docO w w' := by
  have hlen := hd.len
  have hused := hd.used
  have hmax := hd.max
  have AT := Lib.hid (fun w h => ref_at w B g p d n h (by omega))
  have US := Lib.hid (fun w h => ref_used w B g p d h (by omega) (by omega))
  have MY := Lib.hid (fun w e h => ref_mayD w B g p d e h hd)
  have D := Lib.hid h
  have hE := Lib.hid (show appendE d n b = if atF d.f n < 0 then 8 else if d.max < usedF d.f + b.size then 6 else 0 from rfl)
  have hR := Lib.hid (show appendD d n b = if (mayD d (appendE d n b)).2 = 0 ∨ ((mayD d (appendE d n b)).2 = 7 ∧ d.down = false) then ({ (mayD d (appendE d n b)).1 with f := setBF d.f (atF d.f n).toNat b }, (mayD d (appendE d n b)).2) else mayD d (appendE d n b) from rfl)
  have ZERO := Lib.hid (mayD_app d (appendE d n b) (appendE_ne d n b))
  have hmf := (mayD_f d (appendE d n b)).1
  have hal := atF_lt d.f n
  have hunn := usedF_nn d.f
  generalize appendD d n b = res at *
  generalize appendE d n b = ee at *
  have MYE := Lib.hid (fun w h => MY.out w ee h)
  clear MY hd
  generalize atF d.f n = at0 at *
  have UG := Lib.hid (usedF_ge d.f)
  generalize usedF d.f = us at *
  generalize mayD d ee = md at *
  obtain ⟨d1, e1⟩ := md
  obtain ⟨l, mx, lf, dn⟩ := d
  simp only at *
  obtain ⟨rfl, hf, fv, hb, ho⟩ := h
  have HB := Lib.hid hb
  have c1 := hb.cell 1 _ rfl
  have c3 := hb.cell 3 _ rfl
  have hw : IntKind.i64.wrap (us + (b.size : Int)) = us + (b.size : Int) := by rw [IntKind.wrap_i64]; omega
  have hBle : B ≤ w.heap.size := Nat.le_trans hf (Nat.le_of_lt hb.lt)
  have HAL := Lib.hid hal
  have HMF := Lib.hid hmf
  clear hb ho hal hmf
  go_enter Try.func29, Try.ntmps29
  go_wp2_with fail
  refine (AT.out _ D.out).mono ?_
  rintro z w1 ⟨rfl, rfl⟩
  by_cases ha : at0 < 0
  case' pos =>
    have za : decide (at0 < 0) = true := by simpa using ha
    have he : (8 : Int) = ee := by rw [hE.out]; simp [ha]
    subst he
    go_wp2_with fail
  case' neg =>
    have za : decide (at0 < 0) = false := by simpa using ha
    go_wp2_with fail
    go_quiet (first | (go_at_call 36; refine Calls.quiet_of_same ((US.out _ (D.out.on ((Below.refl _ _).drewN _))).mono (fun _ _ ⟨he, hw⟩ => ⟨he, hw.symm⟩))))
    by_cases hu : mx < us + (b.size : Int)
    case' pos =>
      have zu : decide (mx < us + (b.size : Int)) = true := by simpa using hu
      have he : (6 : Int) = ee := by rw [hE.out]; simp [ha, hu]
      subst he
      go_wp2_with fail
    case' neg =>
      have zu : decide (mx < us + (b.size : Int)) = false := by simpa using hu
      have he : (0 : Int) = ee := by rw [hE.out]; simp [ha, hu]
      subst he
      go_wp2_with fail
  all_goals
    refine (MYE.out _ (by first | exact D.out | exact D.out.on ((Below.refl _ _).drewN _))).mono ?_
    rintro z w2 ⟨rfl, hd2, hk2⟩
    have D2 := Lib.hid hd2
    have K2 := Lib.hid (show Keeps B docO w w2 from by first | exact hk2 | exact ((Keeps.of_below ((Below.refl _ _).drewN _) hBle).trans hk2))
    clear hd2 hk2 c1 c3
    by_cases hap : e1 = 0 ∨ (e1 = 7 ∧ dn = false)
    · have hz := ZERO.out hap
      first
        | (exfalso; exact absurd hz (by decide))
        | (have HS := Lib.hid (show res = ({ d1 with f := setBF l at0.toNat b }, e1) from by rw [hR.out, if_pos hap])
           obtain ⟨hal, -⟩ := HAL.out ha
           obtain ⟨k, hk⟩ : ∃ k : Nat, at0 = (k : Int) := ⟨at0.toNat, by omega⟩
           subst hk
           rw [Int.toNat_natCast] at hal HS
           obtain ⟨-, -, fv2, hb2, ho2⟩ := D2.out
           have hmf := HMF.out
           rw [hmf] at ho2
           have HB2 := Lib.hid hb2
           obtain ⟨rb, c2, e2, hrb, hrl⟩ := ho2.pos (by omega)
           subst e2
           have HO2 := Lib.hid ho2
           obtain ⟨cur, hcur, -⟩ := ho2.box
           have HCUR := Lib.hid hcur
           have HNB := Lib.hid (ho2.notBox hb2 (by decide))
           have c02 := hb2.cell 0 _ rfl
           have r1 : w2.cell? ⟨rb, k * 3 + 1, none⟩ = some (.string l[k].b) := ho2.cell k hal 1 _ rfl
           have fz : w2.frozen? ⟨rb, k * 3 + 1, none⟩ = false := ho2.frozen _
           have HST := Lib.hid (show setBF l k b = l.set k ⟨l[k].name, l[k].b ++ b, l[k].safe⟩ from by unfold setBF; rw [List.getElem?_eq_getElem hal])
           have hcat : l[k].b.size + b.size ≤ 9223372036854775807 := by have := UG.out k hal; omega
           have zk : decide ((0 : Int) ≤ (k : Int)) = true := by simp
           have zkl : decide ((k : Int) < (l.length : Int)) = true := by simp; omega
           clear hb2 ho2 hcur hmf
           rcases hap with rfl | ⟨rfl, rfl⟩
           all_goals
             go_wp2_with fail
             go_region_with (fail)
             all_goals
               go_wp2_with fail
               go_ret
               rw [HS.out]
               refine ⟨rfl, RdD.drew ⟨rfl, hf, .slice (some ⟨rb, 0, none⟩) l.length c2, HB2.out.other ⟨rb, k * 3 + 1, none⟩ _ (fun e => HNB.out (by rw [e]; rfl)), ?_⟩, (K2.out.set HCUR.out hrb docO_file (k * 3 + 1) _).drew⟩
               rw [HST.out]
               exact (HO2.out.stored k hal 1 (by decide) (.string (l[k].b ++ b)) ⟨l[k].name, l[k].b ++ b, l[k].safe⟩ rfl).1)
    · have HS := Lib.hid (show res = (d1, e1) from by rw [hR.out, if_neg hap])
      have z0 : (e1 == 0) = false := by rw [beq_eq_false_iff_ne]; exact fun e => hap (.inl e)
      by_cases h7 : e1 = 7
      · have hdn : dn = true := by cases dn; exact absurd (.inr ⟨h7, rfl⟩) hap; rfl
        subst h7 hdn
        go_wp2_with fail
        go_ret
        rw [HS.out]
        exact ⟨rfl, D2.out, K2.out⟩
      · have z7 : (e1 == 7) = false := by simpa using h7
        go_wp2_with fail
        go_ret
        rw [HS.out]
        exact ⟨rfl, D2.out, K2.out⟩
end Go.Proofs.Ytbdaflhmloodfaa
