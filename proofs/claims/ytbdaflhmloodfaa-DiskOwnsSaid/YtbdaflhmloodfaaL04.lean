/- DiskOwns: what is handed in is not kept, and what is told is new: any bytes (the first 30). No conditions. -/
import Derived.Test.YtbdaflhmloodfaaIr
namespace Go.Proofs.Ytbdaflhmloodfaa.L04
open Go.RowKit Go.ChangeShapes Go.WideShapes Go.ChangeAt
set_option linter.unusedVariables false

theorem u8_next (u : UInt8) : IntKind.u8.wrap ((u.toNat : Int) + 1) = ((u + 1).toNat : Int) := by
  have h := u.toNat_lt
  rw [UInt8.toNat_add]
  simp [IntKind.wrap, IntKind.bits, IntKind.signed]
/-- Bytes that lie beside the disk turn. -/
theorem rm_beside {w w' : World} {S : Nat → Prop} {g : Nat} {p : Value} {d : Dk} (h : RdM w S g p d) {j : Nat} (hj : ¬ S j) (hg : w.grownBy w' (some j)) : RdM w' S g p d :=
  h.keep fun i o hs _ hio => (hg.block i (Array.getElem?_eq_some_iff.1 hio).1 (fun e => hj (by injection e with e; rw [← e]; exact hs))).trans hio
theorem OwnB.beside {w w' : World} {S : Nat → Prop} {base : Nat} {v : Value} {x : List UInt8} (h : OwnB w base v x) (hk : Kept S w w') (hv : ∀ j, v.ownBlock = some j → ¬ S j) : OwnB w' base v x :=
  h.to fun j o hj _ hjo => hk.other j o hjo (.inl (hv j hj))
theorem data_mk (s : ByteArray) : (⟨s.data.toList.toArray⟩ : ByteArray) = s := rfl

set_option maxHeartbeats 8000000 in
set_option maxRecDepth 100000 in
theorem walk (va : Value) (l : List UInt8) (w : World) (h : RdB w w.heap.size va l) :
    Calls Try.prog 6 #[va] w fun e w' => e = .returned (.bool true) ∧ Below w.heap.size w w' := by
  obtain ⟨S, hS⟩ : ∃ S : Nat → Prop, S = fun i => w.heap.size ≤ i := ⟨_, rfl⟩
  have HSI := Lib.hid (show ∀ i, w.heap.size ≤ i → S i from fun i h => by rw [hS]; exact h)
  have HSB := Lib.hid (show ∀ i, S i → w.heap.size ≤ i from fun i h => by rw [hS] at h; exact h)
  have HA := Lib.hid h
  obtain ⟨VA, vc, e, -⟩ := h
  subst e
  have HNB := Lib.hid (show nameB exA.data.toList = true from by decide)
  clear hS
  go_enter Try.func6, Try.ntmps6
  go_wp2_with fail
  refine (p_new w 1000 S ⟨by omega, by omega⟩ HSI.out).mono ?_
  rintro e w1 ⟨g, rfl, hg, hm1, hb1⟩
  have M1 := Lib.hid hm1
  have G1 := Lib.hid hb1
  clear hm1 hb1 hg
  have hcv := RdB.str (HA.out.below G1.out)
  go_wp2_with fail
  have hfs := fewS_size ⟨l.toArray⟩
  refine (few7 _ _).mono ?_
  rintro e w1' ⟨rfl, rfl⟩
  generalize fewS ⟨l.toArray⟩ = dt at *
  clear hcv
  have hdl : dt.data.toList.length = dt.size := by simp
  go_wp2_with (at_builtin; refine wpl_app_str rfl (.tmp 16) (.tmp 19) rfl w1.heap.size (.slice none 0 0) [] dt rfl rfl (OwnB.nil _ _) (Nat.le_refl _) (by simp; omega) ?_; intro v2 w2 ho2 hb2; have O2 := Lib.hid (show OwnB w2 w1.heap.size v2 dt.data.toList from ho2); have G12 := Lib.hid hb2; obtain ⟨X, c, ex, -⟩ := own_cap O2.out; rw [hdl] at ex; subst ex; have hcv : (convert 38 9 (.slice X dt.size c)).run Try.prog w2 = .ok (.string dt) w2 := OwnB.str O2.out; clear ho2 hb2)
  obtain ⟨S', hS'⟩ : ∃ S' : Nat → Prop, S' = fun i => S i ∧ ∀ j, (Value.slice X dt.size c).ownBlock = some j → i ≠ j := ⟨_, rfl⟩
  have G2 := Lib.hid (G1.out.trans (G12.out.mono G1.out.size))
  have TI := Lib.hid (show ∀ i, w2.heap.size ≤ i → S' i from fun i hi => by
    rw [hS']
    exact ⟨HSI.out i (Nat.le_trans G2.out.size hi), fun j hj e => by have := O2.out.ltB j hj; omega⟩)
  have TB := Lib.hid (show ∀ i, S' i → w.heap.size ≤ i from fun i h => by rw [hS'] at h; exact HSB.out i h.1)
  have TN := Lib.hid (show ∀ j, (Value.slice X dt.size c).ownBlock = some j → ¬ S' j from fun j hj h => by rw [hS'] at h; exact h.2 j hj rfl)
  have M2 := Lib.hid (((M1.out.sub (S' := S') (fun i hi hs => by rw [hS']; exact ⟨hs, fun j hj e => by have := OwnB.base O2.out j hj; omega⟩)).on G12.out))
  clear hS' hcv
  have h2 := p_create M2.out (ok_new ⟨by omega, by omega⟩) TI.out exA (by decide)
  rw [create_first exA 1000 HNB.out] at h2
  refine h2.mono ?_
  clear h2
  rintro e w3 ⟨rfl, hm3, hk3⟩
  have M3 := Lib.hid hm3
  have G3 := Lib.hid (G2.out.trans (hk3.under G2.out.size TB.out))
  have W23 := Lib.hid hk3.size
  have O3 := Lib.hid (OwnB.beside O2.out hk3 TN.out)
  clear hm3 hk3
  have h3 := p_append M3.out (ok_one ⟨by omega, by simp⟩ (by decide) ⟨by omega, by omega⟩) (fun i hi => TI.out i (Nat.le_trans W23.out hi)) exA dt (by decide) (by omega) _ O3.out.rd
  rw [append_one exA ⟨#[]⟩ dt 0 1000 (by have hz : (⟨#[]⟩ : ByteArray).size = 0 := rfl; omega), empty_app] at h3
  have H3 := Lib.hid h3
  clear h3
  go_wp2_with fail
  refine H3.out.mono ?_
  rintro e w4 ⟨rfl, hm4, hk4⟩
  have M4 := Lib.hid hm4
  have G4 := Lib.hid (G3.out.trans (hk4.under G3.out.size TB.out))
  have W24 := Lib.hid (Nat.le_trans W23.out hk4.size)
  have O4 := Lib.hid (OwnB.beside O3.out hk4 TN.out)
  have OK := Lib.hid (show OkD (oneD exA dt 0 1000) from ok_one ⟨by omega, by omega⟩ (by omega) ⟨by omega, by omega⟩)
  have HR := Lib.hid (show readF dt 0 1000 = dt from readF_all dt 1000 (by omega))
  have HDL := Lib.hid hdl
  clear hm4 hk4 hdl
  go_wp2_with fail
  go_loopw [6] (fun i wr => ∃ (k : Nat) (x : List UInt8), i = .int .i64 k ∧ k ≤ dt.size ∧ x.length = dt.size ∧ OwnB wr w1.heap.size (.slice X dt.size c) x ∧ RdM wr S' g (.pointer (some ⟨g, 0, none⟩)) (oneD exA dt 0 1000) ∧ Below w.heap.size w wr ∧ w2.heap.size ≤ wr.heap.size) (fun i _ => dt.size - (intOf i).toNat)
  case atStart => exact ⟨0, dt.data.toList, rfl, Nat.zero_le _, HDL.out, O4.out, M4.out, G4.out, W24.out⟩
  case round =>
    obtain ⟨k, x, rfl, hk, hxl, hox, hrm, hbw, hws⟩ := hrel
    have OX := Lib.hid hox
    have RM := Lib.hid hrm
    have G := Lib.hid hbw
    have HWS := Lib.hid hws
    have HXL := Lib.hid hxl
    clear hox hrm hbw hws
    by_cases hlt : k < dt.size
    · have zl : decide ((k : Int) < (dt.size : Int)) = true := by simp; omega
      obtain ⟨gb, rfl⟩ : ∃ gb, X = some ⟨gb, 0, none⟩ := by
        rcases OX.out.2 with ⟨h3, _⟩ | ⟨g', cap, cur, e1, _⟩
        · injection h3 with _ h4; omega
        · injection e1 with e1; exact ⟨g', e1⟩
      have hxk : k < x.length := by omega
      have c0 := OX.out.cellAt k hxk
      have f0 := OX.out.frozenAt k
      have hgb := OwnB.base OX.out gb rfl
      have hst := Lib.hid (OX.out.stored k (x[k] + 1) _ rfl)
      have hw := u8_next x[k]
      have HXS := Lib.hid (show (x.set k (x[k] + 1)).length = dt.size from by rw [List.length_set]; exact hxl)
      have HGB := Lib.hid (show w.heap.size ≤ gb from Nat.le_trans G1.out.size hgb)
      have hyl := x[k].toNat_lt
      clear hxl hgb
      generalize x[k] + 1 = y1 at *
      generalize x[k] = y at *
      go_wp2_with fail
      go_roundw
      case rel => exact ⟨k + 1, x.set k y1, by go_num, by omega, HXS.out, hst.out.1, rm_beside RM.out (TN.out gb rfl) hst.out.2, G.out.setCell (p := ⟨gb, k, none⟩) HGB.out _, Nat.le_trans HWS.out hst.out.2.size⟩
      case measure => simp [intOf]; omega
    · have zl : decide ((k : Int) < (dt.size : Int)) = false := by rw [decide_eq_false_iff_not]; omega
      have r1 := p_read RM.out exA 0 1000 (by decide) OK.out (by omega) (by omega)
      rw [read_one exA dt 0 1000 0 1000 ⟨by omega, by omega⟩, HR.out] at r1
      have RR1 := Lib.hid r1
      clear r1
      go_wp2_with fail
      refine RR1.out.mono ?_
      rintro e w5 ⟨v5, rfl, ho5, hb5⟩
      have O5 := Lib.hid ho5
      have G5 := Lib.hid (G.out.trans (hb5.mono G.out.size))
      obtain ⟨X5, c5, e5, -⟩ := own_cap ho5
      rw [HDL.out] at e5
      subst e5
      have hcv5 : (convert 38 9 (.slice X5 dt.size c5)).run Try.prog w5 = .ok (.string dt) w5 := OwnB.str ho5
      obtain ⟨S5, hS5⟩ : ∃ S5 : Nat → Prop, S5 = fun i => S' i ∧ ∀ j, (Value.slice X5 dt.size c5).ownBlock = some j → i ≠ j := ⟨_, rfl⟩
      have UB := Lib.hid (show ∀ i, S5 i → w.heap.size ≤ i from fun i h => by rw [hS5] at h; exact TB.out i h.1)
      have UN := Lib.hid (show ∀ j, (Value.slice X5 dt.size c5).ownBlock = some j → ¬ S5 j from fun j hj h => by rw [hS5] at h; exact h.2 j hj rfl)
      have M5 := Lib.hid ((RM.out.sub (S' := S5) (fun i hi hs => by rw [hS5]; exact ⟨hs, fun j hj e => by have := OwnB.base O5.out j hj; omega⟩)).on hb5)
      have HBB := Lib.hid (show ∀ j, (Value.slice X5 dt.size c5).ownBlock = some j → w.heap.size ≤ j from fun j hj => Nat.le_trans G.out.size (OwnB.base O5.out j hj))
      clear hS5 ho5 hb5
      go_wp2_with fail
      go_loopw [10] (fun i wr2 => ∃ (k2 : Nat) (x2 : List UInt8), i = .int .i64 k2 ∧ k2 ≤ dt.size ∧ x2.length = dt.size ∧ OwnB wr2 wr.heap.size (.slice X5 dt.size c5) x2 ∧ RdM wr2 S5 g (.pointer (some ⟨g, 0, none⟩)) (oneD exA dt 0 1000) ∧ Below w.heap.size w wr2) (fun i _ => dt.size - (intOf i).toNat)
      case atStart => exact ⟨0, dt.data.toList, rfl, Nat.zero_le _, HDL.out, O5.out, M5.out, G5.out⟩
      case round =>
        obtain ⟨k2, x2, rfl, hk2, hxl2, hox2, hrm2, hbw2⟩ := hrel
        have OX2 := Lib.hid hox2
        have RM2 := Lib.hid hrm2
        have GG := Lib.hid hbw2
        clear hox2 hrm2 hbw2 hcv5 zl
        by_cases hlt2 : k2 < dt.size
        · have zl2 : decide ((k2 : Int) < (dt.size : Int)) = true := by simp; omega
          obtain ⟨gb, rfl⟩ : ∃ gb, X5 = some ⟨gb, 0, none⟩ := by
            rcases OX2.out.2 with ⟨h3, _⟩ | ⟨g', cap, cur, e1, _⟩
            · injection h3 with _ h4; omega
            · injection e1 with e1; exact ⟨g', e1⟩
          have hxk2 : k2 < x2.length := by omega
          have c0 := OX2.out.cellAt k2 hxk2
          have f0 := OX2.out.frozenAt k2
          have hst := Lib.hid (OX2.out.stored k2 9 9 rfl)
          have HXS := Lib.hid (show (x2.set k2 9).length = dt.size from by rw [List.length_set]; exact hxl2)
          have HGB := Lib.hid (HBB.out gb rfl)
          clear hxl2
          generalize x2[k2] = y2 at *
          go_wp2_with fail
          go_roundw
          case rel => exact ⟨k2 + 1, x2.set k2 9, by go_num, by omega, HXS.out, hst.out.1, rm_beside RM2.out (UN.out gb rfl) hst.out.2, GG.out.setCell (p := ⟨gb, k2, none⟩) HGB.out _⟩
          case measure => simp [intOf]; omega
        · have zl2 : decide ((k2 : Int) < (dt.size : Int)) = false := by rw [decide_eq_false_iff_not]; omega
          have r2 := p_read RM2.out exA 0 1000 (by decide) OK.out (by omega) (by omega)
          rw [read_one exA dt 0 1000 0 1000 ⟨by omega, by omega⟩, HR.out] at r2
          have RR2 := Lib.hid r2
          clear r2
          go_wp2_with fail
          refine RR2.out.mono ?_
          rintro e w6 ⟨v6, rfl, ho6, hb6⟩
          have hcv6 : (convert 38 9 v6).run Try.prog w6 = .ok (.string dt) w6 := OwnB.str ho6
          have G6 := Lib.hid (GG.out.trans (hb6.mono GG.out.size))
          clear ho6 hb6
          go_wp2_with fail
          refine (lives_any _).mono ?_
          rintro e w7 ⟨rfl, hb7⟩
          have G7 := Lib.hid (G6.out.trans (hb7.mono G6.out.size))
          clear hb7
          go_wp2_with fail
          go_ret
          exact ⟨rfl, G7.out⟩
-- END
set_option maxRecDepth 100000 in
theorem lifted (os : Os) (started : os.Started) (H : Type) (enc : TypeId × Value → H) :
    ReturnsInHanded {} Try.checked os 6 .any (Rows.diskOwnsSpec.pre6 enc Try.prog Try.f6 Rows.diskOwnsRow.domain false) (Rows.diskOwnsSpec.post enc Try.prog Try.f6 false true false false) := by
  refine returnsInHanded_of_change (C := Try.checked) Try.own started (by kernel_rfl) Try.func6
    (ChangeSpec.witness6 (enc := enc) (C := Try.checked) false ⟨#[], #[.slice none 0 0], []⟩ 8 (by kernel_rfl) (by kernel_rfl) (by kernel_rfl) (by kernel_rfl)) ?_
  intro W base args ds gs before hval0 hW _ _
  have hval : ∀ (j : Nat) t v, Try.f6.params[j]? = some t → args[j]? = some v → Value.okWide Try.prog W .any base t v := hval0
  have hW' := hW
  obtain ⟨p, q, hA0, hV, rfl, _, _⟩ := hW
  have hA : DataW.TrodAll enc Try.prog W 0 (fun _ => true) true Try.f6.params.toList args.toList ds p := hA0
  rw [Try.params6] at hA hval
  obtain ⟨v0, d0, rfl, rfl, h0⟩ := trodAll_one hA
  obtain ⟨rfl, rfl⟩ := trodVars_none hV
  have hlt : ∀ x ∈ p, x.block < W.heap.size := fun x hx => by simpa using hW'.lt x (by simpa using hx)
  obtain ⟨a0, r0⟩ := open_bytes (hval 0 _ v0 rfl rfl) h0 (fun x hx => by simpa using hlt x (by simp [hx]))
  refine (walk _ a0 _ r0).mono fun e W' ⟨he, hb⟩ => ⟨_, he, ?_⟩
  exact law_post Try.laidOut (by decide +kernel) rfl Try.underlying4 rfl hW' rfl hb

theorem holds : Rows.DiskOwnsSaid :=
  OpenClaim.holds_of_wide 6 Try.f6 rfl rfl rfl rfl rfl rfl rfl ⟨rfl, rfl, rfl, rfl, rfl⟩ rfl rfl rfl rfl rfl (by kernel_rfl) Try.func6 (by kernel_rfl)
    (of_decide_eq_true (by kernel_rfl)) (by unfold Func.isWrapper; first | (rw [if_pos (by decide +kernel)]; kernel_rfl) | (rw [if_neg (by decide +kernel)]; exact ⟨rfl, rfl⟩))
    (fun os started H enc _ => lifted os started H enc)
end Go.Proofs.Ytbdaflhmloodfaa.L04
