/- Layer 7, the document's disk: Sync, Remove, Rename, Read, New. -/
import Derived.Test.YtbdaflhmloodfaaDd
namespace Go.Proofs.Ytbdaflhmloodfaa
open Go.RowKit
set_option linter.unusedVariables false

theorem mayD_zero (d : Dk) (e : Int) (h : (mayD d e).2 = 0) : e = 0 := by
  unfold mayD at h
  by_cases hd : d.down = true
  · rw [if_pos hd] at h; cases h
  · rw [if_neg hd] at h
    by_cases he : e = 0
    · exact he
    · rw [if_pos he] at h; exact h
def renameE (d : Dk) (n m : ByteArray) : Int := if atF d.f n < 0 then 8 else if nameB m.data.toList = false then 1 else 0
def renF (l : List Fl) (k : Nat) (m : ByteArray) : List Fl := match l[k]? with | some f => putF (cutF7 l k) ⟨m, f.b, f.safe⟩ | none => l
def renameD (d : Dk) (n m : ByteArray) : Dk × Int :=
  if (mayD d (renameE d n m)).2 ≠ 0 then mayD d (renameE d n m) else ({ (mayD d (renameE d n m)).1 with f := renF d.f (atF d.f n).toNat m }, 0)

set_option maxHeartbeats 8000000 in
theorem ref_ends7 (w : World) (B g : Nat) (p : Value) (d : Dk) (n : ByteArray) (rm : Bool) (h : RdD w B g p d) (hd : OkD d) :
    Calls Try.prog 30 #[p, .string n, .bool rm] w fun x w' => x = .returned (.int .i64 (endsD d n rm).2) ∧ RdD w' B g p (endsD d n rm).1 ∧ Keeps B docO w w' := by
  have hlen := hd.len
  have AT := Lib.hid (fun w h => ref_at w B g p d n h (by omega))
  have MY := Lib.hid (fun w e h => ref_mayD w B g p d e h hd)
  have D := Lib.hid h
  have hE := Lib.hid (show goneE d n = if atF d.f n < 0 then 8 else 0 from rfl)
  have hR := Lib.hid (show endsD d n rm = if (mayD d (goneE d n)).2 ≠ 0 then mayD d (goneE d n) else ({ (mayD d (goneE d n)).1 with f := if rm = true then cutF7 d.f (atF d.f n).toNat else syncF d.f (atF d.f n).toNat }, 0) from rfl)
  have ZERO := Lib.hid (mayD_zero d (goneE d n))
  have hmf := (mayD_f d (goneE d n)).1
  have hal := atF_lt d.f n
  generalize endsD d n rm = res at *
  generalize goneE d n = ee at *
  have MYE := Lib.hid (fun w h => MY.out w ee h)
  clear MY hd
  generalize atF d.f n = at0 at *
  generalize mayD d ee = md at *
  obtain ⟨d1, e1⟩ := md
  simp only at MYE hR ZERO hmf
  obtain ⟨l, mx, lf, dn⟩ := d
  simp only at hR hmf hal hlen
  have hf := h.from'
  have hp := h.ptr
  subst hp
  have HAL := Lib.hid hal
  have HMF := Lib.hid hmf
  clear h hal hmf
  go_enter Try.func30, Try.ntmps30
  go_wp2_with fail
  refine (AT.out _ D.out).mono ?_
  rintro z w1 ⟨rfl, rfl⟩
  by_cases ha : at0 < 0
  case' pos =>
    have za : decide (at0 < 0) = true := by simpa using ha
    have he : (8 : Int) = ee := by rw [hE.out]; simp [ha]
    subst he
  case' neg =>
    have za : decide (at0 < 0) = false := by simpa using ha
    have he : (0 : Int) = ee := by rw [hE.out]; simp [ha]
    subst he
  all_goals
    go_wp2_with fail
    refine (MYE.out _ D.out).mono ?_
    rintro z w2 ⟨rfl, hd2, hk2⟩
    have D2 := Lib.hid hd2
    have K2 := Lib.hid hk2
    clear hd2 hk2
    by_cases h0 : e1 = 0
    · have hz := ZERO.out h0
      first
        | (exfalso; exact absurd hz (by decide))
        | (subst h0
           have hs0 := hR.out
           rw [if_neg (by simp)] at hs0
           have HS0 := Lib.hid hs0
           obtain ⟨hal, -⟩ := HAL.out ha
           obtain ⟨k, hk⟩ : ∃ k : Nat, at0 = (k : Int) := ⟨at0.toNat, by omega⟩
           subst hk
           rw [Int.toNat_natCast] at hal HS0
           have hmf := HMF.out
           clear hs0
           cases rm
           · have HS := Lib.hid (show res = ({ d1 with f := syncF l k }, 0) from by rw [HS0.out]; rfl)
             obtain ⟨-, -, fv2, hb2, ho2⟩ := D2.out
             rw [hmf] at ho2
             have HB2 := Lib.hid hb2
             obtain ⟨rb, c2, e2, hrb, hrl⟩ := ho2.pos (by omega)
             subst e2
             have HO2 := Lib.hid ho2
             obtain ⟨cur, hcur, -⟩ := ho2.box
             have HCUR := Lib.hid hcur
             have HNB := Lib.hid (ho2.notBox hb2 (by decide))
             have c02 := hb2.cell 0 _ rfl
             have r1 : w2.cell? ⟨rb, k * 3 + 1, none⟩ = some (.string l[k].b) := ho2.cell k hal 1 _ rfl
             have r2 : w2.cell? ⟨rb, k * 3 + 2, none⟩ = some (.int .i64 l[k].safe) := ho2.cell k hal 2 _ rfl
             have fz : w2.frozen? ⟨rb, k * 3 + 2, none⟩ = false := ho2.frozen _
             have HST := Lib.hid (show syncF l k = l.set k ⟨l[k].name, l[k].b, l[k].b.size⟩ from by unfold syncF; rw [List.getElem?_eq_getElem hal])
             have zk : decide ((0 : Int) ≤ (k : Int)) = true := by simp
             have zkl : decide ((k : Int) < (l.length : Int)) = true := by simp; omega
             clear hb2 ho2 hcur hmf
             go_wp2_with fail
             go_region_with (fail)
             all_goals
               go_wp2_with fail
               go_ret
               rw [HS.out]
               refine ⟨rfl, RdD.drew ⟨rfl, hf, .slice (some ⟨rb, 0, none⟩) l.length c2, HB2.out.other ⟨rb, k * 3 + 2, none⟩ _ (fun e => HNB.out (by rw [e]; rfl)), ?_⟩, (K2.out.set HCUR.out hrb docO_file (k * 3 + 2) _).drew⟩
               rw [HST.out]
               exact (HO2.out.stored k hal 2 (by decide) (.int .i64 l[k].b.size) ⟨l[k].name, l[k].b, l[k].b.size⟩ rfl).1
           · have HS := Lib.hid (show res = ({ d1 with f := cutF7 l k }, 0) from by rw [HS0.out]; rfl)
             have CT := Lib.hid (ref_cut7 w2 B g _ d1 k D2.out (by rw [hmf]; exact hal) (by rw [hmf]; omega))
             rw [hmf] at CT
             clear hmf
             go_wp2_with fail
             refine CT.out.mono ?_
             rintro z w3 ⟨rfl, hd3, hk3⟩
             have D3 := Lib.hid hd3
             have K3 := Lib.hid (K2.out.trans hk3)
             clear hd3 hk3
             go_wp2_with fail
             go_ret
             rw [HS.out]
             exact ⟨rfl, D3.out, K3.out⟩)
    · have HS := Lib.hid (show res = (d1, e1) from by rw [hR.out, if_pos h0])
      have z0 : (e1 != 0) = true := by simpa [bne] using h0
      go_wp2_with fail
      go_ret
      rw [HS.out]
      exact ⟨rfl, D2.out, K2.out⟩

set_option maxHeartbeats 8000000 in
theorem ref_rename7 (w : World) (B g : Nat) (p : Value) (d : Dk) (n m : ByteArray) (h : RdD w B g p d) (hd : OkD d) (hm : m.size ≤ 1000000) :
    Calls Try.prog 32 #[p, .string n, .string m] w fun x w' => x = .returned (.int .i64 (renameD d n m).2) ∧ RdD w' B g p (renameD d n m).1 ∧ Keeps B docO w w' := by
  have hlen := hd.len
  have AT := Lib.hid (fun w h => ref_at w B g p d n h (by omega))
  have NM := Lib.hid (fun w => ref_named m w (by omega))
  have MY := Lib.hid (fun w e h => ref_mayD w B g p d e h hd)
  have D := Lib.hid h
  have hE := Lib.hid (show renameE d n m = if atF d.f n < 0 then 8 else if nameB m.data.toList = false then 1 else 0 from rfl)
  have hR := Lib.hid (show renameD d n m = if (mayD d (renameE d n m)).2 ≠ 0 then mayD d (renameE d n m) else ({ (mayD d (renameE d n m)).1 with f := renF d.f (atF d.f n).toNat m }, 0) from rfl)
  have ZERO := Lib.hid (mayD_zero d (renameE d n m))
  have hmf := (mayD_f d (renameE d n m)).1
  have hal := atF_lt d.f n
  generalize renameD d n m = res at *
  generalize renameE d n m = ee at *
  have MYE := Lib.hid (fun w h => MY.out w ee h)
  clear MY hd
  generalize atF d.f n = at0 at *
  generalize nameB m.data.toList = nb at *
  generalize mayD d ee = md at *
  obtain ⟨d1, e1⟩ := md
  simp only at MYE hR ZERO hmf
  obtain ⟨l, mx, lf, dn⟩ := d
  simp only at hR hmf hal hlen
  have hf := h.from'
  have hp := h.ptr
  subst hp
  have HAL := Lib.hid hal
  have HMF := Lib.hid hmf
  clear h hal hmf
  go_enter Try.func32, Try.ntmps32
  go_wp2_with fail
  refine (AT.out _ D.out).mono ?_
  rintro z w1 ⟨rfl, rfl⟩
  go_wp2_with fail
  refine (NM.out _).mono ?_
  rintro z w1 ⟨rfl, rfl⟩
  by_cases ha : at0 < 0
  case' pos =>
    have za : decide (at0 < 0) = true := by simpa using ha
    have he : (8 : Int) = ee := by rw [hE.out]; simp [ha]
    subst he
  case' neg =>
    have za : decide (at0 < 0) = false := by simpa using ha
    cases nb
    case' false =>
      have he : (1 : Int) = ee := by rw [hE.out]; simp [ha]
      subst he
    case' true =>
      have he : (0 : Int) = ee := by rw [hE.out]; simp [ha]
      subst he
  all_goals
    go_wp2_with fail
    refine (MYE.out _ D.out).mono ?_
    rintro z w2 ⟨rfl, hd2, hk2⟩
    have D2 := Lib.hid hd2
    have K2 := Lib.hid hk2
    clear hd2 hk2
    by_cases h0 : e1 = 0
    · have hz := ZERO.out h0
      first
        | (exfalso; exact absurd hz (by decide))
        | (subst h0
           have hs0 := hR.out
           rw [if_neg (by simp)] at hs0
           have HS0 := Lib.hid hs0
           obtain ⟨hal, -⟩ := HAL.out ha
           obtain ⟨k, hk⟩ : ∃ k : Nat, at0 = (k : Int) := ⟨at0.toNat, by omega⟩
           subst hk
           rw [Int.toNat_natCast] at hal HS0
           have hmf := HMF.out
           have HRF := Lib.hid (show renF l k m = putF (cutF7 l k) ⟨m, l[k].b, l[k].safe⟩ from by unfold renF; rw [List.getElem?_eq_getElem hal])
           have HS := Lib.hid (show res = ({ d1 with f := putF (cutF7 l k) ⟨m, l[k].b, l[k].safe⟩ }, 0) from by rw [HS0.out, HRF.out])
           obtain ⟨-, -, fv2, hb2, ho2⟩ := D2.out
           rw [hmf] at ho2
           obtain ⟨rb, c2, e2, hrb, hrl⟩ := ho2.pos (by omega)
           subst e2
           have c02 := hb2.cell 0 _ rfl
           have r0 : w2.cell? ⟨rb, k * 3, none⟩ = some (.string l[k].name) := ho2.cell k hal 0 _ rfl
           have r1 : w2.cell? ⟨rb, k * 3 + 1, none⟩ = some (.string l[k].b) := ho2.cell k hal 1 _ rfl
           have r2 : w2.cell? ⟨rb, k * 3 + 2, none⟩ = some (.int .i64 l[k].safe) := ho2.cell k hal 2 _ rfl
           have zk : decide ((0 : Int) ≤ (k : Int)) = true := by simp
           have zkl : decide ((k : Int) < (l.length : Int)) = true := by simp; omega
           have hcl : (cutF7 l k).length ≤ 100000 := by unfold cutF7; rw [List.length_append, List.length_take, List.length_drop]; omega
           have hg2 := hb2.lt
           have hlx := Lib.hid (show B ≤ w2.heap.size from by omega)
           have BX := Lib.hid (Box.new w2 #[.string l[k].name, .string l[k].b, .int .i64 l[k].safe] 66 _ rfl)
           have D3 := Lib.hid (D2.out.on (alloc_below w2 (.cells #[.string l[k].name, .string l[k].b, .int .i64 l[k].safe] 66)))
           have K3 := Lib.hid (K2.out.trans (Keeps.of_below (alloc_below w2 (.cells #[.string l[k].name, .string l[k].b, .int .i64 l[k].safe] 66)) hlx.out))
           have GN := Lib.hid (show g < w2.heap.size from hg2)
           clear hb2 ho2 hs0 hg2
           go_wp2_with fail
           have hxl := Lib.hid BX.out.lt
           generalize hnx : w2.heap.size = nx at *
           generalize w2.alloc (.cells #[.string l[k].name, .string l[k].b, .int .i64 l[k].safe] 66) = w3 at *
           clear hnx c02 r0 r1 r2
           refine (ref_cut7s w3 B g _ d1 k D3.out (by rw [hmf]; exact hal) (by rw [hmf]; omega)).mono ?_
           rintro z w4 ⟨rfl, ⟨fv4, hb4, ho4⟩, hg4⟩
           obtain ⟨-, -, fv3, hb3, -⟩ := D3.out
           have K4 := Lib.hid (K3.out.trans (Keeps.of_grown hg4 hb3 hf docO_disk))
           have BX := Lib.hid (BX.out.keep hg4 (by intro e; injection e with e; have := GN.out; omega))
           have HNX := Lib.hid (show fv4.ownBlock ≠ some nx from fun e => by have := OwnX.base ho4 _ e; have := hxl.out; omega)
           have HB4 := Lib.hid (hb4.other ⟨nx, 0, none⟩ (.string m) (by have := GN.out; simp only; omega))
           have hsz4 := hg4.size
           have HO4 := Lib.hid (OwnX.apart (w' := w4.setCell ⟨nx, 0, none⟩ (.string m)) ho4 (fun i hi _ => Below.heap_setCell _ ⟨nx, 0, none⟩ _ i hi) HNX.out)
           have K5 := Lib.hid (K4.out.set BX.out hlx.out docO_file 0 (.string m))
           have BM := Lib.hid (show Box (w4.setCell ⟨nx, 0, none⟩ (.string m)) nx #[.string m, .string l[k].b, .int .i64 l[k].safe] 66 from BX.out.set 0 _)
           have D5 := Lib.hid (show RdD (w4.setCell ⟨nx, 0, none⟩ (.string m)) B g (.pointer (some ⟨g, 0, none⟩)) { d1 with f := cutF7 l k } from ⟨rfl, hf, fv4, HB4.out, by
             have := OwnX.mono HO4.out (Nat.le_trans hlx.out (Nat.le_of_lt hxl.out))
             rw [hmf] at this
             exact this⟩)
           have x0 := BX.out.cell 0 (.string l[k].name) rfl
           have x1 := BX.out.cell 1 (.string l[k].b) rfl
           have x2 := BX.out.cell 2 (.int .i64 l[k].safe) rfl
           have xf := BX.out.frozen 0
           clear hb4 ho4 hg4 hb3 hsz4 hmf
           go_wp2_with fail
           generalize w4.setCell ⟨nx, 0, none⟩ (.string m) = w5 at *
           refine (ref_put7 w5 B g _ { d1 with f := cutF7 l k } ⟨m, l[k].b, l[k].safe⟩ D5.out hcl).mono ?_
           rintro z w6 ⟨rfl, hd6, hk6⟩
           have D6 := Lib.hid hd6
           have K6 := Lib.hid (K5.out.trans hk6)
           clear hd6 hk6 x0 x1 x2 xf
           go_wp2_with fail
           go_ret
           rw [HS.out]
           exact ⟨rfl, D6.out, K6.out⟩)
    · have HS := Lib.hid (show res = (d1, e1) from by rw [hR.out, if_pos h0])
      have z0 : (e1 != 0) = true := by simpa [bne] using h0
      go_wp2_with fail
      go_ret
      rw [HS.out]
      exact ⟨rfl, D2.out, K2.out⟩
end Go.Proofs.Ytbdaflhmloodfaa
