/- Layer 7, the document's disk: Create, Append, Sync, Remove, Rename, Read, New. -/
import Derived.Test.YtbdaflhmloodfaaDb
namespace Go.Proofs.Ytbdaflhmloodfaa
open Go.RowKit
set_option linter.unusedVariables false

def createE (d : Dk) (n : ByteArray) : Int := if nameB n.data.toList = false then 1 else if 0 ≤ atF d.f n then 9 else if 400 ≤ d.f.length then 6 else 0
def createD (d : Dk) (n : ByteArray) : Dk × Int := if (mayD d (createE d n)).2 = 0 then ({ (mayD d (createE d n)).1 with f := putF (mayD d (createE d n)).1.f ⟨n, ⟨#[]⟩, 0⟩ }, 0) else mayD d (createE d n)
def setBF (l : List Fl) (k : Nat) (b : ByteArray) : List Fl := match l[k]? with | some f => l.set k ⟨f.name, f.b ++ b, f.safe⟩ | none => l
def appendE (d : Dk) (n b : ByteArray) : Int := if atF d.f n < 0 then 8 else if d.max < usedF d.f + b.size then 6 else 0
def appendD (d : Dk) (n b : ByteArray) : Dk × Int :=
  if (mayD d (appendE d n b)).2 = 0 ∨ ((mayD d (appendE d n b)).2 = 7 ∧ d.down = false) then ({ (mayD d (appendE d n b)).1 with f := setBF d.f (atF d.f n).toNat b }, (mayD d (appendE d n b)).2) else mayD d (appendE d n b)
def syncF (l : List Fl) (k : Nat) : List Fl := match l[k]? with | some f => l.set k ⟨f.name, f.b, f.b.size⟩ | none => l
def cutF7 (l : List Fl) (k : Nat) : List Fl := l.take k ++ l.drop (k + 1)
def goneE (d : Dk) (n : ByteArray) : Int := if atF d.f n < 0 then 8 else 0
def endsD (d : Dk) (n : ByteArray) (rm : Bool) : Dk × Int :=
  if (mayD d (goneE d n)).2 ≠ 0 then mayD d (goneE d n) else ({ (mayD d (goneE d n)).1 with f := if rm = true then cutF7 d.f (atF d.f n).toNat else syncF d.f (atF d.f n).toNat }, 0)
theorem mayD_f (d : Dk) (e : Int) : (mayD d e).1.f = d.f ∧ (mayD d e).1.max = d.max := by
  unfold mayD
  split
  · exact ⟨rfl, rfl⟩
  · split
    · exact ⟨rfl, rfl⟩
    · split
      · exact ⟨rfl, rfl⟩
      · split
        · exact ⟨rfl, rfl⟩
        · exact ⟨rfl, rfl⟩
theorem atF_lt (l : List Fl) (n : ByteArray) (h : ¬ atF l n < 0) : (atF l n).toNat < l.length ∧ ((atF l n).toNat : Int) = atF l n := by
  unfold atF at h ⊢
  cases hf : l.findIdx? (fun f => decide (f.name = n)) with
  | none => rw [hf] at h; simp at h
  | some k =>
    simp only [Int.toNat_natCast, and_true]
    rw [List.findIdx?_eq_some_iff_getElem] at hf
    exact hf.1
theorem atF_bd (l : List Fl) (n : ByteArray) (h : l.length ≤ 100000) : -1 ≤ atF l n ∧ atF l n ≤ 100000 := by
  by_cases h0 : atF l n < 0
  · unfold atF at h0 ⊢
    cases hf : l.findIdx? (fun f => decide (f.name = n)) with
    | none => simp
    | some k => rw [hf] at h0; simp at h0; omega
  · have := atF_lt l n h0; omega

set_option maxHeartbeats 4000000 in
theorem ref_create7 (w : World) (B g : Nat) (p : Value) (d : Dk) (n : ByteArray) (h : RdD w B g p d) (hd : OkD d) (hn : n.size ≤ 1000000) :
    Calls Try.prog 28 #[p, .string n] w fun x w' => x = .returned (.int .i64 (createD d n).2) ∧ RdD w' B g p (createD d n).1 ∧ Keeps B docO w w' := by
  have hlen := hd.len
  have NM := Lib.hid (fun w => ref_named n w (by omega))
  have AT := Lib.hid (fun w h => ref_at w B g p d n h (by omega))
  have MY := Lib.hid (fun w e h => ref_mayD w B g p d e h hd)
  have PT := Lib.hid (fun w e h => ref_put7 w B g p (mayD d e).1 ⟨n, ⟨#[]⟩, 0⟩ h (by rw [(mayD_f d e).1]; omega))
  have D := Lib.hid h
  have hE := Lib.hid (show createE d n = if nameB n.data.toList = false then 1 else if 0 ≤ atF d.f n then 9 else if 400 ≤ d.f.length then 6 else 0 from rfl)
  have hR := Lib.hid (show createD d n = if (mayD d (createE d n)).2 = 0 then ({ (mayD d (createE d n)).1 with f := putF (mayD d (createE d n)).1.f ⟨n, ⟨#[]⟩, 0⟩ }, 0) else mayD d (createE d n) from rfl)
  generalize createD d n = res at *
  generalize createE d n = ee at *
  have MYE := Lib.hid (fun w h => MY.out w ee h)
  have PTE := Lib.hid (fun w h => PT.out w ee h)
  clear MY PT hd
  generalize nameB n.data.toList = nb at *
  generalize atF d.f n = at0 at *
  generalize mayD d ee = md at *
  obtain ⟨d1, e1⟩ := md
  simp only at MYE PTE hR
  obtain ⟨rfl, hf, fv, hb, ho⟩ := h
  have HB := Lib.hid hb
  obtain ⟨A, c, rfl, -⟩ := ho.rd
  have c0 := hb.cell 0 _ rfl
  clear hb ho
  have FIN : ∀ ec : Int, ec = ee → (∀ w0, w0 = w → True) → True := fun _ _ _ => trivial
  clear FIN
  go_enter Try.func28, Try.ntmps28
  go_wp2_with fail
  refine (NM.out _).mono ?_
  rintro z w1 ⟨rfl, rfl⟩
  cases nb
  case' false => have he : (1 : Int) = ee := by rw [hE.out]; rfl
  case' true =>
    go_wp2_with fail
    refine (AT.out _ D.out).mono ?_
    rintro z w1 ⟨rfl, rfl⟩
    by_cases ha : 0 ≤ at0
    case' pos =>
      have za : decide ((0 : Int) ≤ at0) = true := by simpa using ha
      have he : (9 : Int) = ee := by rw [hE.out]; simp [ha]
    case' neg =>
      have za : decide ((0 : Int) ≤ at0) = false := by simpa using ha
      by_cases h4 : 400 ≤ d.f.length
      case' pos =>
        have z4 : decide ((400 : Int) ≤ (d.f.length : Int)) = true := by simp; omega
        have he : (6 : Int) = ee := by rw [hE.out]; simp [ha, h4]
      case' neg =>
        have z4 : decide ((400 : Int) ≤ (d.f.length : Int)) = false := by rw [decide_eq_false_iff_not]; omega
        have he : (0 : Int) = ee := by rw [hE.out]; simp [ha, h4]
  all_goals
    subst he
    go_wp2_with fail
    refine (MYE.out _ D.out).mono ?_
    rintro z w2 ⟨rfl, hd2, hk2⟩
    have D2 := Lib.hid hd2
    have K2 := Lib.hid hk2
    clear hd2 hk2 c0
    by_cases h0 : e1 = 0
    · subst h0
      have HS := Lib.hid (show res = ({ d1 with f := putF d1.f ⟨n, ⟨#[]⟩, 0⟩ }, 0) from by rw [hR.out, if_pos rfl])
      go_wp2_with fail
      refine (PTE.out _ D2.out).mono ?_
      rintro z w3 ⟨rfl, hd3, hk3⟩
      have D3 := Lib.hid hd3
      have K3 := Lib.hid (K2.out.trans hk3)
      clear hd3 hk3
      go_wp2_with fail
      go_ret
      rw [HS.out]
      exact ⟨rfl, D3.out, K3.out⟩
    · have HS := Lib.hid (show res = (d1, e1) from by rw [hR.out, if_neg h0])
      have z0 : (e1 == 0) = false := by simpa using h0
      go_wp2_with fail
      go_ret
      rw [HS.out]
      exact ⟨rfl, D2.out, K2.out⟩
end Go.Proofs.Ytbdaflhmloodfaa
