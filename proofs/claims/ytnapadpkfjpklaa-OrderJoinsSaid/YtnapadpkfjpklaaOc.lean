/- Contracts of layer 1: tuples in memory; comparing tuples. -/
import Derived.Test.YtnapadpkfjpklaaOb
import Derived.Deep.RegionWith
import Derived.Deep.DeepCutAuto
namespace Go.Proofs.Ytnapadpkfjpklaa
open Go.RowKit
set_option linter.unusedVariables false

/-- The value v is a slice that reads as the parts ps, in blocks below B. -/
def RdParts (w : World) (B : Nat) (v : Value) (ps : List PartD) : Prop :=
  ∃ A c, v = .slice A ps.length c ∧ ps.length ≤ c ∧ c ≤ 9223372036854775807 ∧ (0 < ps.length → ∃ b o, A = some ⟨b, o, none⟩ ∧ b < B ∧
    ∀ k p, ps[k]? = some p → w.cell? ⟨b, o + k * 3, none⟩ = some (.bool p.isText) ∧ w.cell? ⟨b, o + k * 3 + 1, none⟩ = some (.int .i64 p.num) ∧ w.cell? ⟨b, o + k * 3 + 2, none⟩ = some (.string p.text))

def cmpParts : List PartD → List PartD → Int
  | [], [] => 0
  | [], _ :: _ => -1
  | _ :: _, [] => 1
  | p :: l, q :: m => if cmpPart p q = 0 then cmpParts l m else cmpPart p q

theorem cmpParts_both {l m : List PartD} {k : Nat} (h1 : k < l.length) (h2 : k < m.length) :
    cmpParts (l.drop k) (m.drop k) = if cmpPart l[k] m[k] = 0 then cmpParts (l.drop (k + 1)) (m.drop (k + 1)) else cmpPart l[k] m[k] := by
  rw [List.drop_eq_getElem_cons h1, List.drop_eq_getElem_cons h2]; rfl
theorem cmpParts_left {l m : List PartD} {k : Nat} (h1 : k < l.length) (h2 : m.length ≤ k) : cmpParts (l.drop k) (m.drop k) = 1 := by
  rw [List.drop_eq_getElem_cons h1, List.drop_of_length_le h2]; rfl
theorem cmpParts_right {l m : List PartD} {k : Nat} (h1 : l.length ≤ k) (h2 : k < m.length) : cmpParts (l.drop k) (m.drop k) = -1 := by
  rw [List.drop_eq_getElem_cons h2, List.drop_of_length_le h1]; rfl
theorem cmpParts_none {l m : List PartD} {k : Nat} (h1 : l.length ≤ k) (h2 : m.length ≤ k) : cmpParts (l.drop k) (m.drop k) = 0 := by
  rw [List.drop_of_length_le h2, List.drop_of_length_le h1]; rfl

theorem RdParts.below {w w' : World} {B : Nat} {v : Value} {ps : List PartD} (h : RdParts w B v ps) (hb : Below B w w') : RdParts w' B v ps := by
  obtain ⟨A, c, rfl, h1, h2, h3⟩ := h
  refine ⟨A, c, rfl, h1, h2, fun hp => ?_⟩
  obtain ⟨b, o, rfl, hB, hc⟩ := h3 hp
  exact ⟨b, o, rfl, hB, fun k p hk => ⟨(hb.cell (p := ⟨b, _, none⟩) hB).trans (hc k p hk).1, (hb.cell (p := ⟨b, _, none⟩) hB).trans (hc k p hk).2.1, (hb.cell (p := ⟨b, _, none⟩) hB).trans (hc k p hk).2.2⟩⟩

theorem RdParts.more {w : World} {B B' : Nat} {v : Value} {ps : List PartD} (h : RdParts w B v ps) (hB : B ≤ B') : RdParts w B' v ps := by
  obtain ⟨A, c, rfl, h1, h2, h3⟩ := h
  refine ⟨A, c, rfl, h1, h2, fun hp => ?_⟩
  obtain ⟨b, o, rfl, hb, hc⟩ := h3 hp
  exact ⟨b, o, rfl, by omega, hc⟩
theorem RdParts.drew {w : World} {B : Nat} {v : Value} {ps : List PartD} (h : RdParts w B v ps) : RdParts w.drew B v ps := h
theorem RdParts.on {w w' : World} {v : Value} {ps : List PartD} (h : RdParts w w.heap.size v ps) (hb : Below w.heap.size w w') : RdParts w' w'.heap.size v ps := (h.below hb).more hb.size

set_option maxHeartbeats 400000 in
theorem ref_compare (va vb : Value) (l m : List PartD) (w : World) (ha : RdParts w w.heap.size va l) (hb : RdParts w w.heap.size vb m) :
    Calls Try.prog 20 #[va, vb] w fun e w' => e = .returned (.int .i64 (cmpParts l m)) ∧ Below w.heap.size w w' := by
  have hA := Lib.hid ha
  have hB := Lib.hid hb
  obtain ⟨A, ca, rfl, hla, hca, -⟩ := ha
  obtain ⟨B, cb, rfl, hlb, hcb, -⟩ := hb
  go_enter Try.func20, Try.ntmps20
  go_wp2
  go_loopw [5] (fun i wr => ∃ k : Nat, k ≤ l.length ∧ k ≤ m.length ∧ i = .int .i64 k ∧ cmpParts (l.drop k) (m.drop k) = cmpParts l m ∧ Below w.heap.size w wr) (fun i _ => l.length - (intOf i).toNat)
  case atStart => exact ⟨0, Nat.zero_le _, Nat.zero_le _, rfl, rfl, Below.refl _ _⟩
  case round =>
    obtain ⟨k, hk, hkm, rfl, hc, hbw⟩ := hrel
    by_cases h1 : k < l.length
    · by_cases h2 : k < m.length
      · obtain ⟨A', _, e1, _, _, hra⟩ := hA.out.below hbw
        obtain ⟨B', _, e2, _, _, hrb⟩ := hB.out.below hbw
        obtain ⟨ba, oa, rfl, hba, hra⟩ := hra (by omega)
        obtain ⟨bb, ob, rfl, hbb, hrb⟩ := hrb (by omega)
        cases e1
        cases e2
        obtain ⟨a0, a1, a2⟩ := hra k _ (List.getElem?_eq_getElem h1)
        obtain ⟨b0, b1, b2⟩ := hrb k _ (List.getElem?_eq_getElem h2)
        have HC := Lib.hid hc
        have HW := Lib.hid hbw
        have hcr := cmpParts_both h1 h2
        have HR := Lib.hid hcr
        clear hc hra hrb hbw hcr
        generalize hcp : cmpPart l[k] m[k] = c at HR
        have HCP := Lib.hid hcp
        clear hcp
        go_wp2_with fail
        go_region_with (go_at_call 33; refine (ref_parts l[k] m[k] _).mono ?_; rintro e w1 ⟨rfl, hb1⟩)
        all_goals
          have hb2 : Below w.heap.size w w1 := HW.out.drew.trans (hb1.mono HW.out.size)
          have HW2 := Lib.hid hb2
          clear hb1 hb2
          rw [HCP.out]
          by_cases hc0 : c = 0
          · subst hc0
            go_wp2
            go_roundw
            case rel => exact ⟨k + 1, by omega, by omega, by go_num, by rw [← HC.out, HR.out]; simp, HW2.out⟩
            case measure => simp [intOf]; omega
          · have hc1 : (c == 0) = false := by simpa using hc0
            go_wp2
            go_ret
            exact ⟨ret_int (by rw [← HC.out, HR.out, if_neg hc0]), HW2.out⟩
      · have : k = m.length := by omega
        have HC := Lib.hid hc
        have HW := Lib.hid hbw
        have h3 := cmpParts_left (l := l) (m := m) h1 (by omega)
        have h4 : cmpParts l m = 1 := by rw [← hc, h3]
        have H4 := Lib.hid h4
        clear hc hbw this h3 h4
        go_wp2
        go_ret
        exact ⟨ret_int H4.out.symm, HW.out⟩
    · have : k = l.length := by omega
      by_cases h2 : k < m.length
      · have HW := Lib.hid hbw
        have h3 := cmpParts_right (l := l) (m := m) (k := k) (by omega) h2
        have h4 : cmpParts l m = -1 := by rw [← hc, h3]
        have H4 := Lib.hid h4
        clear hc hbw this h3 h4
        go_wp2
        go_ret
        exact ⟨ret_int H4.out.symm, HW.out⟩
      · have h5 : k = m.length := by omega
        have HW := Lib.hid hbw
        have h3 := cmpParts_none (l := l) (m := m) (k := k) (by omega) (by omega)
        have h4 : cmpParts l m = 0 := by rw [← hc, h3]
        have H4 := Lib.hid h4
        clear hc hbw this h3 h4 h5
        go_wp2
        go_ret
        exact ⟨ret_int H4.out.symm, HW.out⟩
end Go.Proofs.Ytnapadpkfjpklaa
