/- Layer 7, the document's disk: Read, New; the first 30 bytes. -/
import Derived.Test.YtbdaflhmloodfaaDe
namespace Go.Proofs.Ytbdaflhmloodfaa
open Go.RowKit
set_option linter.unusedVariables false

def readF (s : ByteArray) (at0 n : Int) : ByteArray := if (s.size : Int) ≤ at0 then ⟨#[]⟩ else s.extract at0.toNat (at0 + (if (s.size : Int) - at0 < n then (s.size : Int) - at0 else n)).toNat
def readD (d : Dk) (m : ByteArray) (at0 n : Int) : ByteArray × Int :=
  if d.down = true then (⟨#[]⟩, 7) else match d.f[(atF d.f m).toNat]? with
    | none => (⟨#[]⟩, 8)
    | some f => if atF d.f m < 0 then (⟨#[]⟩, 8) else if at0 < 0 ∨ n < 0 then (⟨#[]⟩, 1) else (readF f.b at0 n, 0)

set_option maxRecDepth 100000 in
set_option maxHeartbeats 4000000 in
theorem ref_read7 (w : World) (B g : Nat) (p : Value) (d : Dk) (m : ByteArray) (x n : Int) (h : RdD w B g p d) (hd : OkD d)
    (hx : -9223372036854775808 ≤ x ∧ x ≤ 9223372036854775807) (hn : -9223372036854775808 ≤ n ∧ n ≤ 9223372036854775807) :
    Calls Try.prog 35 #[p, .string m, .int .i64 x, .int .i64 n] w fun e w' => e = .returned (.tuple #[.string (readD d m x n).1, .int .i64 (readD d m x n).2]) ∧ w = w' := by
  have hlen := hd.len
  have hused := hd.used
  have AT := Lib.hid (fun w h => ref_at w B g p d m h (by omega))
  have D := Lib.hid h
  have hR := Lib.hid (show readD d m x n = (if d.down = true then (⟨#[]⟩, 7) else match d.f[(atF d.f m).toNat]? with
    | none => (⟨#[]⟩, 8)
    | some f => if atF d.f m < 0 then (⟨#[]⟩, 8) else if x < 0 ∨ n < 0 then (⟨#[]⟩, 1) else (readF f.b x n, 0) : ByteArray × Int) from rfl)
  have hal := atF_lt d.f m
  have UG := Lib.hid (usedF_ge d.f)
  have hneg : atF d.f m < 0 → readD d m x n = (if d.down = true then (⟨#[]⟩, 7) else (⟨#[]⟩, 8) : ByteArray × Int) := fun h => by
    rw [hR.out]
    split
    · rfl
    · split
      · rfl
      · first | rfl | rw [if_pos h]
  have HNEG := Lib.hid hneg
  clear hneg hd
  generalize readD d m x n = res at *
  generalize atF d.f m = at0 at *
  obtain ⟨rfl, hf, fv, hb, ho⟩ := h
  obtain ⟨l, mx, lf, dn⟩ := d
  simp only at *
  have HAL := Lib.hid hal
  have c0 := hb.cell 0 _ rfl
  have c3 := hb.cell 3 _ rfl
  have HO := Lib.hid ho
  clear hal hb
  go_enter Try.func35, Try.ntmps35
  go_wp2_with fail
  refine (AT.out _ D.out).mono ?_
  rintro z w1 ⟨rfl, rfl⟩
  cases dn
  · by_cases ha : at0 < 0
    · have za : decide (at0 < 0) = true := by simpa using ha
      have HS := Lib.hid (show res = (⟨#[]⟩, 8) from by rw [HNEG.out ha]; rfl)
      go_wp2_with fail
      go_ret2
      rw [HS.out]
      exact ⟨rfl, rfl⟩
    · have za : decide (at0 < 0) = false := by simpa using ha
      obtain ⟨hal, -⟩ := HAL.out (by omega)
      obtain ⟨k, hk⟩ : ∃ k : Nat, at0 = (k : Int) := ⟨at0.toNat, by omega⟩
      subst hk
      rw [Int.toNat_natCast] at hal hR
      have hr := hR.out
      rw [if_neg (by simp), List.getElem?_eq_getElem hal] at hr
      simp only [if_neg ha] at hr
      have HR2 := Lib.hid hr
      have hsz := UG.out k hal
      obtain ⟨rb, c2, e2, hrb, hrl⟩ := ho.pos (by omega)
      subst e2
      have r1 : w.cell? ⟨rb, k * 3 + 1, none⟩ = some (.string l[k].b) := HO.out.cell k hal 1 _ rfl
      have zk : decide ((0 : Int) ≤ (k : Int)) = true := by simp
      have zkl : decide ((k : Int) < (l.length : Int)) = true := by simp; omega
      clear hr ho ha
      generalize l[k].b = s at *
      by_cases hx0 : x < 0
      · have HS := Lib.hid (show res = (⟨#[]⟩, 1) from by rw [HR2.out, if_pos (.inl hx0)])
        have zx : decide (x < 0) = true := by simpa using hx0
        go_wp2_with fail
        go_ret2
        rw [HS.out]
        exact ⟨rfl, rfl⟩
      · have zx : decide (x < 0) = false := by simpa using hx0
        by_cases hn0 : n < 0
        · have HS := Lib.hid (show res = (⟨#[]⟩, 1) from by rw [HR2.out, if_pos (.inr hn0)])
          have zn : decide (n < 0) = true := by simpa using hn0
          go_wp2_with fail
          go_ret2
          rw [HS.out]
          exact ⟨rfl, rfl⟩
        · have zn : decide (n < 0) = false := by simpa using hn0
          have HS := Lib.hid (show res = (readF s x n, 0) from by rw [HR2.out, if_neg (by omega)])
          by_cases hxs : (s.size : Int) ≤ x
          · have HF := Lib.hid (show readF s x n = ⟨#[]⟩ from if_pos hxs)
            have zs : decide ((s.size : Int) ≤ x) = true := by simpa using hxs
            go_wp2_with fail
            go_ret2
            rw [HS.out, HF.out]
            exact ⟨rfl, rfl⟩
          · have zs : decide ((s.size : Int) ≤ x) = false := by simpa using hxs
            have hw1 : IntKind.i64.wrap ((s.size : Int) - x) = (s.size : Int) - x := by rw [IntKind.wrap_i64]; omega
            obtain ⟨j, hj⟩ : ∃ j : Nat, x = (j : Int) := ⟨x.toNat, by omega⟩
            subst hj
            obtain ⟨r, hr⟩ : ∃ r : Nat, s.size = j + r := ⟨s.size - j, by omega⟩
            have hj2 : j + r = s.size := hr.symm
            have hsr : (s.size : Int) - (j : Int) = (r : Int) := by omega
            rw [hsr] at hw1
            have hv1 : wrap64 ((s.size : Int) - (j : Int)) = (r : Int) := by unfold wrap64; omega
            have zsN : decide (s.size ≤ j) = false := by rw [decide_eq_false_iff_not]; omega
            by_cases hns : (r : Int) < n
            · have HF := Lib.hid (show readF s j n = s.extract j (j + r) from by
                unfold readF
                rw [if_neg hxs, hsr, if_pos hns, Int.toNat_natCast, show ((j : Int) + (r : Int)).toNat = j + r from by omega])
              have hsl : ∀ W, (Instr.slice 9 (.string s) (some (.int .i64 (j : Int))) (some (.int .i64 ((j : Int) + (r : Int)))) none).run Try.prog W = .ok (.string (s.extract j (j + r))) W := fun W => by
                rw [run_slice_string W 9 s .i64 .i64 (j : Int) ((j : Int) + (r : Int)) Try.underlying9 (by omega) (by omega) (by omega)]
                rw [Int.toNat_natCast, show ((j : Int) + (r : Int)).toNat = j + r from by omega]
              have zz : decide ((r : Int) < n) = true := by simpa using hns
              have hw2 : IntKind.i64.wrap ((j : Int) + (r : Int)) = (j : Int) + (r : Int) := by rw [IntKind.wrap_i64]; omega
              have hv2 : wrap64 ((j : Int) + (r : Int)) = (j : Int) + (r : Int) := by unfold wrap64; omega
              clear hns hj2 hsr hr hxs hx0 hn0 hx hn
              go_wp2_with fail
              go_ret2
              rw [HS.out, HF.out]
              exact ⟨rfl, rfl⟩
            · obtain ⟨i, hi⟩ : ∃ i : Nat, n = (i : Int) := ⟨n.toNat, by omega⟩
              subst hi
              have HF := Lib.hid (show readF s j i = s.extract j (j + i) from by
                unfold readF
                rw [if_neg hxs, hsr, if_neg hns, Int.toNat_natCast, show ((j : Int) + (i : Int)).toNat = j + i from by omega])
              have hsl : ∀ W, (Instr.slice 9 (.string s) (some (.int .i64 (j : Int))) (some (.int .i64 ((j : Int) + (i : Int)))) none).run Try.prog W = .ok (.string (s.extract j (j + i))) W := fun W => by
                rw [run_slice_string W 9 s .i64 .i64 (j : Int) ((j : Int) + (i : Int)) Try.underlying9 (by omega) (by omega) (by omega)]
                rw [Int.toNat_natCast, show ((j : Int) + (i : Int)).toNat = j + i from by omega]
              have zz : decide ((r : Int) < (i : Int)) = false := by simpa using hns
              have zzN : decide (r < i) = false := by rw [decide_eq_false_iff_not]; omega
              have hw2 : IntKind.i64.wrap ((j : Int) + (i : Int)) = (j : Int) + (i : Int) := by rw [IntKind.wrap_i64]; omega
              have hv2 : wrap64 ((j : Int) + (i : Int)) = (j : Int) + (i : Int) := by unfold wrap64; omega
              clear hns hj2 hsr hr hxs hx0 hn0 hx hn
              go_wp2_with fail
              go_ret2
              rw [HS.out, HF.out]
              exact ⟨rfl, rfl⟩
  · have HS := Lib.hid (show res = (⟨#[]⟩, 7) from by rw [hR.out, if_pos rfl])
    go_wp2_with fail
    go_ret2
    rw [HS.out]
    exact ⟨rfl, rfl⟩

set_option maxHeartbeats 1000000 in
theorem ref_new7_bad (w : World) (q : Int) (h : ¬ (0 ≤ q ∧ q ≤ 16777216)) :
    Calls Try.prog 11 #[.int .i64 q] w fun e w' => e = .returned (.pointer none) ∧ w = w' := by
  by_cases h0 : q < 0
  · have z0 : decide (q < 0) = true := by simpa using h0
    go_enter Try.func11, Try.ntmps11
    go_wp2_with fail
    go_ret
    exact ⟨rfl, rfl⟩
  · have z0 : decide (q < 0) = false := by simpa using h0
    have z1 : decide ((16777216 : Int) < q) = true := by simp; omega
    go_enter Try.func11, Try.ntmps11
    go_wp2_with fail
    go_ret
    exact ⟨rfl, rfl⟩
set_option maxHeartbeats 1000000 in
theorem ref_new7 (w : World) (q : Int) (h0 : 0 ≤ q) (h1 : q ≤ 16777216) :
    Calls Try.prog 11 #[.int .i64 q] w fun e w' => ∃ p, e = .returned p ∧ RdD w' w.heap.size w.heap.size p ⟨[], q, -1, false⟩ ∧ Below w.heap.size w w' := by
  have z0 : decide (q < 0) = false := by rw [decide_eq_false_iff_not]; omega
  have z1 : decide ((16777216 : Int) < q) = false := by rw [decide_eq_false_iff_not]; omega
  go_enter Try.func11, Try.ntmps11
  go_wp2_with fail
  go_ret
  exact ⟨_, rfl, ⟨rfl, Nat.le_refl _, .slice none 0 0, Box.new w _ _ _ rfl, OwnX.nil _ _⟩, alloc_below w _⟩

def fewS (s : ByteArray) : ByteArray := if 30 < s.size then s.extract 0 30 else s
set_option maxHeartbeats 400000 in
theorem few7 (s : ByteArray) (w : World) : Calls Try.prog 15 #[.string s] w fun e w' => e = .returned (.string (fewS s)) ∧ w = w' := by
  unfold fewS
  by_cases h : 30 < s.size
  · rw [if_pos h]
    go_enter Try.func15, Try.ntmps15
    go_wp2
    go_ret
    exact ⟨rfl, rfl⟩
  · rw [if_neg h]
    go_enter Try.func15, Try.ntmps15
    go_wp2
    go_ret
    exact ⟨rfl, rfl⟩
theorem fewS_size (s : ByteArray) : (fewS s).size ≤ 30 := by
  unfold fewS; split
  · rw [ByteArray.size_extract]; omega
  · omega
end Go.Proofs.Ytbdaflhmloodfaa
