/- Layer 1: Split, the program's and the document's. -/
import Derived.Test.YtnapadpkfjpklaaOk2
import Derived.Lib.ConvBytes
namespace Go.Proofs.Ytnapadpkfjpklaa
open Go.RowKit
set_option linter.unusedVariables false

/-- A text as bytes: new memory that reads so. -/
theorem str_bytes (s : ByteArray) (w : World) (hs : s.size ≤ 9223372036854775807) :
    ∃ A c w1, (convert 9 24 (.string s)).run Try.prog w = .ok (.slice A s.size c) w1 ∧ RdB w1 w1.heap.size (.slice A s.size c) s.data.toList ∧ Below w.heap.size w w1 := by
  refine ⟨some ⟨w.heap.size, 0, none⟩, grownCap w s.size 0 5, Lib.bytesWorld w 5 s, Lib.run_convert_string_bytes w _ _ 5 s Try.underlying9 Try.underlying24 Try.underlying5, ?_, ?_⟩
  · have hsz : s.data.toList.length = s.size := by simp
    refine ⟨_, _, by rw [hsz], by rw [hsz]; exact grownCap_ge w s.size 0 _, by have := grownCap_le_maxLen w s.size 0 5 (by simp only [maxLen]; omega); simpa [maxLen] using this, fun hp => ⟨w.heap.size, 0, rfl, by rw [Lib.bytesWorld_size]; omega, fun k u hu => ?_⟩⟩
    have hk : k < s.size := by rw [← hsz]; exact (List.getElem?_eq_some_iff.1 hu).1
    rw [Nat.zero_add, Lib.bytesWorld_cell w _ s k hk, List.getD_eq_getElem?_getD, hu]
    rfl
  · refine ⟨?_, ?_, ?_, by rw [Lib.bytesWorld_size]; omega, fun k hk => Lib.bytesWorld_at_old w _ s k hk⟩
    all_goals (simp [Lib.bytesWorld, World.freeze]; try rfl)

/-- What Split tells. -/
def splitOf (l : List UInt8) : Int × ByteArray × Int :=
  if (rdAll l).1 = 0 then (match keyOf (rdAll l).2 with | some (t, s) => (t, s, 0) | none => (0, ⟨#[]⟩, 2)) else (0, ⟨#[]⟩, (rdAll l).1)

theorem key_two {l : List PartD} {t : Int} {s : ByteArray} (h : keyOf l = some (t, s)) : ∃ p q, l = [p, q] ∧ p.isText = false ∧ q.isText = true ∧ p.num = t ∧ q.text = s ∧ 0 ≤ t ∧ t < 4 ∧ s.size ≤ 40 := by
  unfold keyOf at h
  split at h
  · rename_i p q
    split at h
    · rename_i hc
      simp only [Option.some.injEq, Prod.mk.injEq] at h
      exact ⟨p, q, rfl, hc.1, hc.2.1, h.1, h.2, by omega, by omega, by rw [← h.2]; exact hc.2.2.2.2⟩
    · cases h
  · cases h

set_option maxHeartbeats 800000 in
theorem order_split (s : ByteArray) (w : World) (hs : s.size ≤ 1000000) :
    Calls Try.prog 22 #[.string s] w fun e w' => e = .returned (.tuple #[.int .i64 (splitOf s.data.toList).1, .string (splitOf s.data.toList).2.1, .int .i64 (splitOf s.data.toList).2.2]) ∧ Below w.heap.size w w' := by
  obtain ⟨A, c, w1, hcv, hr, hb⟩ := str_bytes s w (by omega)
  have HR := Lib.hid hr
  have HB := Lib.hid hb
  have hs1 := hb.size
  clear hr hb
  generalize hl : s.data.toList = l at *
  have hll : l.length ≤ 1000000 := by rw [← hl]; simpa using hs
  clear hl
  have hsp : splitOf l = if (rdAll l).1 = 0 then (match keyOf (rdAll l).2 with | some (t, s) => (t, s, 0) | none => (0, ⟨#[]⟩, 2)) else (0, ⟨#[]⟩, (rdAll l).1) := rfl
  generalize splitOf l = sp at *
  go_enter Try.func22, Try.ntmps22
  have HSP := Lib.hid hsp
  clear hsp
  go_wp2_with fail
  refine (order_read _ l _ HR.out hll).mono ?_
  rintro e w2 ⟨x, rfl, hx, hb2⟩
  generalize rdAll l = ra at *
  obtain ⟨er, ps⟩ := ra
  have H2 := Lib.hid (HB.out.trans (hb2.mono hs1))
  have hs2 := H2.out.size
  have HX := Lib.hid hx
  clear hb2 hx hcv
  have hsp := HSP.out
  simp only at hsp
  by_cases he : er = 0
  · subst he
    simp only [if_true] at hsp
    have HSP := Lib.hid hsp
    clear hsp
    go_wp2_with fail
    refine (is_key x ps _ HX.out).mono ?_
    rintro e w3 ⟨rfl, rfl⟩
    rcases hk : keyOf ps with _ | ⟨t, z⟩
    · have hsp := HSP.out
      rw [hk] at hsp
      simp only at hsp
      subst hsp
      simp only [Option.isSome_none]
      clear hk
      go_wp2
      go_ret3
      exact ⟨rfl, H2.out⟩
    · have hsp := HSP.out
      rw [hk] at hsp
      simp only at hsp
      subst hsp
      simp only [Option.isSome_some]
      obtain ⟨p, q, rfl, _, _, e3, e4, _, _, _⟩ := key_two hk
      have HX2 := HX.out
      obtain ⟨A2, c2, rfl, _, _, hcell⟩ := HX2
      obtain ⟨b, o, rfl, _, hcell⟩ := hcell (by simp)
      have a1 := (hcell 0 p rfl).2.1
      have b2 := (hcell 1 q rfl).2.2
      rw [e3] at a1
      rw [e4] at b2
      simp only [Nat.zero_mul, Nat.add_zero, Nat.one_mul] at a1 b2
      simp only [List.length_cons, List.length_nil] at *
      clear hk hcell e3 e4
      go_wp2
      go_quiet (fail)
      go_wp2
      go_ret3
      exact ⟨rfl, H2.out.drewN _⟩
  · have he1 : (er != 0) = true := by simpa using he
    rw [if_neg he] at hsp
    subst hsp
    clear he
    go_wp2
    go_ret3
    exact ⟨rfl, H2.out⟩
set_option maxHeartbeats 800000 in
theorem ref_split (s : ByteArray) (w : World) (hs : s.size ≤ 1000000) :
    Calls Try.prog 24 #[.string s] w fun e w' => e = .returned (.tuple #[.int .i64 (splitOf s.data.toList).1, .string (splitOf s.data.toList).2.1, .int .i64 (splitOf s.data.toList).2.2]) ∧ Below w.heap.size w w' := by
  obtain ⟨A, c, w1, hcv, hr, hb⟩ := str_bytes s w (by omega)
  have HR := Lib.hid hr
  have HB := Lib.hid hb
  have hs1 := hb.size
  clear hr hb
  generalize hl : s.data.toList = l at *
  have hll : l.length ≤ 1000000 := by rw [← hl]; simpa using hs
  clear hl
  have hsp : splitOf l = if (rdAll l).1 = 0 then (match keyOf (rdAll l).2 with | some (t, s) => (t, s, 0) | none => (0, ⟨#[]⟩, 2)) else (0, ⟨#[]⟩, (rdAll l).1) := rfl
  generalize splitOf l = sp at *
  go_enter Try.func24, Try.ntmps24
  have HSP := Lib.hid hsp
  clear hsp
  go_wp2_with fail
  refine (ref_read _ l _ HR.out hll).mono ?_
  rintro e w2 ⟨x, rfl, hx, hb2⟩
  generalize rdAll l = ra at *
  obtain ⟨er, ps⟩ := ra
  have H2 := Lib.hid (HB.out.trans (hb2.mono hs1))
  have hs2 := H2.out.size
  have HX := Lib.hid hx
  clear hb2 hx hcv
  have hsp := HSP.out
  simp only at hsp
  by_cases he : er = 0
  · subst he
    simp only [if_true] at hsp
    have HSP := Lib.hid hsp
    clear hsp
    have HX2 := HX.out
    by_cases h2 : ps.length = 2
    · obtain ⟨p, q, rfl⟩ : ∃ p q, ps = [p, q] := by
        match ps, h2 with
        | [p, q], _ => exact ⟨p, q, rfl⟩
      obtain ⟨A2, c2, rfl, _, _, hcell⟩ := HX2
      obtain ⟨b, o, rfl, _, hcell⟩ := hcell (by simp)
      obtain ⟨a0, a1, a2⟩ := hcell 0 p rfl
      obtain ⟨b0, b1, b2⟩ := hcell 1 q rfl
      obtain ⟨tp, np, zp⟩ := p
      obtain ⟨tq, nq, zq⟩ := q
      simp only [Nat.zero_mul, Nat.add_zero, Nat.one_mul] at a0 a1 a2 b0 b1 b2
      simp only [List.length_cons, List.length_nil] at *
      clear hcell h2
      have hsp := HSP.out
      cases tp
      · cases tq
        · have hk : keyOf [⟨false, np, zp⟩, ⟨false, nq, zq⟩] = none := by simp [keyOf]
          rw [hk] at hsp
          simp only at hsp
          subst hsp
          clear hk
          go_wp2
          go_ret3
          exact ⟨rfl, H2.out⟩
        · by_cases hn : 0 ≤ np ∧ np < 4 ∧ zq.size ≤ 40
          · obtain ⟨n1, n2, n3⟩ := hn
            have hk : keyOf [⟨false, np, zp⟩, ⟨true, nq, zq⟩] = some (np, zq) := by simp [keyOf, n1, n2, n3]
            rw [hk] at hsp
            simp only at hsp
            subst hsp
            clear hk
            go_wp2
            go_quiet (fail)
            go_wp2
            go_ret3
            exact ⟨rfl, H2.out.drewN _⟩
          · have hk : keyOf [⟨false, np, zp⟩, ⟨true, nq, zq⟩] = none := by simp [keyOf]; omega
            rw [hk] at hsp
            simp only at hsp
            subst hsp
            clear hk
            by_cases n1 : 0 ≤ np
            · by_cases n2 : np < 4
              · have n3 : 40 < zq.size := by omega
                clear hn
                go_wp2
                go_ret3
                exact ⟨rfl, H2.out⟩
              · have n4 : 4 ≤ np := by omega
                have hd : decide (3 < np) = true := by simp; omega
                clear hn n2
                go_wp2
                go_ret3
                exact ⟨rfl, H2.out⟩
            · have n4 : np < 0 := by omega
              clear hn n1
              go_wp2
              go_ret3
              exact ⟨rfl, H2.out⟩
      · have hk : keyOf [⟨true, np, zp⟩, ⟨tq, nq, zq⟩] = none := by simp [keyOf]
        rw [hk] at hsp
        simp only at hsp
        subst hsp
        clear hk
        go_wp2
        go_ret3
        exact ⟨rfl, H2.out⟩
    · have hk : keyOf ps = none := by
        unfold keyOf
        split
        · simp at h2
        · rfl
      have hsp := HSP.out
      rw [hk] at hsp
      simp only at hsp
      subst hsp
      obtain ⟨A2, c2, rfl, _, _, _⟩ := HX2
      have h3 : ((ps.length : Int) != 2) = true := by simp; omega
      clear hk
      go_wp2
      go_ret3
      exact ⟨rfl, H2.out⟩
  · have he1 : (er != 0) = true := by simpa using he
    rw [if_neg he] at hsp
    subst hsp
    clear he
    go_wp2
    go_ret3
    exact ⟨rfl, H2.out⟩
end Go.Proofs.Ytnapadpkfjpklaa
