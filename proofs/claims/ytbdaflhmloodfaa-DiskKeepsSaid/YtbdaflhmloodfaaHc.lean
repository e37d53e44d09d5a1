/- Layer 7, the project's disk: its power, its quota; the file of a name. -/
import Derived.Test.YtbdaflhmloodfaaHb
namespace Go.Proofs.Ytbdaflhmloodfaa
open Go.RowKit
set_option linter.unusedVariables false

section
variable {S : Nat → Prop} {w w' : World} {l : List Fl} {m : Nat} {gb : ByteArray → Nat} {vv : ByteArray → Value} {g : Nat} {d : Dk} {p : Value}
theorem FilesR.disk_set (h : FilesR w S l m gb vv) {cs : Array Value} (hb : Box w g cs 54) (j : Nat) (u : Value) : FilesR (w.setCell ⟨g, j, none⟩ u) S l m gb vv := by
  refine h.keep fun i o _ ho hi => ?_
  by_cases hig : i = g
  · subst hig
    rw [show w.heap[i]? = _ from hb] at hi
    cases hi
    rw [filO_disk] at ho
    cases ho
  · exact (Below.heap_setCell w ⟨g, j, none⟩ u i hig).trans hi

def armD (d : Dk) (n : Int) : Dk := { d with left := if n < 0 then -1 else n }
def quotaD (d : Dk) (n : Int) : Dk × Int := if d.down = true then (d, 7) else if 0 ≤ n ∧ n ≤ 16777216 then ({ d with max := n }, 0) else (d, 1)

set_option maxHeartbeats 2000000 in
theorem p_goes (h : RdMp w S g d m gb vv) (hd : d.down = false) (hl : -1 ≤ d.left ∧ d.left ≤ 9223372036854775807) :
    Calls Try.prog 57 #[.pointer (some ⟨g, 0, none⟩)] w fun e w' => e = .returned (.bool (decide (d.left = 0))) ∧ RdMp w' S g (mayD d 0).1 m gb vv ∧ Kept S w w' ∧ w.grownBy w' (some g) := by
  obtain ⟨hs, ⟨A, hb, hA1, hA2, hA3⟩, hf⟩ := h
  have hA := hA3 hd
  clear hA3
  have HS := Lib.hid hs
  have HB := Lib.hid hb
  have HF := Lib.hid hf
  obtain ⟨fl, mx, lf, dn⟩ := d
  simp only at *
  subst hd
  have c2 := hb.cell 2 (.int .i64 A) rfl
  have c3 := hb.cell 3 (.bool false) rfl
  have f2 := hb.frozen 2
  have f3 := hb.frozen 3
  have hgl := hb.lt
  clear hb hf hs
  by_cases h0 : A = 0
  · have hl0 : lf = 0 := by omega
    subst h0 hl0
    have hm := Lib.hid (show (mayD ⟨fl, mx, 0, false⟩ 0).1 = ⟨fl, mx, -1, true⟩ from by simp [mayD])
    clear hA
    go_enter Try.func57, Try.ntmps57
    go_wp2_with fail
    go_ret
    rw [hm.out]
    exact ⟨rfl, ⟨HS.out, ⟨0, HB.out.set 3 _, by omega, by omega, fun e => by cases e⟩, HF.out.disk_set HB.out _ _⟩, (Kept.refl S w).set HB.out HS.out (projO_disk _) 3 _, grown_set _ _ _ _⟩
  · have z0 : (A == 0) = false := by simpa using h0
    by_cases h1 : 0 < A
    · have hl0 : lf = A := by omega
      subst hl0
      have hm := Lib.hid (show (mayD ⟨fl, mx, lf, false⟩ 0).1 = ⟨fl, mx, lf - 1, false⟩ from by simp [mayD, h0, h1])
      have hw : IntKind.i64.wrap (lf - 1) = lf - 1 := by rw [IntKind.wrap_i64]; omega
      have hdz := Lib.hid (show decide (lf = 0) = false from decide_eq_false h0)
      clear hA
      go_enter Try.func57, Try.ntmps57
      go_wp2_with fail
      go_ret
      rw [hm.out]
      exact ⟨ret_bool hdz.out.symm, ⟨HS.out, ⟨lf - 1, (HB.out.set 3 _).set 2 _, by omega, by omega, fun _ => .inl rfl⟩, (HF.out.disk_set HB.out _ _).disk_set (HB.out.set 3 _) _ _⟩, ((Kept.refl S w).set HB.out HS.out (projO_disk _) 3 _).set (HB.out.set 3 _) HS.out (projO_disk _) 2 _, (grown_set _ _ _ _).trans (grown_set _ _ _ _)⟩
    · have hl0 : lf < 0 := by omega
      have hm := Lib.hid (show (mayD ⟨fl, mx, lf, false⟩ 0).1 = ⟨fl, mx, lf, false⟩ from by
        have a : ¬ lf = 0 := by omega
        have b : ¬ 0 < lf := by omega
        simp [mayD, a, b])
      have z1 : decide (0 < A) = false := decide_eq_false h1
      have hdz := Lib.hid (show decide (lf = 0) = false from decide_eq_false (by omega))
      have HA := Lib.hid (show A = lf ∨ (A < 0 ∧ lf < 0) from hA)
      clear hA
      go_enter Try.func57, Try.ntmps57
      go_wp2_with fail
      go_ret
      rw [hm.out]
      exact ⟨ret_bool hdz.out.symm, ⟨HS.out, ⟨A, HB.out.set 3 _, hA1, hA2, fun _ => HA.out⟩, HF.out.disk_set HB.out _ _⟩, (Kept.refl S w).set HB.out HS.out (projO_disk _) 3 _, grown_set _ _ _ _⟩

theorem p_arm (h : RdM w S g p d) (n : Int) (hn : -9223372036854775808 ≤ n ∧ n ≤ 9223372036854775807) :
    Calls Try.prog 26 #[p, .int .i64 n] w fun e w' => e = .returned (.tuple #[]) ∧ RdM w' S g p (armD d n) ∧ Kept S w w' := by
  obtain ⟨rfl, m, gb, vv, hs, ⟨A, hb, hA⟩, hf⟩ := h
  have HS := Lib.hid hs
  have HB := Lib.hid hb
  have HF := Lib.hid hf
  have c2 := hb.cell 2 (.int .i64 A) rfl
  have f2 := hb.frozen 2
  have hgl := hb.lt
  clear hb hf hs hA
  go_enter Try.func26, Try.ntmps26
  go_wp2_with fail
  go_end0
  refine ⟨rfl, ⟨rfl, m, gb, vv, HS.out, ⟨n, HB.out.set 2 _, hn.1, hn.2, fun _ => ?_⟩, HF.out.disk_set HB.out _ _⟩, (Kept.refl S w).set HB.out HS.out (projO_disk _) 2 _⟩
  unfold armD
  simp only
  split <;> omega
theorem p_alive (h : RdM w S g p d) : Calls Try.prog 19 #[p] w fun e w' => e = .returned (.bool (!d.down)) ∧ w = w' := by
  obtain ⟨rfl, m, gb, vv, hs, ⟨A, hb, hA⟩, hf⟩ := h
  have c3 := hb.cell 3 (.bool d.down) rfl
  clear hb hf hs hA
  generalize d.down = q at *
  go_enter Try.func19, Try.ntmps19
  go_wp2_with fail
  go_ret
  exact ⟨rfl, rfl⟩
theorem p_quota (h : RdM w S g p d) (n : Int) :
    Calls Try.prog 34 #[p, .int .i64 n] w fun e w' => e = .returned (.int .i64 (quotaD d n).2) ∧ RdM w' S g p (quotaD d n).1 ∧ Kept S w w' := by
  obtain ⟨rfl, m, gb, vv, hs, ⟨A, hb, hA⟩, hf⟩ := h
  have HS := Lib.hid hs
  have HB := Lib.hid hb
  have HF := Lib.hid hf
  have HA := Lib.hid hA
  obtain ⟨fl, mx, lf, dn⟩ := d
  simp only at *
  have c1 := hb.cell 1 (.int .i64 mx) rfl
  have c3 := hb.cell 3 (.bool dn) rfl
  have f1 := hb.frozen 1
  have hgl := hb.lt
  clear hb hf hs hA
  cases dn
  · by_cases hq : 0 ≤ n ∧ n ≤ 16777216
    · have hd := Lib.hid (show decide (0 ≤ n ∧ n ≤ 16777216) = true from decide_eq_true hq)
      have hr := Lib.hid (show quotaD ⟨fl, mx, lf, false⟩ n = (⟨fl, n, lf, false⟩, 0) from by unfold quotaD; rw [if_neg (by simp), if_pos hq])
      clear hq
      go_enter Try.func34, Try.ntmps34
      go_wp2_with (go_at_call 27; refine (p_mayQuota n _).mono ?_; rintro e w' ⟨rfl, rfl⟩; rw [hd.out])
      go_ret
      rw [hr.out]
      exact ⟨rfl, ⟨rfl, m, gb, vv, HS.out, ⟨A, HB.out.set 1 _, HA.out⟩, HF.out.disk_set HB.out _ _⟩, (Kept.refl S w).set HB.out HS.out (projO_disk _) 1 _⟩
    · have hd := Lib.hid (show decide (0 ≤ n ∧ n ≤ 16777216) = false from decide_eq_false hq)
      have hr := Lib.hid (show quotaD ⟨fl, mx, lf, false⟩ n = (⟨fl, mx, lf, false⟩, 1) from by unfold quotaD; rw [if_neg (by simp), if_neg hq])
      clear hq
      go_enter Try.func34, Try.ntmps34
      go_wp2_with (go_at_call 27; refine (p_mayQuota n _).mono ?_; rintro e w' ⟨rfl, rfl⟩; rw [hd.out])
      go_ret
      rw [hr.out]
      exact ⟨rfl, ⟨rfl, m, gb, vv, HS.out, ⟨A, HB.out, HA.out⟩, HF.out⟩, Kept.refl S w⟩
  · have hr := Lib.hid (show quotaD ⟨fl, mx, lf, true⟩ n = (⟨fl, mx, lf, true⟩, 7) from by unfold quotaD; rw [if_pos rfl])
    go_enter Try.func34, Try.ntmps34
    go_wp2_with fail
    go_ret
    rw [hr.out]
    exact ⟨rfl, ⟨rfl, m, gb, vv, HS.out, ⟨A, HB.out, HA.out⟩, HF.out⟩, Kept.refl S w⟩

/-- find: the power is gone; no such file; the file. -/
theorem p_find_down (h : RdMp w S g d m gb vv) (hd : d.down = true) (n : ByteArray) :
    Calls Try.prog 42 #[.pointer (some ⟨g, 0, none⟩), .string n] w fun e w' => e = .returned (.tuple #[.pointer none, .int .i64 7]) ∧ w = w' := by
  obtain ⟨hs, ⟨A, hb, hA⟩, hf⟩ := h
  rw [hd] at hb
  have c3 := hb.cell 3 (.bool true) rfl
  clear hb hf hs hA hd
  go_enter Try.func42, Try.ntmps42
  go_wp2_with fail
  go_ret2
  exact ⟨rfl, rfl⟩
theorem p_find_none (h : RdMp w S g d m gb vv) (hd : d.down = false) (n : ByteArray) (hn : n.size ≤ 9223372036854775807) (hno : ∀ f ∈ d.f, f.name ≠ n) :
    Calls Try.prog 42 #[.pointer (some ⟨g, 0, none⟩), .string n] w fun e w' => e = .returned (.tuple #[.pointer none, .int .i64 8]) ∧ w = w' := by
  obtain ⟨hs, ⟨A, hb, hA⟩, hf⟩ := h
  rw [hd] at hb
  have c0 := hb.cell 0 (.map (some m)) rfl
  have c3 := hb.cell 3 (.bool false) rfl
  have hlk := hf.miss hn hno
  clear hb hf hs hA hd hno
  go_enter Try.func42, Try.ntmps42
  go_wp2_with fail
  go_ret2
  exact ⟨rfl, rfl⟩
theorem p_find_hit (h : RdMp w S g d m gb vv) (hd : d.down = false) {f : Fl} (hf : f ∈ d.f) :
    Calls Try.prog 42 #[.pointer (some ⟨g, 0, none⟩), .string f.name] w fun e w' => e = .returned (.tuple #[.pointer (some ⟨gb f.name, 0, none⟩), .int .i64 0]) ∧ w = w' := by
  obtain ⟨hs, ⟨A, hb, hA⟩, hf2⟩ := h
  rw [hd] at hb
  have c0 := hb.cell 0 (.map (some m)) rfl
  have c3 := hb.cell 3 (.bool false) rfl
  have hlk := hf2.hit hf
  clear hb hf2 hs hA hd hf
  generalize gb f.name = x at *
  generalize f.name = n at *
  go_enter Try.func42, Try.ntmps42
  go_wp2_with fail
  go_ret2
  exact ⟨rfl, rfl⟩

def sizeD (d : Dk) (n : ByteArray) : Int × Int := if d.down = true then (0, 7) else match d.f.find? (fun f => decide (f.name = n)) with | some f => (f.b.size, 0) | none => (0, 8)
theorem p_size (h : RdM w S g p d) (n : ByteArray) (hn : n.size ≤ 9223372036854775807) :
    Calls Try.prog 37 #[p, .string n] w fun e w' => e = .returned (.tuple #[.int .i64 (sizeD d n).1, .int .i64 (sizeD d n).2]) ∧ w = w' := by
  obtain ⟨rfl, m, gb, vv, h⟩ := h
  have H := Lib.hid h
  cases hd : d.down
  · cases hfi : d.f.find? (fun f => decide (f.name = n)) with
    | none =>
      have hno : ∀ f ∈ d.f, f.name ≠ n := fun f hf => by simpa using List.find?_eq_none.1 hfi f hf
      have HC := Lib.hid (p_find_none (w := w) h hd n hn hno)
      have hr := Lib.hid (show sizeD d n = (0, 8) from by unfold sizeD; rw [if_neg (by simp [hd]), hfi])
      clear h hd hfi hno
      go_enter Try.func37, Try.ntmps37
      go_wp2_with (go_at_call 42; refine (HC.out).mono ?_; rintro e w' ⟨rfl, rfl⟩)
      go_ret2
      rw [hr.out]
      exact ⟨rfl, rfl⟩
    | some f =>
      obtain rfl : f.name = n := by simpa using List.find?_some hfi
      have hf := List.mem_of_find?_eq_some hfi
      have HC := Lib.hid (p_find_hit (w := w) h hd hf)
      have hr := Lib.hid (show sizeD d f.name = ((f.b.size : Int), 0) from by unfold sizeD; rw [if_neg (by simp [hd]), hfi])
      have hff := h.files.file f hf
      obtain ⟨v, hv⟩ : ∃ v, v = vv f.name := ⟨_, rfl⟩
      rw [← hv] at hff
      have HV := Lib.hid hv
      obtain ⟨X, c, e, -⟩ := own_cap hff.own
      subst e
      have hsz : f.b.data.toList.length = f.b.size := by simp
      have c0 : w.cell? ⟨gb f.name, 0, none⟩ = some (.slice X f.b.size c) := by rw [← hsz]; exact hff.box.cell 0 _ rfl
      clear h hd hfi hf hff hv hsz
      generalize gb f.name = x at *
      go_enter Try.func37, Try.ntmps37
      go_wp2_with (go_at_call 42; refine (HC.out).mono ?_; rintro e w' ⟨rfl, rfl⟩)
      go_ret2
      rw [hr.out]
      exact ⟨rfl, rfl⟩
  · have HC := Lib.hid (p_find_down (w := w) h hd n)
    have hr := Lib.hid (show sizeD d n = (0, 7) from by unfold sizeD; rw [if_pos hd])
    clear h hd
    go_enter Try.func37, Try.ntmps37
    go_wp2_with (go_at_call 42; refine (HC.out).mono ?_; rintro e w' ⟨rfl, rfl⟩)
    go_ret2
    rw [hr.out]
    exact ⟨rfl, rfl⟩
end
end Go.Proofs.Ytbdaflhmloodfaa
