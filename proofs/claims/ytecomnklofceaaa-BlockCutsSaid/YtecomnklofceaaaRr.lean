/- Layer 6: arguments that are versions, slices of versions. -/
import Derived.Test.YtecomnklofceaaaRe
import Derived.Deep.Slices
import Derived.Deep.Fields
import Derived.Deep.Strs
import Derived.ChangeSame
import Derived.ChangeArms
import Derived.Lib.SmallJoins
namespace Go.Proofs.Ytecomnklofceaaa
open Go.RowKit Go.ChangeShapes Go.WideShapes Go.Deep
set_option linter.unusedVariables false

/-- A version as an argument may be. -/
structure OkVer (v : Ver) : Prop where
  key : v.key.size ≤ 9223372036854775807
  val : v.val.size ≤ 9223372036854775807
  b : -9223372036854775808 ≤ v.b ∧ v.b ≤ 9223372036854775807
  e : -9223372036854775808 ≤ v.e ∧ v.e ≤ 9223372036854775807
  s : -9223372036854775808 ≤ v.s ∧ v.s ≤ 9223372036854775807
  x : -9223372036854775808 ≤ v.sp.1 ∧ v.sp.1 ≤ 9223372036854775807
  y : -9223372036854775808 ≤ v.sp.2 ∧ v.sp.2 ≤ 9223372036854775807

section
variable {H : Type} {enc : TypeId × Value → H} {w : World} {base : Nat} {spare : Nat → Bool} {held : Bool}
theorem cells_ver : Try.prog.cellsOf 39 = 8 := by kernel_rfl
theorem cells_stamp : Try.prog.cellsOf 35 = 3 := by kernel_rfl
theorem cells_spR : Try.prog.cellsOf 37 = 2 := by kernel_rfl
theorem cells_iR : Try.prog.cellsOf 3 = 1 := by kernel_rfl
theorem cells_sR : Try.prog.cellsOf 9 = 1 := by kernel_rfl
theorem cells_bR : Try.prog.cellsOf 4 = 1 := by kernel_rfl
theorem list8 {α : Type} {l : List α} (h : l.length = 8) : ∃ a b c d e f g i, l = [a, b, c, d, e, f, g, i] := by
  match l, h with
  | [a, b, c, d, e, f, g, i], _ => exact ⟨a, b, c, d, e, f, g, i, rfl⟩
theorem trod_struct5 {P : Program} {t : TypeId} {f0 f1 f2 f3 f4 : Field} {fuel : Nat} {cs : List Value} {x : DataW H × List MemPlace} (ht : P.underlying t = some (.struct #[f0, f1, f2, f3, f4])) (h : DataW.trod enc P w base spare held fuel t cs = some x) :
    ∃ y0 y1 y2 y3 y4 n, cs.length = P.cellsOf t ∧ DataW.trod enc P w base spare held n f0.type ((cs.drop f0.offset).take (P.cellsOf f0.type)) = some y0 ∧
      DataW.trod enc P w base spare held n f1.type ((cs.drop f1.offset).take (P.cellsOf f1.type)) = some y1 ∧ DataW.trod enc P w base spare held n f2.type ((cs.drop f2.offset).take (P.cellsOf f2.type)) = some y2 ∧
      DataW.trod enc P w base spare held n f3.type ((cs.drop f3.offset).take (P.cellsOf f3.type)) = some y3 ∧ DataW.trod enc P w base spare held n f4.type ((cs.drop f4.offset).take (P.cellsOf f4.type)) = some y4 := by
  obtain ⟨xs, n, _, rfl, hl, hlen, hf⟩ := DataW.trod_struct ht h
  match xs, hlen with
  | [y0, y1, y2, y3, y4], _ => exact ⟨y0, y1, y2, y3, y4, n, hl, by simpa using hf 0 f0 rfl, by simpa using hf 1 f1 rfl, by simpa using hf 2 f2 rfl, by simpa using hf 3 f3 rfl, by simpa using hf 4 f4 rfl⟩
set_option maxRecDepth 100000 in
theorem trod_stamp {fuel : Nat} {cs : List Value} {x : DataW H × List MemPlace} (h : DataW.trod enc Try.prog w base spare held fuel 35 cs = some x) : ∃ b e s : Int, cs = [.int .i64 b, .int .i64 e, .int .i64 s] ∧ (-9223372036854775808 ≤ b ∧ b ≤ 9223372036854775807) ∧ (-9223372036854775808 ≤ e ∧ e ≤ 9223372036854775807) ∧ (-9223372036854775808 ≤ s ∧ s ≤ 9223372036854775807) := by
  obtain ⟨y0, y1, y2, n, -, hl, h0, h1, h2⟩ := trod_struct3 Try.underlying35 h
  rw [cells_stamp] at hl
  match cs, hl with
  | [c0, c1, c2], _ =>
    simp only [cells_iR, List.drop_zero, List.take_succ_cons, List.take_zero, List.drop_succ_cons] at h0 h1 h2
    obtain ⟨a, e0, -, w0⟩ := DataW.trod_int Try.underlying3 h0
    obtain ⟨b, e1, -, w1⟩ := DataW.trod_int Try.underlying3 h1
    obtain ⟨c, e2, -, w2⟩ := DataW.trod_int Try.underlying3 h2
    cases e0
    cases e1
    cases e2
    exact ⟨a, b, c, rfl, wf_int w0, wf_int w1, wf_int w2⟩
set_option maxRecDepth 100000 in
theorem trod_spR {fuel : Nat} {cs : List Value} {x : DataW H × List MemPlace} (h : DataW.trod enc Try.prog w base spare held fuel 37 cs = some x) : ∃ a b : Int, cs = [.int .i64 a, .int .i64 b] ∧ (-9223372036854775808 ≤ a ∧ a ≤ 9223372036854775807) ∧ (-9223372036854775808 ≤ b ∧ b ≤ 9223372036854775807) := by
  obtain ⟨y0, y1, n, -, hl, h0, h1⟩ := trod_struct2 Try.underlying37 h
  rw [cells_spR] at hl
  match cs, hl with
  | [c0, c1], _ =>
    simp only [cells_iR, List.drop_zero, List.take_succ_cons, List.take_zero, List.drop_succ_cons] at h0 h1
    obtain ⟨a, e0, -, w0⟩ := DataW.trod_int Try.underlying3 h0
    obtain ⟨b, e1, -, w1⟩ := DataW.trod_int Try.underlying3 h1
    cases e0
    cases e1
    exact ⟨a, b, rfl, wf_int w0, wf_int w1⟩
set_option maxRecDepth 100000 in
theorem trod_ver {fuel : Nat} {cs : List Value} {x : DataW H × List MemPlace} (h : DataW.trod enc Try.prog w base spare held fuel 39 cs = some x) : ∃ v : Ver, cs = verL.enc v ∧ OkVer v := by
  obtain ⟨y0, y1, y2, y3, y4, n, hl, h0, h1, h2, h3, h4⟩ := trod_struct5 Try.underlying39 h
  rw [cells_ver] at hl
  obtain ⟨c0, c1, c2, c3, c4, c5, c6, c7, rfl⟩ := list8 hl
  simp only [cells_sR, cells_stamp, cells_spR, cells_bR, List.drop_zero, List.take_succ_cons, List.take_zero, List.drop_succ_cons] at h0 h1 h2 h3 h4
  obtain ⟨k, e0, -, w0⟩ := DataW.trod_string Try.underlying9 h0
  obtain ⟨b, e, s, e1, w1, w2, w3⟩ := trod_stamp h1
  obtain ⟨a, c, e2, w4, w5⟩ := trod_spR h2
  obtain ⟨u, e3, -, w6⟩ := DataW.trod_string Try.underlying9 h3
  obtain ⟨g, e4, -⟩ := DataW.trod_bool Try.underlying4 h4
  cases e0
  cases e1
  cases e2
  cases e3
  cases e4
  simp only [maxLen] at w0 w6
  exact ⟨⟨k, b, e, s, (a, c), u, g⟩, rfl, ⟨by omega, by omega, w1, w2, w3, w4, w5⟩⟩
end

section
variable {H : Type} {enc : TypeId × Value → H} {W : World} {v : Value} {d : DataW H} {p : List MemPlace} {r : Reach} {b0 : Nat}
set_option maxRecDepth 100000 in
theorem open_ver (hval : Value.okWide Try.prog W r b0 39 v) (h : DataW.Trod enc Try.prog W 0 (fun _ => true) true 39 v d p) : ∃ x : Ver, v = verV x ∧ OkVer x := by
  obtain ⟨cs, rfl, hsz⟩ := okWide_struct Try.underlying39 hval
  obtain ⟨fuel, hf⟩ := h
  obtain ⟨x, e, h1⟩ := trod_ver hf
  refine ⟨x, ?_, h1⟩
  have : cs = (verL.enc x).toArray := by
    apply Array.toList_inj.1
    simpa [Value.cells] using e
  rw [this]; rfl
set_option maxRecDepth 100000 in
theorem open_vers (hval : Value.okWide Try.prog W r b0 22 v) (h : DataW.Trod enc Try.prog W 0 (fun _ => true) true 22 v d p) (hlt : ∀ x ∈ p, x.block < W.heap.size) :
    ∃ l : List Ver, RdVr W W.heap.size v l ∧ ∀ x ∈ l, OkVer x := by
  obtain ⟨a0, len, cap, rfl⟩ := okWide_slice Try.underlying22 hval
  obtain ⟨fuel, hf⟩ := h
  rcases open_slice Try.underlying22 hf with ⟨hcs, hx⟩ | ⟨a, len', cap', m, n, D, Pl, hcs, _, hl, hm, hmm, hx, hi⟩
  · simp [Value.cells] at hcs
    obtain ⟨rfl, rfl, rfl⟩ := hcs
    exact ⟨[], RdX.nil _ _, by simp⟩
  · simp [Value.cells] at hcs
    obtain ⟨rfl, rfl, rfl⟩ := hcs
    simp only [Prod.mk.injEq] at hx
    obtain ⟨rfl, rfl⟩ := hx
    simp only [if_true] at hmm
    subst hmm
    have hel : ∀ i, i < m → ∃ x : Ver, (∀ (j : Nat) (u : Value), (verL.enc x)[j]? = some u → W.cell? (a.add (i * 8 + j)) = some u) ∧ OkVer x := by
      intro i him
      obtain ⟨cs', hc, ht⟩ := hi i him
      rw [cells_ver] at hc
      obtain ⟨x, rfl, h1⟩ := trod_ver ht
      obtain ⟨_, _, hat⟩ := World.cells?_some hc
      refine ⟨x, fun j u hj => ?_, h1⟩
      have hjl : j < 8 := by
        have h2 : j < (verL.enc x).length := (List.getElem?_eq_some_iff.1 hj).1
        exact h2
      have h3 := hat j hjl
      rw [Go.Deep.add_add] at h3
      rw [h3, hj]
    let f : Nat → Ver := fun i => if h : i < m then (hel i h).choose else ⟨⟨#[]⟩, 0, 0, 0, (0, 0), ⟨#[]⟩, false⟩
    have hfs : ∀ i, i < m → (∀ (j : Nat) (u : Value), (verL.enc (f i))[j]? = some u → W.cell? (a.add (i * 8 + j)) = some u) ∧ OkVer (f i) := by
      intro i h
      have := (hel i h).choose_spec
      simp only [f, dif_pos h]
      exact this
    refine ⟨(List.range len).map f, ⟨some a, m, by simp, by simp; omega, by simpa [maxLen] using hm, fun hp => ?_⟩, fun x hx => ?_⟩
    · have hp : 0 < len := by simpa using hp
      obtain ⟨b, off, spot⟩ := a
      have hspot : spot = none := by simpa [Addr.add] using World.cell?_spot ((hfs 0 (by omega)).1 0 _ rfl)
      subst hspot
      refine ⟨b, off, rfl, hlt (.cell b off) (by
        rw [cells_ver]
        exact List.mem_append_left _ (MemPlace.mem_row.2 ⟨0, by omega, by simp⟩)), fun k x hk j u hj => ?_⟩
      rw [List.getElem?_map] at hk
      obtain ⟨i, hki, rfl⟩ := Option.map_eq_some_iff.1 hk
      obtain ⟨hkl, hki⟩ := List.getElem?_eq_some_iff.1 hki
      simp at hkl hki
      subst hki
      have q0 := (hfs k (by omega)).1 j u hj
      simp only [addr_plain] at q0
      rw [Nat.add_assoc]
      exact q0
    · obtain ⟨i, hi2, rfl⟩ := List.mem_map.1 hx
      exact (hfs i (by have := List.mem_range.1 hi2; omega)).2
end
end Go.Proofs.Ytecomnklofceaaa
