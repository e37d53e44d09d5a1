/- Layer 7: arguments that are deeds. -/
import Derived.Test.YtbdaflhmloodfaaBstr
import Derived.Test.YtbdaflhmloodfaaBgen
import Derived.Deep.Slices
import Derived.Deep.Fields
import Derived.Deep.Strs
import Derived.ChangeSame
import Derived.ChangeArms
import Derived.Lib.SmallJoins
namespace Go.Proofs.Ytbdaflhmloodfaa
open Go.RowKit Go.ChangeShapes Go.WideShapes Go.Deep
set_option linter.unusedVariables false

structure Deed where
  kind : Int
  n : Int
  m : Int
  a : ByteArray
  b : ByteArray
  keep : List Int
  ka : Option Addr
  kc : Nat
def deedL : Lay Deed := ⟨6, fun d => [.int .i64 d.kind, .int .i64 d.n, .int .i64 d.m, .string d.a, .string d.b, .slice d.ka d.keep.length d.kc], fun _ => rfl, fun x u hu => by simp at hu; rcases hu with rfl | rfl | rfl | rfl | rfl | rfl <;> rfl, by decide⟩
def inD (n : Int) : Prop := -9223372036854775808 ≤ n ∧ n ≤ 9223372036854775807
/-- A deed as an argument may be; its keep lies in memory below B. -/
structure OkDeed (w : World) (B : Nat) (d : Deed) : Prop where
  kind : inD d.kind
  n : inD d.n
  m : inD d.m
  a : d.a.size ≤ 9223372036854775807
  b : d.b.size ≤ 9223372036854775807
  rd : RdI w B (.slice d.ka d.keep.length d.kc) d.keep
  keep : ∀ x ∈ d.keep, inD x
section
variable {H : Type} {enc : TypeId × Value → H} {W : World}
theorem cells_deed : Try.prog.cellsOf 31 = 6 := by kernel_rfl
theorem cells_iD : Try.prog.cellsOf 3 = 1 := by kernel_rfl
theorem cells_sD : Try.prog.cellsOf 9 = 1 := by kernel_rfl
theorem cells_kD : Try.prog.cellsOf 29 = 1 := by kernel_rfl
theorem list6 {α : Type} {l : List α} (h : l.length = 6) : ∃ a b c d e f, l = [a, b, c, d, e, f] := by
  match l, h with
  | [a, b, c, d, e, f], _ => exact ⟨a, b, c, d, e, f, rfl⟩
theorem trod_struct6 {P : Program} {t : TypeId} {f0 f1 f2 f3 f4 f5 : Field} {fuel : Nat} {cs : List Value} {x : DataW H × List MemPlace} {base : Nat} {spare : Nat → Bool} {held : Bool} (ht : P.underlying t = some (.struct #[f0, f1, f2, f3, f4, f5])) (h : DataW.trod enc P W base spare held fuel t cs = some x) :
    ∃ y0 y1 y2 y3 y4 y5 n, cs.length = P.cellsOf t ∧ (∀ q ∈ y5.2, q ∈ x.2) ∧ DataW.trod enc P W base spare held n f0.type ((cs.drop f0.offset).take (P.cellsOf f0.type)) = some y0 ∧
      DataW.trod enc P W base spare held n f1.type ((cs.drop f1.offset).take (P.cellsOf f1.type)) = some y1 ∧ DataW.trod enc P W base spare held n f2.type ((cs.drop f2.offset).take (P.cellsOf f2.type)) = some y2 ∧
      DataW.trod enc P W base spare held n f3.type ((cs.drop f3.offset).take (P.cellsOf f3.type)) = some y3 ∧ DataW.trod enc P W base spare held n f4.type ((cs.drop f4.offset).take (P.cellsOf f4.type)) = some y4 ∧
      DataW.trod enc P W base spare held n f5.type ((cs.drop f5.offset).take (P.cellsOf f5.type)) = some y5 := by
  obtain ⟨xs, n, _, rfl, hl, hlen, hf⟩ := DataW.trod_struct ht h
  match xs, hlen with
  | [y0, y1, y2, y3, y4, y5], _ => exact ⟨y0, y1, y2, y3, y4, y5, n, hl, fun q hq => by simp [hq], by simpa using hf 0 f0 rfl, by simpa using hf 1 f1 rfl, by simpa using hf 2 f2 rfl, by simpa using hf 3 f3 rfl, by simpa using hf 4 f4 rfl, by simpa using hf 5 f5 rfl⟩
theorem trod_deed {fuel : Nat} {cs : List Value} {x : DataW H × List MemPlace} (h : DataW.trod enc Try.prog W 0 (fun _ => true) true fuel 31 cs = some x) (hlt : ∀ q ∈ x.2, q.block < W.heap.size) :
    ∃ d : Deed, cs = deedL.enc d ∧ OkDeed W W.heap.size d := by
  obtain ⟨y0, y1, y2, y3, y4, y5, n, hl, hp, h0, h1, h2, h3, h4, h5⟩ := trod_struct6 Try.underlying31 h
  rw [cells_deed] at hl
  obtain ⟨c0, c1, c2, c3, c4, c5, rfl⟩ := list6 hl
  simp only [cells_iD, cells_sD, cells_kD, List.drop_zero, List.take_succ_cons, List.take_zero, List.drop_succ_cons] at h0 h1 h2 h3 h4 h5
  obtain ⟨a0, e0, -, w0⟩ := DataW.trod_int Try.underlying3 h0
  obtain ⟨a1, e1, -, w1⟩ := DataW.trod_int Try.underlying3 h1
  obtain ⟨a2, e2, -, w2⟩ := DataW.trod_int Try.underlying3 h2
  obtain ⟨s3, e3, -, w3⟩ := DataW.trod_string Try.underlying9 h3
  obtain ⟨s4, e4, -, w4⟩ := DataW.trod_string Try.underlying9 h4
  simp only [maxLen] at w3 w4
  cases e0
  cases e1
  cases e2
  cases e3
  cases e4
  rcases open_ints Try.underlying29 Try.underlying3 cells_int h5 with ⟨hcs, hx⟩ | ⟨a, len, cap, zs, hcs, _, hl2, hm, hz, hx, hcell, hwz⟩
  · cases hcs
    exact ⟨⟨a0, a1, a2, s3, s4, [], none, 0⟩, rfl, ⟨wf_int w0, wf_int w1, wf_int w2, by simpa using w3, by simpa using w4, RdV.nil _ _, by simp⟩⟩
  · cases hcs
    simp only [if_true] at hz
    have hlen : (zs.take len).length = len := by rw [List.length_take, Nat.min_eq_left (by omega)]
    refine ⟨⟨a0, a1, a2, s3, s4, zs.take len, some a, cap⟩, by simp [deedL, hlen], ⟨wf_int w0, wf_int w1, wf_int w2, by simpa using w3, by simpa using w4, ?_, fun n hn => wf_int (hwz n (List.mem_of_mem_take hn))⟩⟩
    simp only [hlen]
    refine ⟨some a, cap, by rw [hlen], by rw [hlen]; exact hl2, by simpa [maxLen] using hm, fun hp2 => ?_⟩
    rw [hlen] at hp2
    obtain ⟨b, off, spot⟩ := a
    have hspot : spot = none := by simpa [Addr.add] using World.cell?_spot (hcell 0 (by omega))
    subst hspot
    refine ⟨b, off, rfl, hlt (.cell b off) (hp _ (by rw [hx]; exact MemPlace.mem_row.2 ⟨0, by omega, by simp⟩)), fun k u hu => ?_⟩
    rw [List.getElem?_take] at hu
    split at hu
    · have hkl := (List.getElem?_eq_some_iff.1 hu).1
      have h1 := hcell k hkl
      rw [addr_plain] at h1
      rw [h1, List.getD_eq_getElem?_getD, hu]
      rfl
    · cases hu
end

section
variable {H : Type} {enc : TypeId × Value → H} {W : World} {v : Value} {d : DataW H} {p : List MemPlace} {r : Reach} {b0 : Nat}
set_option maxRecDepth 100000 in
theorem open_deeds (hval : Value.okWide Try.prog W r b0 22 v) (h : DataW.Trod enc Try.prog W 0 (fun _ => true) true 22 v d p) (hlt : ∀ x ∈ p, x.block < W.heap.size) :
    ∃ l : List Deed, RdX deedL W W.heap.size v l ∧ ∀ x ∈ l, OkDeed W W.heap.size x := by
  obtain ⟨a0, len, cap, rfl⟩ := okWide_slice Try.underlying22 hval
  obtain ⟨fuel, hf⟩ := h
  rcases open_slice Try.underlying22 hf with ⟨hcs, hx⟩ | ⟨a, len', cap', m, n, D, Pl, hcs, _, hl, hm, hmm, hx, hi⟩
  · simp [Value.cells] at hcs
    obtain ⟨rfl, rfl, rfl⟩ := hcs
    exact ⟨[], RdX.nil _ _, by simp⟩
  · simp [Value.cells] at hcs
    obtain ⟨rfl, rfl, rfl⟩ := hcs
    simp only [Prod.mk.injEq] at hx
    obtain ⟨rfl, rfl⟩ := hx
    simp only [if_true] at hmm
    subst hmm
    have hel : ∀ i, i < m → ∃ x : Deed, (∀ (j : Nat) (u : Value), (deedL.enc x)[j]? = some u → W.cell? (a.add (i * 6 + j)) = some u) ∧ OkDeed W W.heap.size x := by
      intro i him
      obtain ⟨cs', hc, ht⟩ := hi i him
      rw [cells_deed] at hc
      obtain ⟨x, rfl, h1⟩ := trod_deed ht (fun q hq => hlt q (List.mem_append_right _ (List.mem_flatMap.2 ⟨i, by simpa using him, hq⟩)))
      obtain ⟨_, _, hat⟩ := World.cells?_some hc
      refine ⟨x, fun j u hj => ?_, h1⟩
      have hjl : j < 6 := by
        have h2 : j < (deedL.enc x).length := (List.getElem?_eq_some_iff.1 hj).1
        exact h2
      have h3 := hat j hjl
      rw [Go.Deep.add_add] at h3
      rw [h3, hj]
    let f : Nat → Deed := fun i => if h : i < m then (hel i h).choose else ⟨0, 0, 0, ⟨#[]⟩, ⟨#[]⟩, [], none, 0⟩
    have hfs : ∀ i, i < m → (∀ (j : Nat) (u : Value), (deedL.enc (f i))[j]? = some u → W.cell? (a.add (i * 6 + j)) = some u) ∧ OkDeed W W.heap.size (f i) := by
      intro i h
      have := (hel i h).choose_spec
      simp only [f, dif_pos h]
      exact this
    refine ⟨(List.range len).map f, ⟨some a, m, by simp, by simp; omega, by simpa [maxLen] using hm, fun hp => ?_⟩, fun x hx => ?_⟩
    · have hp : 0 < len := by simpa using hp
      obtain ⟨b, off, spot⟩ := a
      have hspot : spot = none := by simpa [Addr.add] using World.cell?_spot ((hfs 0 (by omega)).1 0 _ rfl)
      subst hspot
      refine ⟨b, off, rfl, hlt (.cell b off) (by
        rw [cells_deed]
        exact List.mem_append_left _ (MemPlace.mem_row.2 ⟨0, by omega, by simp⟩)), fun k x hk j u hj => ?_⟩
      rw [List.getElem?_map] at hk
      obtain ⟨i, hki, rfl⟩ := Option.map_eq_some_iff.1 hk
      obtain ⟨hkl, hki⟩ := List.getElem?_eq_some_iff.1 hki
      simp at hkl hki
      subst hki
      have q0 := (hfs k (by omega)).1 j u hj
      simp only [addr_plain] at q0
      rw [Nat.add_assoc]
      exact q0
    · obtain ⟨i, hi2, rfl⟩ := List.mem_map.1 hx
      exact (hfs i (by have := List.mem_range.1 hi2; omega)).2
end
end Go.Proofs.Ytbdaflhmloodfaa
