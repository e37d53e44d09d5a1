/- Layer 13: the argument of the laws, versions with levels, as the form reads it. -/
import Derived.Test.YtigdkflknhdbgaaCf
import Derived.Deep.Slices
import Derived.Deep.Fields
import Derived.Deep.Strs
namespace Go.Proofs.Ytigdkflknhdbgaa
open Go.RowKit Go.ChangeShapes Go.WideShapes Go.Deep
set_option linter.unusedVariables false

section
variable {H : Type} {enc : TypeId × Value → H} {w : World} {base : Nat} {spare : Nat → Bool} {held : Bool}
theorem cells_put : Try.prog.cellsOf 57 = 9 := by kernel_rfl
set_option maxRecDepth 100000 in
theorem trod_put {fuel : Nat} {cs : List Value} {x : DataW H × List MemPlace} (h : DataW.trod enc Try.prog w base spare held fuel 57 cs = some x) : ∃ v : PutC, cs = putL.enc v ∧ inK v.lv := by
  obtain ⟨y0, y1, n, -, hl, h0, h1⟩ := trod_struct2 Try.underlying57 h
  rw [cells_put] at hl
  simp only [cells_ver, cells_iR, List.drop_zero] at h0 h1
  obtain ⟨v, e0, -⟩ := trod_ver h0
  obtain ⟨a, e1, -, w1⟩ := DataW.trod_int Try.underlying3 h1
  refine ⟨⟨v, a⟩, ?_, wf_int w1⟩
  have h2 : cs = cs.take 8 ++ cs.drop 8 := (List.take_append_drop 8 cs).symm
  have h3 : (cs.drop 8).take 1 = cs.drop 8 := List.take_of_length_le (by rw [List.length_drop]; omega)
  rw [h3] at e1
  rw [h2, e0, e1]
  rfl
end
section
variable {H : Type} {enc : TypeId × Value → H} {W : World} {v : Value} {d : DataW H} {p : List MemPlace} {r : Reach} {b0 : Nat}
set_option maxRecDepth 100000 in
theorem open_puts (hval : Value.okWide Try.prog W r b0 22 v) (h : DataW.Trod enc Try.prog W 0 (fun _ => true) true 22 v d p) (hlt : ∀ x ∈ p, x.block < W.heap.size) :
    ∃ l : List PutC, RdX putL W W.heap.size v l ∧ ∀ x ∈ l, inK x.lv := by
  obtain ⟨a0, len, cap, rfl⟩ := okWide_slice Try.underlying22 hval
  obtain ⟨fuel, hf⟩ := h
  rcases open_slice Try.underlying22 hf with ⟨hcs, hx⟩ | ⟨a, len', cap', m, n, D, Pl, hcs, _, hl, hm, hmm, hx, hi⟩
  · simp [Value.cells] at hcs
    obtain ⟨rfl, rfl, rfl⟩ := hcs
    exact ⟨[], RdX.nil _ _, by simp⟩
  · simp [Value.cells] at hcs
    obtain ⟨rfl, rfl, rfl⟩ := hcs
    simp only [Prod.mk.injEq] at hx
    obtain ⟨rfl, rfl⟩ := hx
    simp only [if_true] at hmm
    subst hmm
    have hel : ∀ i, i < m → ∃ x : PutC, (∀ (j : Nat) (u : Value), (putL.enc x)[j]? = some u → W.cell? (a.add (i * 9 + j)) = some u) ∧ inK x.lv := by
      intro i him
      obtain ⟨cs', hc, ht⟩ := hi i him
      rw [cells_put] at hc
      obtain ⟨x, rfl, h1⟩ := trod_put ht
      obtain ⟨_, _, hat⟩ := World.cells?_some hc
      refine ⟨x, fun j u hj => ?_, h1⟩
      have hjl : j < 9 := by
        have h2 : j < (putL.enc x).length := (List.getElem?_eq_some_iff.1 hj).1
        rw [putL.len] at h2
        exact h2
      have h3 := hat j hjl
      rw [Go.Deep.add_add] at h3
      rw [h3, hj]
    let f : Nat → PutC := fun i => if h : i < m then (hel i h).choose else ⟨⟨⟨#[]⟩, 0, 0, 0, (0, 0), ⟨#[]⟩, false⟩, 0⟩
    have hfs : ∀ i, i < m → (∀ (j : Nat) (u : Value), (putL.enc (f i))[j]? = some u → W.cell? (a.add (i * 9 + j)) = some u) ∧ inK (f i).lv := by
      intro i h
      have := (hel i h).choose_spec
      simp only [f, dif_pos h]
      exact this
    refine ⟨(List.range len).map f, ⟨some a, m, by simp, by simp; omega, by simpa [maxLen] using hm, fun hp => ?_⟩, fun x hx => ?_⟩
    · have hp : 0 < len := by simpa using hp
      obtain ⟨b, off, spot⟩ := a
      have hspot : spot = none := by simpa [Addr.add] using World.cell?_spot ((hfs 0 (by omega)).1 0 _ rfl)
      subst hspot
      refine ⟨b, off, rfl, hlt (.cell b off) (by
        rw [cells_put]
        exact List.mem_append_left _ (MemPlace.mem_row.2 ⟨0, by omega, by simp⟩)), fun k x hk j u hj => ?_⟩
      rw [List.getElem?_map] at hk
      obtain ⟨i, hki, rfl⟩ := Option.map_eq_some_iff.1 hk
      obtain ⟨hkl, hki⟩ := List.getElem?_eq_some_iff.1 hki
      simp at hkl hki
      subst hki
      have q0 := (hfs k (by omega)).1 j u hj
      simp only [addr_plain] at q0
      rw [Nat.add_assoc]
      exact q0
    · obtain ⟨i, hi2, rfl⟩ := List.mem_map.1 hx
      exact (hfs i (by have := List.mem_range.1 hi2; omega)).2
end
end Go.Proofs.Ytigdkflknhdbgaa
