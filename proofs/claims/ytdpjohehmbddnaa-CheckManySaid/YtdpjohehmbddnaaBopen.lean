/- A law's argument that is a slice of slices of bytes, opened; and what is read in a literal. Program-bound by its types' names alone. -/
import Derived.Test.YtdpjohehmbddnaaBrow
import Derived.Deep.Matrix
namespace Go.Proofs.Ytdpjohehmbddnaa
open Go.RowKit Go.ChangeShapes Go.WideShapes Go.ChangeAt Go.Deep
set_option linter.unusedVariables false

theorem cells_bb : Try.prog.cellsOf 22 = 1 := by kernel_rfl

/-- What a row of numbers, as it was opened, reads as. -/
theorem rd_of_row {W : World} {A : Option Addr} {L C : Nat} {zs : List Int} (h1 : L ≤ C) (h2 : C ≤ maxLen) (hz : zs.length = C) (hw : ∀ n ∈ zs, (Lit.int .u8 n).wf = true) (hn : A = none → C = 0)
    (hc : ∀ a', A = some a' → ∀ c, c < C → W.cell? (a'.add c) = some (.int .u8 (zs.getD c 0))) (hlt : ∀ x ∈ intRowPlaces A zs, x.block < W.heap.size) :
    RdB W W.heap.size (.slice A L C) ((zs.take L).map fun n => UInt8.ofNat n.toNat) := by
  have hlen : ((zs.take L).map fun n => UInt8.ofNat n.toNat).length = L := by rw [List.length_map, List.length_take, Nat.min_eq_left (by omega)]
  refine ⟨A, C, by rw [hlen], by rw [hlen]; exact h1, by simpa [maxLen] using h2, fun hp => ?_⟩
  rw [hlen] at hp
  cases A with
  | none => have := hn rfl; omega
  | some a =>
    obtain ⟨b, off, spot⟩ := a
    have hspot : spot = none := by simpa [Addr.add] using World.cell?_spot (hc _ rfl 0 (by omega))
    subst hspot
    refine ⟨b, off, rfl, hlt (.cell b off) (MemPlace.mem_row.2 ⟨0, by omega, by simp⟩), fun k u hu => ?_⟩
    rw [List.getElem?_map, Option.map_eq_some_iff] at hu
    obtain ⟨n, hn', rfl⟩ := hu
    rw [List.getElem?_take] at hn'
    split at hn'
    · have hkl := (List.getElem?_eq_some_iff.1 hn').1
      have h3 := hc _ rfl k (by omega)
      rw [addr_plain] at h3
      rw [h3, List.getD_eq_getElem?_getD, hn']
      have hw' := wf_u8 (hw n (List.mem_of_getElem? hn'))
      simp only [Option.getD_some]
      congr 2
      rw [UInt8.toNat_ofNat']
      omega
    · cases hn'

theorem open_bb {H : Type} {enc : TypeId × Value → H} {W : World} {v : Value} {d : DataW H} {p : List MemPlace} {r : Reach} {b0 : Nat} (hval : Value.okWide Try.prog W r b0 29 v)
    (h : DataW.Trod enc Try.prog W 0 (fun _ => true) true 29 v d p) (hlt : ∀ x ∈ p, x.block < W.heap.size) :
    ∃ ls : List (List UInt8), RdBB W W.heap.size v ls := by
  obtain ⟨a0, len, cap, rfl⟩ := okWide_slice Try.underlying29 hval
  obtain ⟨fuel, hf⟩ := h
  rcases open_int_rows Try.underlying29 Try.underlying22 Try.underlying5 cells_bb cells_u8 hf with ⟨hcs, hx⟩ | ⟨a, len', cap', A, L, C, Z, hcs, _, hl, hm, hx, hcell⟩
  · simp [Value.cells] at hcs
    obtain ⟨rfl, rfl, rfl⟩ := hcs
    exact ⟨[], RdBB.nil _ _⟩
  · simp [Value.cells] at hcs
    obtain ⟨rfl, rfl, rfl⟩ := hcs
    simp only [Prod.mk.injEq] at hx
    obtain ⟨rfl, rfl⟩ := hx
    refine ⟨(List.range len).map fun r => ((Z r).take (L r)).map fun n => UInt8.ofNat n.toNat, (List.range len).map fun r => .slice (A r) (L r) (C r), ⟨some a, cap, by simp, by simpa using hl, by simpa [maxLen] using hm, fun hp => ?_⟩, by simp, fun i u m hu hm' => ?_⟩
    · simp only [List.length_map, List.length_range] at hp
      obtain ⟨b, off, spot⟩ := a
      have hspot : spot = none := by simpa [Addr.add] using World.cell?_spot (hcell 0 (by omega)).1
      subst hspot
      refine ⟨b, off, rfl, hlt (.cell b off) (List.mem_append_left _ (MemPlace.mem_row.2 ⟨0, by omega, by simp⟩)), fun k u hu => ?_⟩
      rw [List.getElem?_map, Option.map_eq_some_iff] at hu
      obtain ⟨i, hi, rfl⟩ := hu
      obtain ⟨hk, hki⟩ := List.getElem?_eq_some_iff.1 hi
      rw [List.length_range] at hk
      rw [List.getElem_range] at hki
      subst hki
      have h1 := (hcell k (by omega)).1
      rw [addr_plain] at h1
      exact h1
    · rw [List.getElem?_map, Option.map_eq_some_iff] at hu hm'
      obtain ⟨j, hj, rfl⟩ := hu
      obtain ⟨j', hj', rfl⟩ := hm'
      rw [hj] at hj'
      cases hj'
      have hji : j < len := by
        have := List.mem_of_getElem? hj
        simpa using this
      obtain ⟨_, h1, h2, h3, h4, h5, h6⟩ := hcell j (by omega)
      exact rd_of_row h1 h2 h3 h4 h5 (fun a' e c hc => (h6 a' e).2 c hc) (fun x hx => hlt x (List.mem_append_right _ (List.mem_flatMap.2 ⟨j, by simpa using (show j < cap by omega), hx⟩)))
end Go.Proofs.Ytdpjohehmbddnaa
