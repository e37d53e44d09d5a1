/- Layer 3: slices that may be written into: new ones, and lists of such. -/
import Derived.Test.YtdpjohehmbddnaaCl
namespace Go.Proofs.Ytdpjohehmbddnaa
open Go.RowKit
set_option linter.unusedVariables false

theorem cell_lt {w : World} {a : Addr} {v : Value} (h : w.cell? a = some v) : a.block < w.heap.size := by
  rcases Nat.lt_or_ge a.block w.heap.size with h' | h'
  · exact h'
  · simp [World.cell?, Array.getElem?_eq_none h'] at h

/-- u is a slice of n cells that may be written into, in a block from n₁ on that is not vb. -/
def WrB (w : World) (n₁ : Nat) (vb : Option Nat) (u : Value) (n : Nat) : Prop :=
  ∃ A c, u = .slice A n c ∧ n ≤ c ∧ c ≤ 9223372036854775807 ∧ (0 < n → ∃ g, A = some ⟨g, 0, none⟩ ∧ n₁ ≤ g ∧ some g ≠ vb ∧ ∀ j, j < n → (∃ y, w.cell? ⟨g, j, none⟩ = some (.int .u8 y)) ∧ w.frozen? ⟨g, j, none⟩ = false)
theorem OwnB.wr {w : World} {base : Nat} {v : Value} {l : List UInt8} (h : OwnB w base v l) (vb : Option Nat) (hne : ∀ k, v.ownBlock = some k → some k ≠ vb) : WrB w base vb v l.length := by
  obtain ⟨A, c, rfl, h1, h2, h3⟩ := own_cap h
  refine ⟨A, c, rfl, h1, by simpa [maxLen] using h2, fun hp => ?_⟩
  rcases h.2 with ⟨_, h0⟩ | ⟨g, cap, cur, e, hb, hg, _⟩
  · omega
  · cases e
    exact ⟨g, rfl, hb, hne g rfl, fun j hj => ⟨⟨_, h.cellAt j hj⟩, h.frozenAt j⟩⟩
theorem WrB.set {w : World} {n₁ : Nat} {vb : Option Nat} {u : Value} {n : Nat} (h : WrB w n₁ vb u n) (g j : Nat) (y : Int) : WrB (w.setCell ⟨g, j, none⟩ (.int .u8 y)) n₁ vb u n := by
  obtain ⟨A, c, rfl, h1, h2, h3⟩ := h
  refine ⟨A, c, rfl, h1, h2, fun hp => ?_⟩
  obtain ⟨g', rfl, hb, hne, hc⟩ := h3 hp
  refine ⟨g', rfl, hb, hne, fun j' hj' => ⟨?_, by rw [World.frozen?_setCell]; exact (hc j' hj').2⟩⟩
  obtain ⟨z, hz⟩ := (hc j' hj').1
  by_cases e : (⟨g', j', none⟩ : Addr) = ⟨g, j, none⟩
  · exact ⟨y, by rw [e]; exact World.cell?_setCell_same' _ _ _ (by rw [← e, hz]; rfl)⟩
  · exact ⟨z, by rw [World.cell?_setCell_other _ _ _ _ (fun h => e h.symm)]; exact hz⟩
theorem WrB.on {w w' : World} {n₁ : Nat} {vb : Option Nat} {u : Value} {n : Nat} (h : WrB w n₁ vb u n) (hb : Below w.heap.size w w') : WrB w' n₁ vb u n := by
  obtain ⟨A, c, rfl, h1, h2, h3⟩ := h
  refine ⟨A, c, rfl, h1, h2, fun hp => ?_⟩
  obtain ⟨g', rfl, hg, hne, hc⟩ := h3 hp
  refine ⟨g', rfl, hg, hne, fun j' hj' => ?_⟩
  obtain ⟨⟨z, hz⟩, hf⟩ := hc j' hj'
  have hlt := cell_lt hz
  exact ⟨⟨z, (hb.cell (p := ⟨g', j', none⟩) hlt).trans hz⟩, (hb.frozen (p := ⟨g', j', none⟩) hlt).trans hf⟩

/-- v is a slice of slices of ns's lengths that may be written into. -/
def WrBB (w : World) (n₁ : Nat) (v : Value) (ns : List Nat) : Prop :=
  ∃ A c, v = .slice A ns.length c ∧ ns.length ≤ c ∧ c ≤ 9223372036854775807 ∧ (0 < ns.length → ∃ g, A = some ⟨g, 0, none⟩ ∧ ∀ i (hi : i < ns.length), ∃ u, w.cell? ⟨g, i, none⟩ = some u ∧ WrB w n₁ (some g) u ns[i])
theorem OwnNB.wr {w : World} {base : Nat} {v : Value} {ls : List (List UInt8)} (h : OwnNB w base v ls) : WrBB w base v (ls.map (·.length)) := by
  obtain ⟨vs, h1, h2, h3⟩ := h
  rcases h1.2 with ⟨rfl, hn⟩ | ⟨g, cap, cur, rfl, hb, hg, hnc, hcm, hcs, htake⟩
  · exact ⟨none, 0, by simp [hn], by simp [hn], by omega, fun hp => by simp [hn] at hp⟩
  · refine ⟨_, cap, by rw [List.length_map], by rw [List.length_map]; exact hnc, by simpa [maxLen] using hcm, fun hp => ⟨g, rfl, fun i hi => ?_⟩⟩
    rw [List.length_map] at hi
    have hvi : vs[i]? = some (vs[i]'(by omega)) := List.getElem?_eq_getElem (by omega)
    refine ⟨vs[i]'(by omega), ?_, ?_⟩
    · rw [cell_of_row _ _ _ _ _ (0, 0) hg]
      have hk := congrArg (fun q : List Value => q[i]?) htake
      simp only [List.getElem?_take] at hk
      rw [if_pos (by omega), hvi] at hk
      simpa using hk
    · have h4 := h3 i _ (ls[i]'hi) hvi (List.getElem?_eq_getElem hi)
      have := h4.1.wr (some g) (fun k hk => h4.2 k hk)
      simpa using this
theorem WrBB.set {w : World} {n₁ : Nat} {v : Value} {ns : List Nat} (h : WrBB w n₁ v ns) (g j : Nat) (y : Int) (hne : v.ownBlock ≠ some g) : WrBB (w.setCell ⟨g, j, none⟩ (.int .u8 y)) n₁ v ns := by
  obtain ⟨A, c, rfl, h1, h2, h3⟩ := h
  refine ⟨A, c, rfl, h1, h2, fun hp => ?_⟩
  obtain ⟨g', rfl, hc⟩ := h3 hp
  refine ⟨g', rfl, fun i hi => ?_⟩
  obtain ⟨u, hu, hw⟩ := hc i hi
  refine ⟨u, ?_, hw.set g j y⟩
  rw [World.cell?_setCell_other _ _ _ _ (fun e => hne (by simp at e; simp [Value.ownBlock, ← e.1]))]
  exact hu
theorem WrBB.on {w w' : World} {n₁ : Nat} {v : Value} {ns : List Nat} (h : WrBB w n₁ v ns) (hb : Below w.heap.size w w') : WrBB w' n₁ v ns := by
  obtain ⟨A, c, rfl, h1, h2, h3⟩ := h
  refine ⟨A, c, rfl, h1, h2, fun hp => ?_⟩
  obtain ⟨g', rfl, hc⟩ := h3 hp
  refine ⟨g', rfl, fun i hi => ?_⟩
  obtain ⟨u, hu, hw⟩ := hc i hi
  exact ⟨u, (hb.cell (p := ⟨g', i, none⟩) (cell_lt hu)).trans hu, hw.on hb⟩
end Go.Proofs.Ytdpjohehmbddnaa
