/- Slices of rows of elements of any size: v[k:], v[:m]. -/
import Derived.Test.YtecomnklofceaaaBgen
namespace Go.Proofs.Ytecomnklofceaaa
open Go.RowKit
set_option linter.unusedVariables false

section
variable {P : Program} {α : Type} {L : Lay α}
theorem slX_tail {w : World} {B : Nat} {v : Value} {l : List α} (h : RdX L w B v l) {t e : TypeId} (ht0 : P.underlying t = some (.slice e)) (hsz : ∀ w, (Go.sizeOf e).run P w = .ok L.sz w) (k : Nat) (z : Int) (hz : z = (k : Int)) (hk : k ≤ l.length) :
    ∃ A c, (∀ W, (Instr.slice t v (some (.int .i64 z)) none none).run P W = .ok (.slice A (l.length - k) c) W) ∧ RdX L w B (.slice A (l.length - k) c) (l.drop k) := by
  subst hz
  obtain ⟨A, c, rfl, h1, h2, h3⟩ := h
  have ht : P.underlying t = some (.slice (P.elem t)) := by simp [Program.elem, ht0]
  have he : P.elem t = e := by simp [Program.elem, ht0]
  refine ⟨if c = k then A else A.map (·.add (k * L.sz)), c - k, fun W => ?_, ⟨_, c - k, by rw [List.length_drop], by rw [List.length_drop]; omega, by omega, fun hp => ?_⟩⟩
  · rw [run_slice_l W _ _ _ _ ht _ _ (by omega) (by omega), he, hsz]
    simp [Result.andThen, sliced]
  · rw [List.length_drop] at hp
    obtain ⟨b, o, rfl, hb, hc⟩ := h3 (by omega)
    refine ⟨b, o + k * L.sz, ?_, hb, fun i x hx j u hu => ?_⟩
    · rw [if_neg (by omega)]; simp [addr_plain]
    · have := hc (k + i) x (by rw [List.getElem?_drop] at hx; exact hx) j u hu
      rw [Nat.add_mul, ← Nat.add_assoc] at this
      exact this
theorem slX_head {w : World} {B : Nat} {v : Value} {l : List α} (h : RdX L w B v l) {t e : TypeId} (ht0 : P.underlying t = some (.slice e)) (hsz : ∀ w, (Go.sizeOf e).run P w = .ok L.sz w) (m : Nat) (z : Int) (hz : z = (m : Int)) (hm : m ≤ l.length) :
    ∃ A c, (∀ W, (Instr.slice t v none (some (.int .i64 z)) none).run P W = .ok (.slice A m c) W) ∧ RdX L w B (.slice A m c) (l.take m) := by
  subst hz
  obtain ⟨A, c, rfl, h1, h2, h3⟩ := h
  have ht : P.underlying t = some (.slice (P.elem t)) := by simp [Program.elem, ht0]
  have he : P.elem t = e := by simp [Program.elem, ht0]
  have hl : (l.take m).length = m := by rw [List.length_take]; omega
  refine ⟨if c = 0 then A else A.map (·.add 0), c, fun W => ?_, ⟨_, c, by rw [hl], by rw [hl]; omega, by omega, fun hp => ?_⟩⟩
  · rw [run_slice_h W _ _ _ _ ht _ _ (by omega) (by omega), he, hsz]
    simp [Result.andThen, sliced]
  · rw [hl] at hp
    obtain ⟨b, o, rfl, hb, hc⟩ := h3 (by omega)
    refine ⟨b, o, ?_, hb, fun i x hx j u hu => ?_⟩
    · rw [if_neg (by omega)]; simp [Addr.add]
    · rw [List.getElem?_take] at hx
      split at hx
      · exact hc i x hx j u hu
      · cases hx
end
end Go.Proofs.Ytecomnklofceaaa
