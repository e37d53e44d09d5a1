/- Layer 8: what the laws share: versions cut to few bytes, slices of rows, pieces read. -/
import Derived.Test.YtefjdmlmmoeoaaaUk
import Derived.Test.YtefjdmlmmoeoaaaUl
import Derived.Test.YtefjdmlmmoeoaaaRR
namespace Go.Proofs.Ytefjdmlmmoeoaaa
open Go.RowKit
set_option linter.unusedVariables false

def cuts (l : List Ver) : List Ver := l.map cutV
theorem cuts_snoc (l : List Ver) (k : Nat) (h : k < l.length) : cuts (l.take (k + 1)) = cuts (l.take k) ++ [cutV l[k]] := by
  unfold cuts; rw [List.take_succ_eq_append_getElem h, List.map_append]; rfl
theorem cuts_key (l : List Ver) : ∀ v ∈ cuts l, v.key.size ≤ 110 := by
  intro v hv
  obtain ⟨x, _, rfl⟩ := List.mem_map.1 hv
  exact cut_key x
theorem cuts_len (l : List Ver) (n : Nat) : (cuts (l.take n)).length ≤ n := by unfold cuts; rw [List.length_map, List.length_take]; omega

section
variable {P : Program} {α : Type} {L : Lay α}
theorem slX_mid {w : World} {B : Nat} {v : Value} {l : List α} (h : RdX L w B v l) {t e : TypeId} (ht0 : P.underlying t = some (.slice e)) (hsz : ∀ w, (Go.sizeOf e).run P w = .ok L.sz w) (k m : Nat) (z y : Int) (hz : z = (k : Int)) (hy : y = ((k + m : Nat) : Int)) (hk : k + m ≤ l.length) (hm : 0 < m) :
    ∃ A c, (∀ W, (Instr.slice t v (some (.int .i64 z)) (some (.int .i64 y)) none).run P W = .ok (.slice A m c) W) ∧ RdX L w B (.slice A m c) ((l.drop k).take m) := by
  subst hz hy
  obtain ⟨A, c, rfl, h1, h2, h3⟩ := h
  have ht : P.underlying t = some (.slice (P.elem t)) := by simp [Program.elem, ht0]
  have he : P.elem t = e := by simp [Program.elem, ht0]
  have hl : ((l.drop k).take m).length = m := by rw [List.length_take, List.length_drop]; omega
  refine ⟨if c = k then A else A.map (·.add (k * L.sz)), c - k, fun W => ?_, ⟨_, c - k, by rw [hl], by rw [hl]; omega, by omega, fun hp => ?_⟩⟩
  · rw [run_slice_lh W _ _ _ _ ht _ _ _ _ (by omega) (by omega) (by omega), he, hsz]
    simp only [Result.andThen, sliced, Int.toNat_natCast, Nat.add_sub_cancel_left]
  · obtain ⟨b, o, rfl, hb, hc⟩ := h3 (by omega)
    refine ⟨b, o + k * L.sz, ?_, hb, fun i x hx j u hu => ?_⟩
    · rw [if_neg (by omega)]; simp [addr_plain]
    · rw [List.getElem?_take] at hx
      split at hx
      · have := hc (k + i) x (by rw [List.getElem?_drop] at hx; exact hx) j u hu
        rw [Nat.add_mul, ← Nat.add_assoc] at this
        exact this
      · cases hx
end
theorem OwnNV.form {w : World} {base : Nat} {v : Value} {ls : List (List Ver)} (h : OwnNV w base v ls) : ∃ A c, v = .slice A ls.length c := by
  obtain ⟨vs, hr, hl, hv⟩ := h
  rcases hr.2 with ⟨e, h0⟩ | ⟨g, cap, cur, rfl, hb, hg, -⟩
  · exact ⟨none, 0, by rw [e, h0]⟩
  · exact ⟨_, _, rfl⟩
theorem OwnNV.here {w : World} {base : Nat} {v : Value} {ls : List (List Ver)} (h : OwnNV w base v ls) (hp : 0 < ls.length) :
    ∃ g c, v = .slice (some ⟨g, 0, none⟩) ls.length c ∧ g < w.heap.size ∧ ∀ (k : Nat) (hk : k < ls.length), ∃ u, w.cell? ⟨g, k, none⟩ = some u ∧ OwnVr w base u ls[k] := by
  obtain ⟨vs, hr, hl, hv⟩ := h
  have hr0 := hr
  rcases hr.2 with ⟨e, h0⟩ | ⟨g, cap, cur, rfl, hb, hg, -⟩
  · omega
  · refine ⟨g, cap, rfl, (Array.getElem?_eq_some_iff.1 hg).1, fun k hk => ?_⟩
    have hkv : k < vs.length := by omega
    refine ⟨vs[k], ?_, (hv k vs[k] ls[k] (List.getElem?_eq_getElem hkv) (List.getElem?_eq_getElem hk)).1⟩
    rw [World.ownsRow.cellAt hr0 k (by omega)]
    exact List.getElem?_eq_getElem hkv

end Go.Proofs.Ytefjdmlmmoeoaaa
