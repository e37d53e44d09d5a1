/- Layer 13: an index's list while its keys are thinned: a key dropped whose row has been turned; the count. -/
import Derived.Test.YtigdkflknhdbgaaDi
import Derived.Test.YtigdkflknhdbgaaDk
import Derived.Test.YtigdkflknhdbgaaDg
namespace Go.Proofs.Ytigdkflknhdbgaa
open Go.RowKit
set_option linter.unusedVariables false

theorem RdX.stay {α : Type} {L : Lay α} {w w' : World} {B B' : Nat} {u : Value} {l : List α} (h : RdX L w B u l) (hB : B ≤ B') (hb : ∀ k, 0 < l.length → u.ownBlock = some k → w'.heap[k]? = w.heap[k]?) : RdX L w' B' u l := by
  obtain ⟨A, c, rfl, h1, h2, h3⟩ := h
  refine ⟨A, c, rfl, h1, h2, fun hp => ?_⟩
  obtain ⟨b, o, rfl, hb', hc⟩ := h3 hp
  refine ⟨b, o, rfl, by omega, fun k x hk j u hj => ?_⟩
  rw [World.cell?_of_block (a := ⟨b, o + k * L.sz + j, none⟩) (hb b hp rfl)]
  exact hc k x hk j u hj
section
variable {n : Nat} {w w1 : World} {S : Nat → Prop} {p : Value} {l : List Skp.It} {Ls : List (List Ver)}
/-- A key is dropped whose row has been turned in w1. -/
theorem chl_drop_turn (h : ChL n w S p l Ls) (hl : l.length ≤ 1000) (key : ByteArray) (hh : Skp.hereI l key = true)
    (hsz : w.heap.size ≤ w1.heap.size) (hb : ∀ k, S k → (slV (Skp.getI l key)).ownBlock ≠ some k → w1.heap[k]? = w.heap[k]?) (hG : GrpV (Skp.dropI l key).1 (Ls.take (Skp.atI key l) ++ Ls.drop (Skp.atI key l + 1))) :
    Calls Try.prog 54 #[p, .string key] w1 fun z w' => (∃ b, z = .returned (.bool b)) ∧ ∃ S', ChL n w' S' p (Skp.dropI l key).1 (Ls.take (Skp.atI key l) ++ Ls.drop (Skp.atI key l + 1)) ∧
      (∀ k, S' k → S k ∨ w.heap.size ≤ k) ∧ Skp.KeptF S w1 w' := by
  obtain ⟨mk, M, h1, rfl, hs, ht, hg, hof, hSS⟩ := h
  obtain ⟨hl2, -⟩ := Skp.here_lt hh
  have hx0 : l[Skp.atI key l]? = some l[Skp.atI key l] := List.getElem?_eq_getElem hl2
  have eg : Skp.getI l key = l[Skp.atI key l].v := by unfold Skp.getI; rw [if_pos hh, hx0]
  rw [eg] at hb
  have hoff0 : ∀ k, Skp.OwnK M k → (slV l[Skp.atI key l].v).ownBlock ≠ some k := fun k hk e => hof k hk ⟨_, _, hx0, e⟩
  have hs1 : Skp.SkM mk w1 M l := skm_stay hs fun k hk => hb k ((hSS k).2 (.inl hk)) (hoff0 k hk)
  refine (Skp.p_drop mk M l key w1 hs1 hl).mono ?_
  rintro z w' ⟨rfl, M', hs', hb', hown, hk⟩
  have e : (Skp.dropI l key).1 = l.take (Skp.atI key l) ++ l.drop (Skp.atI key l + 1) := by unfold Skp.dropI; rw [if_pos hh]
  have ht0 := ht.cut (a := Skp.atI key l) (b := Skp.atI key l + 1) (by omega) (by omega)
  have old : ∀ k, ThB (l.take (Skp.atI key l) ++ l.drop (Skp.atI key l + 1)) k → ThB l k ∧ (slV l[Skp.atI key l].v).ownBlock ≠ some k := fun k hk => by
    obtain ⟨i, x, hx, e3, hi⟩ := hk.cut (by omega) (by omega)
    refine ⟨⟨i, x, hx, e3⟩, fun e0 => ?_⟩
    have := ht.apart i _ x _ k hx hx0 e3 e0
    omega
  have ht1 : ThV w1 (l.take (Skp.atI key l) ++ l.drop (Skp.atI key l + 1)) (Ls.take (Skp.atI key l) ++ Ls.drop (Skp.atI key l + 1)) := ht0.stay fun k hk => hb k ((hSS k).2 (.inr (old k hk).1)) (old k hk).2
  have off : OffB M (l.take (Skp.atI key l) ++ l.drop (Skp.atI key l + 1)) := fun k ho hk => hof k ho (old k hk).1
  have ht2 : ThV w' (l.take (Skp.atI key l) ++ l.drop (Skp.atI key l + 1)) (Ls.take (Skp.atI key l) ++ Ls.drop (Skp.atI key l + 1)) := ht1.stay fun k hk2 => hk.other k (ht1.lt hk2) fun ho => off k ho hk2
  rw [← e] at ht2 off old
  refine ⟨⟨_, rfl⟩, fun k => Skp.OwnK M' k ∨ ThB (Skp.dropI l key).1 k, ⟨mk, M', h1, by rw [hb'], hs', ht2, hG, fun k ho hk2 => ?_, fun k => Iff.rfl⟩, fun k hk2 => ?_, ⟨hk.below, fun i hi hns => hk.other i hi fun h => hns ((hSS i).2 (.inl h))⟩⟩
  · rcases hown k ho with h2 | h2
    · exact off k h2 hk2
    · have := ht.lt (old k hk2).1
      omega
  · rcases hk2 with hk2 | hk2
    · rcases hown k hk2 with h3 | h3
      · exact .inl ((hSS k).2 (.inl h3))
      · exact .inr (by omega)
    · exact .inl ((hSS k).2 (.inr (old k hk2).1))
end
section
variable {l lj : List Skp.It} {Ls Lj : List (List Ver)}
/-- How many versions there are when a key's row has been thinned. -/
theorem thin_len {a : Nat} (ha : a < Lj.length) (q : List Ver) : (Lj.take a ++ [q] ++ Lj.drop (a + 1)).flatten.length + Lj[a].length = Lj.flatten.length + q.length := by
  rw [flat_mid, flat_at ha]
  simp only [List.length_append]
  omega
theorem drop_len2 {a : Nat} (ha : a < Lj.length) : (Lj.take a ++ Lj.drop (a + 1)).flatten.length + Lj[a].length = Lj.flatten.length := by
  rw [flat_at ha, List.flatten_append]
  simp only [List.length_append]
  omega
/-- What goes, looked for: in order, of what was there. -/
theorem gone_is {r : List Ver} (hr : AscV r) (q : Ver → Bool) {v : Ver} (hv : v ∈ r) : goneA (r.filter fun x => !q x) v = !q v := by
  unfold goneA
  cases hq : q v
  · rw [Bool.not_false, List.any_eq_true]
    exact ⟨v, List.mem_filter.2 ⟨hv, by rw [hq]; rfl⟩, by unfold alikeV; rw [lessV_irrefl]; rfl⟩
  · rw [Bool.not_true, Bool.eq_false_iff]
    intro h
    rw [List.any_eq_true] at h
    obtain ⟨x, hx, ha⟩ := h
    obtain ⟨h1, h2⟩ := List.mem_filter.1 hx
    have := asc_alike hr hv h1 ha
    subst this
    rw [hq] at h2
    cases h2
theorem stay_is {r : List Ver} (hr : AscV r) (q : Ver → Bool) : r.filter (fun v => !goneA (r.filter fun x => !q x) v) = r.filter q :=
  List.filter_congr fun v hv => by rw [gone_is hr q hv, Bool.not_not]
end
end Go.Proofs.Ytigdkflknhdbgaa
