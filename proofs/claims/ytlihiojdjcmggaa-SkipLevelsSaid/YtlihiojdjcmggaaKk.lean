/- Layer 12, the project's list answers as it must. -/
import Derived.Test.YtlihiojdjcmggaaKj
import Derived.Test.YtlihiojdjcmggaaKg
import Derived.Test.YtlihiojdjcmggaaKf
namespace Go.Proofs.Ytlihiojdjcmggaa
open Go.RowKit
set_option linter.unusedVariables false

theorem skip_f : SkF SkI listO where
  item := fun _ => rfl
  deed := fun _ => rfl
  num := fun _ => rfl
  bol := fun _ => rfl
  cellsO := fun o h => by cases o <;> first | rfl | cases h
  typed := fun {n w S p l} h i hi => by
    obtain ⟨mk, M, hm, hp, hs, hS⟩ := h
    obtain ⟨t, ht, rfl⟩ := own_iff.1 ((hS i).1 hi)
    rw [bN_at ht]
    refine ⟨_, hs.nodes.at' t _ (List.getElem?_eq_getElem ht), ?_⟩
    cases t <;> rfl
  stay := fun {n w w' S p l} h hk => by
    obtain ⟨mk, M, hm, hp, hs, hS⟩ := h
    exact ⟨mk, M, hm, hp, hs.move fun i hi => hk i ((hS i).2 hi), hS⟩
  more := fun {n m w S p l} h hnm => by
    obtain ⟨mk, M, hm, hr⟩ := h
    exact ⟨mk, M, Nat.le_trans hm hnm, hr⟩
  ptr := fun {n w S p l} h => by
    obtain ⟨mk, M, hm, hp, hr⟩ := h
    exact ⟨_, hp⟩
  new := p_new
  put := fun {n} w S p l key lv v h hn hl hk hlv hv => by
    obtain ⟨mk, M, hm, rfl, hs, hS⟩ := h
    refine (p_put mk M l key lv v w hs (Nat.le_trans hm hn) hl hlv hv).mono ?_
    rintro z w' ⟨hz, mk', M', h1, h2, h3, h4, h5⟩
    exact ⟨hz, OwnK M', ⟨mk', M', by omega, by rw [h3], h2, fun i => Iff.rfl⟩, fun i hi => (h4 i hi).imp (hS i).2 id, h5.below, fun i hi hns => h5.other i hi fun h => hns ((hS i).2 h)⟩
  drop := fun {n} w S p l key h hl hk => by
    obtain ⟨mk, M, hm, rfl, hs, hS⟩ := h
    refine (p_drop mk M l key w hs hl).mono ?_
    rintro z w' ⟨hz, M', h2, h3, h4, h5⟩
    exact ⟨hz, OwnK M', ⟨mk, M', hm, by rw [h3], h2, fun i => Iff.rfl⟩, fun i hi => (h4 i hi).imp (hS i).2 id, h5.below, fun i hi hns => h5.other i hi fun h => hns ((hS i).2 h)⟩
  get := fun {n} w S p l key h hl hk => by
    obtain ⟨mk, M, hm, rfl, hs, hS⟩ := h
    exact p_get mk M l key w hs
  len := fun {n} w S p l h hl => by
    obtain ⟨mk, M, hm, rfl, hs, hS⟩ := h
    exact (p_len mk M l w hs).mono fun z w' ⟨hz, hw⟩ => ⟨hz, hw ▸ Below.refl _ _⟩
  height := fun {n} w S p l h hl => by
    obtain ⟨mk, M, hm, rfl, hs, hS⟩ := h
    exact (p_height mk M l w hs).mono fun z w' ⟨hz, hw⟩ => ⟨hz, hw ▸ Below.refl _ _⟩
  row := fun {n} w S p l lv h hl hv => by
    obtain ⟨mk, M, hm, rfl, hs, hS⟩ := h
    exact p_row mk M l lv w hs hl hv
  floor := fun {n} w S p l key h hl hk => by
    obtain ⟨mk, M, hm, rfl, hs, hS⟩ := h
    exact p_floor mk M l key w hs
  from' := fun {n} w S p l key h hl hk => by
    obtain ⟨mk, M, hm, rfl, hs, hS⟩ := h
    exact p_from mk M l key w S (fun i hi => (hS i).2 hi) hs hl
end Go.Proofs.Ytlihiojdjcmggaa
