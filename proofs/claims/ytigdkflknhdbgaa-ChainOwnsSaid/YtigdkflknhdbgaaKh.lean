/- Layer 13 (the list of layer 12, of slices of versions), the project's: what the list is behind Put and Drop, by what they turn. -/
import Derived.Test.YtigdkflknhdbgaaKd
namespace Go.Proofs.Ytigdkflknhdbgaa.Skp
open Go.RowKit
set_option linter.unusedVariables false

theorem own_iff {M : List Nd} {i : Nat} : OwnK M i ↔ ∃ t, t < M.length ∧ i = bN M t := by
  constructor
  · rintro ⟨x, hx, rfl⟩
    obtain ⟨t, ht, rfl⟩ := List.getElem_of_mem hx
    exact ⟨t, ht, (bN_at ht).symm⟩
  · rintro ⟨t, ht, rfl⟩
    rw [bN_at ht]
    exact ⟨_, List.getElem_mem ht, rfl⟩
theorem SameN.own {M M2 : List Nd} (h : SameN M M2) (i : Nat) : OwnK M2 i ↔ OwnK M i := by
  rw [own_iff, own_iff, h.len, h.bb]
theorem own_val (M : List Nd) (t : Nat) (u : Value) (i : Nat) : OwnK (valN M t u) i ↔ OwnK M i := by
  rw [own_iff, own_iff, valN_len, bN_val]
theorem own_ins {M : List Nd} {K : Nat} {x : Nd} {i : Nat} (h : OwnK (insN M K x) i) : OwnK M i ∨ i = x.b := by
  obtain ⟨y, hy, rfl⟩ := h
  unfold insN at hy
  rcases List.mem_append.1 hy with h1 | h1
  · exact .inl ⟨y, List.mem_of_mem_take h1, rfl⟩
  · rcases List.mem_cons.1 h1 with rfl | h2
    · exact .inr rfl
    · exact .inl ⟨y, List.mem_of_mem_drop h2, rfl⟩
theorem own_del {M : List Nd} {K : Nat} {i : Nat} (h : OwnK (delN M K) i) : OwnK M i := by
  obtain ⟨y, hy, rfl⟩ := h
  unfold delN at hy
  rcases List.mem_append.1 hy with h1 | h1
  · exact ⟨y, List.mem_of_mem_take h1, rfl⟩
  · exact ⟨y, List.mem_of_mem_drop h1, rfl⟩
theorem mid_get {α : Type} (l : List α) (a : Nat) (x : α) (b : Nat) (ha : a ≤ l.length) (t : Nat) : (l.take a ++ [x] ++ l.drop b)[t]? = if t < a then l[t]? else if t = a then some x else l[t - (a + 1) + b]? := by
  have hl : (l.take a).length = a := by rw [List.length_take]; omega
  rcases Nat.lt_trichotomy t a with h | h | h
  · rw [if_pos h, List.append_assoc, List.getElem?_append_left (by omega), List.getElem?_take, if_pos h]
  · subst h
    rw [if_neg (by omega), if_pos rfl, List.append_assoc, List.getElem?_append_right (by omega), hl, Nat.sub_self]
    rfl
  · rw [if_neg (by omega), if_neg (by omega), List.getElem?_append_right (by rw [List.length_append, hl]; simp; omega), List.length_append, hl, List.length_singleton, List.getElem?_drop]
    congr 1
    omega
theorem cut_get {α : Type} (l : List α) (a b : Nat) (ha : a ≤ l.length) (t : Nat) : (l.take a ++ l.drop b)[t]? = if t < a then l[t]? else l[t - a + b]? := by
  have hl : (l.take a).length = a := by rw [List.length_take]; omega
  rcases Nat.lt_or_ge t a with h | h
  · rw [if_pos h, List.getElem?_append_left (by omega), List.getElem?_take, if_pos h]
  · rw [if_neg (by omega), List.getElem?_append_right (by omega), hl, List.getElem?_drop]
    congr 1
    omega
theorem sk_val {mk : Nat} {w : World} {M : List Nd} {l : List It} (h : SkM mk w M l) {key : ByteArray} (lv : Int) (v : Sl) (hh : hereI l key = true) :
    SkM mk (w.setCell ⟨bN M (atI key l + 1), 1, none⟩ (.slice v.a v.n v.c)) (valN M (atI key l + 1) (.slice v.a v.n v.c)) (putI l key lv v).1 := by
  obtain ⟨hlt, hk⟩ := here_lt hh
  have hput : (putI l key lv v).1 = l.take (atI key l) ++ [⟨key, levI l (atI key l), v⟩] ++ l.drop (atI key l + 1) := by unfold putI; rw [if_pos hh]
  have hlen : (putI l key lv v).1.length = l.length := by
    rw [hput, List.length_append, List.length_append, List.length_take, List.length_drop, List.length_singleton]
    omega
  have hi : atI key l + 1 < M.length := by rw [h.len]; omega
  refine ⟨?_, by rw [valN_len, h.len, hlen], fun x hx => ?_, fun t x hx => ?_, ?_, fun i x hx => ?_, asc_put h.asc key lv v⟩
  · rw [hlen]
    exact h.nodes.val hi _
  · rw [valN_get, if_neg (by omega)] at hx
    exact h.head x hx
  · rw [hput, mid_get _ _ _ _ (by omega)] at hx
    rcases Nat.lt_trichotomy t (atI key l) with ht | ht | ht
    · rw [if_pos ht] at hx
      obtain ⟨y, hy, h1⟩ := h.items t x hx
      exact ⟨y, by rw [valN_get, if_neg (by omega)]; exact hy, h1⟩
    · subst ht
      rw [if_neg (by omega), if_pos rfl, Option.some.injEq] at hx
      subst hx
      obtain ⟨y, hy, h1, h2, h3, h4⟩ := h.items _ _ (List.getElem?_eq_getElem hlt)
      refine ⟨{ y with val := .slice v.a v.n v.c }, by rw [valN_get, if_pos rfl, hy]; rfl, h1.trans hk, rfl, ?_, h4⟩
      have : levI l (atI key l) = l[atI key l].level := by unfold levI; rw [List.getElem?_eq_getElem hlt]
      simp only
      rw [this, ← h3]
    · rw [if_neg (by omega), if_neg (by omega), show t - (atI key l + 1) + (atI key l + 1) = t by omega] at hx
      obtain ⟨y, hy, h1⟩ := h.items t x hx
      exact ⟨y, by rw [valN_get, if_neg (by omega)]; exact hy, h1⟩
  · rw [lvN_val, bN_val, cN_val]
    exact h.link
  · rw [valN_get] at hx
    split at hx
    · obtain ⟨y, hy, rfl⟩ := Option.map_eq_some_iff.1 hx
      exact h.levs i y hy
    · exact h.levs i x hx
theorem shape_eq {x y : Nd} (h : shapeN y = shapeN x) : y.b = x.b ∧ y.n = x.n ∧ y.key = x.key ∧ y.val = x.val ∧ y.cells.length = x.cells.length := by
  unfold shapeN at h
  simpa using h
theorem SameN.back {M M2 : List Nd} (h : SameN M M2) {i : Nat} {y : Nd} (hy : M2[i]? = some y) : ∃ x, M[i]? = some x ∧ y.b = x.b ∧ y.n = x.n ∧ y.key = x.key ∧ y.val = x.val ∧ y.cells.length = x.cells.length := by
  have hi : i < M.length := by rw [← h.len]; exact (List.getElem?_eq_some_iff.1 hy).1
  obtain ⟨z, hz, e⟩ := h.get (List.getElem?_eq_getElem hi)
  rw [hy, Option.some.injEq] at hz
  subst hz
  exact ⟨_, List.getElem?_eq_getElem hi, shape_eq e⟩
theorem SameN.forth {M M2 : List Nd} (h : SameN M M2) {i : Nat} {x : Nd} (hx : M[i]? = some x) : ∃ y, M2[i]? = some y ∧ y.b = x.b ∧ y.n = x.n ∧ y.key = x.key ∧ y.val = x.val ∧ y.cells.length = x.cells.length := by
  obtain ⟨y, hy, e⟩ := h.get hx
  exact ⟨y, hy, shape_eq e⟩
theorem sk_put {mk : Nat} {w W : World} {M M2 : List Nd} {l : List It} (h : SkM mk w M l) {key : ByteArray} {lv : Int} {v : Sl} (hh : hereI l key = false) (hs : SameN M M2) {x : Nd}
    (hn : Nodes ((l.length : Int) + 1) ((mk : Int) + 1) W M2) (hx : Box W x.b (cellsN ((l.length : Int) + 1) ((mk : Int) + 1) 1 x).toArray 87) (hb : ∀ (i : Nat) (y : Nd), M2[i]? = some y → y.b ≠ x.b)
    (hk : x.key = key) (hv : x.val = .slice v.a v.n v.c) (hc : (x.cells.length : Int) = clampI lv) (ha : x.n ≤ mk + 1)
    (h1 : ∀ i r, i < atI key l + 1 → r < lvN M i → r < x.cells.length → PredIs (lvN M) (atI key l + 1) r i → cN M2 i r = .pointer (some ⟨x.b, 0, none⟩))
    (h2 : ∀ i r, r < lvN M i → ¬ (r < x.cells.length ∧ PredIs (lvN M) (atI key l + 1) r i) → cN M2 i r = cN M i r)
    (h3 : ∀ r, r < x.cells.length → ∃ p, PredIs (lvN M) (atI key l + 1) r p ∧ x.cells.getD r undef = cN M p r) :
    SkM (mk + 1) W (insN M2 (atI key l + 1) x) (putI l key lv v).1 := by
  have hat := at_le key l
  have hput : (putI l key lv v).1 = l.take (atI key l) ++ [⟨key, clampI lv, v⟩] ++ l.drop (atI key l) := by unfold putI; rw [hh, if_neg (by decide)]
  have hlen : (putI l key lv v).1.length = l.length + 1 := by
    rw [hput, List.length_append, List.length_append, List.length_take, List.length_drop, List.length_singleton]
    omega
  have hl2 : M2.length = l.length + 1 := by rw [hs.len, h.len]
  have hcl : 1 ≤ clampI lv ∧ clampI lv ≤ 8 := by unfold clampI; split <;> (try split) <;> omega
  refine ⟨?_, ?_, fun y hy => ?_, fun t z hz => ?_, ?_, fun i y hy => ?_, asc_put h.asc key lv v⟩
  · rw [hlen]
    exact hn.ins (by omega) hx hb
  · unfold insN
    rw [List.length_append, List.length_cons, List.length_take, List.length_drop, hlen]
    omega
  · rw [insN_get x (by omega), if_pos (by omega)] at hy
    obtain ⟨z, hz, -, -, e3, -, e5⟩ := hs.back hy
    have := h.head z hz
    rw [e3, e5]
    exact this
  · rw [hput, mid_get _ _ _ _ (by omega)] at hz
    rcases Nat.lt_trichotomy t (atI key l) with ht | ht | ht
    · rw [if_pos ht] at hz
      obtain ⟨y, hy, q1, q2, q3, q4⟩ := h.items t z hz
      obtain ⟨y2, hy2, -, e2, e3, e4, e5⟩ := hs.forth hy
      exact ⟨y2, by rw [insN_get x (by omega), if_pos (by omega)]; exact hy2, e3.trans q1, e4.trans q2, by rw [e5]; exact q3, by rw [e2]; omega⟩
    · subst ht
      rw [if_neg (by omega), if_pos rfl, Option.some.injEq] at hz
      subst hz
      exact ⟨x, by rw [insN_get x (by omega), if_neg (by omega), if_pos rfl], hk, hv, hc, ha⟩
    · rw [if_neg (by omega), if_neg (by omega), show t - (atI key l + 1) + atI key l = t - 1 by omega] at hz
      obtain ⟨y, hy, q1, q2, q3, q4⟩ := h.items (t - 1) z hz
      rw [show t - 1 + 1 = t by omega] at hy
      obtain ⟨y2, hy2, -, e2, e3, e4, e5⟩ := hs.forth hy
      exact ⟨y2, by rw [insN_get x (by omega), if_neg (by omega), if_neg (by omega)]; exact hy2, e3.trans q1, e4.trans q2, by rw [e5]; exact q3, by rw [e2]; omega⟩
  · exact put_link h.link hs (by rw [h.len]; omega) h1 h2 h3
  · rw [insN_get x (by omega)] at hy
    split at hy
    · obtain ⟨z, hz, -, -, -, -, e5⟩ := hs.back hy
      rw [e5]
      exact h.levs _ z hz
    · split at hy
      · rw [Option.some.injEq] at hy
        subst hy
        omega
      · obtain ⟨z, hz, -, -, -, -, e5⟩ := hs.back hy
        rw [e5]
        exact h.levs _ z hz
theorem sk_drop {mk : Nat} {w W : World} {M M2 : List Nd} {l : List It} (h : SkM mk w M l) {key : ByteArray} (hh : hereI l key = true) (hs : SameN M M2)
    (hn : Nodes ((l.length : Int) - 1) (mk : Int) W (delN M2 (atI key l + 1)))
    (h1 : ∀ i r, i < atI key l + 1 → r < lvN M i → r < lvN M (atI key l + 1) → PredIs (lvN M) (atI key l + 1) r i → cN M2 i r = cN M (atI key l + 1) r)
    (h2 : ∀ i r, r < lvN M i → ¬ (r < lvN M (atI key l + 1) ∧ PredIs (lvN M) (atI key l + 1) r i) → cN M2 i r = cN M i r) :
    SkM mk W (delN M2 (atI key l + 1)) (dropI l key).1 := by
  obtain ⟨hlt, hk⟩ := here_lt hh
  have hdr : (dropI l key).1 = l.take (atI key l) ++ l.drop (atI key l + 1) := by unfold dropI; rw [if_pos hh]
  have hlen : (dropI l key).1.length + 1 = l.length := by
    rw [hdr, List.length_append, List.length_take, List.length_drop]
    omega
  have hl2 : M2.length = l.length + 1 := by rw [hs.len, h.len]
  refine ⟨?_, ?_, fun y hy => ?_, fun t z hz => ?_, ?_, fun i y hy => ?_, asc_drop h.asc key⟩
  · rw [show (((dropI l key).1.length : Nat) : Int) = (l.length : Int) - 1 by omega]
    exact hn
  · unfold delN
    rw [List.length_append, List.length_take, List.length_drop]
    omega
  · rw [delN_get (by omega), if_pos (by omega)] at hy
    obtain ⟨z, hz, -, -, e3, -, e5⟩ := hs.back hy
    have := h.head z hz
    rw [e3, e5]
    exact this
  · rw [hdr, cut_get _ _ _ (by omega)] at hz
    rcases Nat.lt_or_ge t (atI key l) with ht | ht
    · rw [if_pos ht] at hz
      obtain ⟨y, hy, q1, q2, q3, q4⟩ := h.items t z hz
      obtain ⟨y2, hy2, -, e2, e3, e4, e5⟩ := hs.forth hy
      exact ⟨y2, by rw [delN_get (by omega), if_pos (by omega)]; exact hy2, e3.trans q1, e4.trans q2, by rw [e5]; exact q3, by rw [e2]; omega⟩
    · rw [if_neg (by omega), show t - atI key l + (atI key l + 1) = t + 1 by omega] at hz
      obtain ⟨y, hy, q1, q2, q3, q4⟩ := h.items (t + 1) z hz
      obtain ⟨y2, hy2, -, e2, e3, e4, e5⟩ := hs.forth hy
      exact ⟨y2, by rw [delN_get (by omega), if_neg (by omega)]; exact hy2, e3.trans q1, e4.trans q2, by rw [e5]; exact q3, by rw [e2]; omega⟩
  · exact drop_link h.link hs (by rw [h.len]; omega) h1 h2
  · rw [delN_get (by omega)] at hy
    split at hy
    · obtain ⟨z, hz, -, -, -, -, e5⟩ := hs.back hy
      rw [e5]
      exact h.levs _ z hz
    · obtain ⟨z, hz, -, -, -, -, e5⟩ := hs.back hy
      rw [e5]
      exact h.levs _ z hz
/-- A store into another block. -/
theorem Nodes.off {k mk : Int} {w : World} {M : List Nd} (h : Nodes k mk w M) {n : Nat} (hn : ∀ (i : Nat) (x : Nd), M[i]? = some x → x.b ≠ n) (j : Nat) (u : Value) : Nodes k mk (w.setCell ⟨n, j, none⟩ u) M :=
  ⟨fun i x hx => (h.at' i x hx).other _ _ (hn i x hx), h.bs⟩
end Go.Proofs.Ytigdkflknhdbgaa.Skp
