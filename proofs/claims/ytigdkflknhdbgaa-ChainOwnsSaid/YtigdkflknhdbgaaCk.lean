/- Layer 13: what an index is made of: each key's versions in a row of their own. -/
import Derived.Test.YtigdkflknhdbgaaCi
import Derived.Test.YtigdkflknhdbgaaKb
namespace Go.Proofs.Ytigdkflknhdbgaa
open Go.RowKit
set_option linter.unusedVariables false

section
variable {α : Type} {L : Lay α} {e : TypeId}
theorem OwnX.stay {w w' : World} {base : Nat} {v : Value} {l : List α} (h : OwnX L e w base v l) (hb : ∀ k, v.ownBlock = some k → w'.heap[k]? = w.heap[k]?) : OwnX L e w' base v l := by
  refine ⟨h.1, ?_⟩
  rcases h.2 with h2 | ⟨g, cap, cur, e1, hg, hc, h3⟩
  · exact .inl h2
  · exact .inr ⟨g, cap, cur, e1, hg, by rw [hb g (by rw [e1]; rfl)]; exact hc, h3⟩
end

/-- A thing of the list, as a value. -/
def slV (t : Skp.Sl) : Value := .slice t.a t.n t.c

/-- Each key's versions lie in a row that no other key's share. -/
structure ThV (w : World) (l : List Skp.It) (Ls : List (List Ver)) : Prop where
  len : Ls.length = l.length
  own : ∀ (i : Nat) (x : Skp.It) (q : List Ver), l[i]? = some x → Ls[i]? = some q → OwnVr w 0 (slV x.v) q
  apart : ∀ (i j : Nat) (x y : Skp.It) (k : Nat), l[i]? = some x → l[j]? = some y → (slV x.v).ownBlock = some k → (slV y.v).ownBlock = some k → i = j

/-- The blocks of these rows. -/
def ThB (l : List Skp.It) (k : Nat) : Prop := ∃ (i : Nat) (x : Skp.It), l[i]? = some x ∧ (slV x.v).ownBlock = some k

section
variable {w w' : World} {l : List Skp.It} {Ls : List (List Ver)}
theorem ThV.nil (w : World) : ThV w [] [] := ⟨rfl, fun i x q h => by simp at h, fun i j x y k h => by simp at h⟩
theorem ThV.both (h : ThV w l Ls) {i : Nat} {x : Skp.It} (hx : l[i]? = some x) : ∃ q, Ls[i]? = some q := by
  obtain ⟨h1, -⟩ := List.getElem?_eq_some_iff.1 hx
  exact ⟨_, List.getElem?_eq_getElem (by rw [h.len]; exact h1)⟩
theorem ThV.lt (h : ThV w l Ls) {k : Nat} (hk : ThB l k) : k < w.heap.size := by
  obtain ⟨i, x, hx, e⟩ := hk
  obtain ⟨q, hq⟩ := h.both hx
  exact ((h.own i x q hx hq).lt k e).2
theorem ThV.stay (h : ThV w l Ls) (hb : ∀ k, ThB l k → w'.heap[k]? = w.heap[k]?) : ThV w' l Ls :=
  ⟨h.len, fun i x q hx hq => (h.own i x q hx hq).stay fun k hk => hb k ⟨i, x, hx, hk⟩, h.apart⟩
theorem ThV.on (h : ThV w l Ls) (hb : Below w.heap.size w w') : ThV w' l Ls := h.stay fun k hk => hb.block k (h.lt hk)

theorem ThB.cut {a b k : Nat} (hk : ThB (l.take a ++ l.drop b) k) (ha : a ≤ l.length) (hab : a ≤ b) : ∃ (i : Nat) (x : Skp.It), l[i]? = some x ∧ (slV x.v).ownBlock = some k ∧ (i < a ∨ b ≤ i) := by
  obtain ⟨i, x, hx, e⟩ := hk
  rw [Skp.cut_get l a b ha] at hx
  split at hx
  · exact ⟨_, x, hx, e, .inl ‹_›⟩
  · exact ⟨_, x, hx, e, .inr (by omega)⟩

/-- A key's row left out. -/
theorem ThV.cut (h : ThV w l Ls) {a b : Nat} (ha : a ≤ l.length) (hab : a ≤ b) : ThV w (l.take a ++ l.drop b) (Ls.take a ++ Ls.drop b) := by
  have hl := h.len
  refine ⟨by simp only [List.length_append, List.length_take, List.length_drop]; omega, fun i x q hx hq => ?_, fun i j x y k hx hy e1 e2 => ?_⟩
  · rw [Skp.cut_get l a b ha] at hx
    rw [Skp.cut_get Ls a b (by omega)] at hq
    split at hx
    · rw [if_pos ‹_›] at hq; exact h.own _ x q hx hq
    · rw [if_neg ‹_›] at hq; exact h.own _ x q hx hq
  · rw [Skp.cut_get l a b ha] at hx hy
    split at hx <;> split at hy
    · exact h.apart i j x y k hx hy e1 e2
    · have := h.apart _ _ x y k hx hy e1 e2; omega
    · have := h.apart _ _ x y k hx hy e1 e2; omega
    · have := h.apart _ _ x y k hx hy e1 e2; omega

/-- A key's row laid, in the place of those from a to b. -/
theorem ThV.lay (h : ThV w l Ls) {a b : Nat} (ha : a ≤ l.length) (hab : a ≤ b) {y : Skp.It} {q : List Ver} (ho : OwnVr w 0 (slV y.v) q)
    (hn : ∀ k, (slV y.v).ownBlock = some k → ¬ ThB (l.take a ++ l.drop b) k) : ThV w (l.take a ++ [y] ++ l.drop b) (Ls.take a ++ [q] ++ Ls.drop b) := by
  have hl := h.len
  have off : ∀ (i : Nat) (x : Skp.It) (k : Nat), l[i]? = some x → (i < a ∨ b ≤ i) → (slV x.v).ownBlock = some k → (slV y.v).ownBlock = some k → False := fun i x k hx hi e1 e2 => by
    refine hn k e2 ?_
    rcases hi with hi | hi
    · exact ⟨i, x, by rw [Skp.cut_get l a b ha, if_pos hi]; exact hx, e1⟩
    · exact ⟨i - b + a, x, by rw [Skp.cut_get l a b ha, if_neg (by omega), show i - b + a - a + b = i by omega]; exact hx, e1⟩
  refine ⟨by simp only [List.length_append, List.length_take, List.length_drop, List.length_singleton]; omega, fun i x r hx hr => ?_, fun i j x z k hx hz e1 e2 => ?_⟩
  · rw [Skp.mid_get l a y b ha] at hx
    rw [Skp.mid_get Ls a q b (by omega)] at hr
    split at hx
    · rw [if_pos ‹_›] at hr; exact h.own _ x r hx hr
    · rw [if_neg ‹_›] at hr
      split at hx
      · rw [if_pos ‹_›] at hr
        cases hx; cases hr; exact ho
      · rw [if_neg ‹_›] at hr; exact h.own _ x r hx hr
  · rw [Skp.mid_get l a y b ha] at hx hz
    split at hx
    · split at hz
      · exact h.apart i j x z k hx hz e1 e2
      · split at hz
        · cases hz; exact absurd e2 fun e2 => off i x k hx (.inl ‹_›) e1 e2
        · have := h.apart _ _ x z k hx hz e1 e2; omega
    · split at hx
      · cases hx
        split at hz
        · exact absurd e1 fun e1 => off j z k hz (.inl ‹_›) e2 e1
        · split at hz
          · omega
          · exact absurd e1 fun e1 => off _ z k hz (.inr (by omega)) e2 e1
      · split at hz
        · have := h.apart _ _ x z k hx hz e1 e2; omega
        · split at hz
          · cases hz; exact absurd e2 fun e2 => off _ x k hx (.inr (by omega)) e1 e2
          · have := h.apart _ _ x z k hx hz e1 e2; omega
/-- What these rows are, then: the old ones, and the new one. -/
theorem ThB.lay {a b k : Nat} {y : Skp.It} (ha : a ≤ l.length) (hk : ThB (l.take a ++ [y] ++ l.drop b) k) : ThB l k ∨ (slV y.v).ownBlock = some k := by
  obtain ⟨i, x, hx, e⟩ := hk
  rw [Skp.mid_get l a y b ha] at hx
  split at hx
  · exact .inl ⟨_, x, hx, e⟩
  · split at hx
    · cases hx; exact .inr e
    · exact .inl ⟨_, x, hx, e⟩
/-- One key's row grows, or is another one, and all others stay: in a world where what is not this row stays as it was. -/
theorem ThV.turn (h : ThV w l Ls) {a : Nat} {x0 y : Skp.It} {q : List Ver} (hx0 : l[a]? = some x0) (ho : OwnVr w' 0 (slV y.v) q)
    (hb : ∀ k, ThB (l.take a ++ l.drop (a + 1)) k → w'.heap[k]? = w.heap[k]?) (hn : ∀ k, (slV y.v).ownBlock = some k → (slV x0.v).ownBlock = some k ∨ w.heap.size ≤ k) :
    ThV w' (l.take a ++ [y] ++ l.drop (a + 1)) (Ls.take a ++ [q] ++ Ls.drop (a + 1)) := by
  obtain ⟨ha, -⟩ := List.getElem?_eq_some_iff.1 hx0
  have h1 := (h.cut (a := a) (b := a + 1) (by omega) (by omega))
  have h2 := h1.stay hb
  have hl := h.len
  have off : ∀ k, (slV y.v).ownBlock = some k → ¬ ThB (l.take a ++ l.drop (a + 1)) k := fun k hk ht => by
    rcases hn k hk with h3 | h3
    · obtain ⟨i, x, hx, e, hi⟩ := ht.cut (by omega) (by omega)
      have := h.apart i a x x0 k hx hx0 e h3
      omega
    · exact absurd (h1.lt ht) (by omega)
  have lt : (l.take a).length = a := by rw [List.length_take]; omega
  have lt2 : (Ls.take a).length = a := by rw [List.length_take]; omega
  have := h2.lay (a := a) (b := a) (by rw [List.length_append, lt]; omega) (Nat.le_refl _) (y := y) (q := q) ho (by rw [List.take_append_drop]; exact off)
  rw [List.take_left' lt, List.drop_left' lt, List.take_left' lt2, List.drop_left' lt2] at this
  exact this
end
end Go.Proofs.Ytigdkflknhdbgaa
/- Layer 13, plain: what Keep does key by key: those of the keys that it has been at are thinned, the others stand as they were. -/
namespace Go.Proofs.Ytigdkflknhdbgaa
open Go.RowKit
set_option linter.unusedVariables false

/-- Does a version stay, when the keys ks have been looked at? -/
def stayK (ks : List ByteArray) (q : Ver → Bool) (v : Ver) : Bool := q v || ks.all fun k => decide (v.key ≠ k)
theorem stayK_in {ks : List ByteArray} {q : Ver → Bool} {v : Ver} (h : v.key ∈ ks) : stayK ks q v = q v := by
  have : (ks.all fun k => decide (v.key ≠ k)) = false := by
    rw [List.all_eq_false]
    exact ⟨_, h, by simp⟩
  rw [stayK, this, Bool.or_false]
theorem stayK_out {ks : List ByteArray} {q : Ver → Bool} {v : Ver} (h : v.key ∉ ks) : stayK ks q v = true := by
  have : (ks.all fun k => decide (v.key ≠ k)) = true := List.all_eq_true.2 fun k hk => by
    rw [decide_eq_true_iff]
    exact fun e => h (e ▸ hk)
  rw [stayK, this, Bool.or_true]

theorem stayK_nil (q : Ver → Bool) (r : List Ver) : r.filter (stayK [] q) = r := List.filter_eq_self.2 fun v _ => stayK_out (by simp)
theorem stayK_all {ks : List ByteArray} {q : Ver → Bool} {r : List Ver} (h : ∀ v ∈ r, v.key ∈ ks) : r.filter (stayK ks q) = r.filter q := List.filter_congr fun v hv => stayK_in (h v hv)
/-- One key more. -/
theorem stayK_step (ks : List ByteArray) (j : Nat) (hj : j < ks.length) (q : Ver → Bool) (r : List Ver) :
    (r.filter (stayK (ks.take j) q)).filter (fun v => q v || decide (v.key ≠ ks[j])) = r.filter (stayK (ks.take (j + 1)) q) := by
  rw [List.filter_filter]
  refine List.filter_congr fun v _ => ?_
  have e : ks.take (j + 1) = ks.take j ++ [ks[j]] := by rw [List.take_add_one, List.getElem?_eq_getElem hj]; rfl
  by_cases h1 : v.key ∈ ks.take j
  · rw [stayK_in h1, stayK_in (show v.key ∈ ks.take (j + 1) by rw [e]; exact List.mem_append_left _ h1)]
    cases q v <;> simp
  · rw [stayK_out h1, Bool.and_true]
    by_cases h2 : v.key = ks[j]
    · rw [stayK_in (show v.key ∈ ks.take (j + 1) by rw [e, h2]; exact List.mem_append_right _ (List.mem_singleton.2 rfl))]
      simp [h2]
    · rw [stayK_out (show v.key ∉ ks.take (j + 1) by rw [e]; exact fun hm => (List.mem_append.1 hm).elim h1 fun h => h2 (List.mem_singleton.1 h))]
      simp [h2]
/-- The next key's versions stand as they were. -/
theorem stayK_of {ks : List ByteArray} (hn : ks.Nodup) (j : Nat) (hj : j < ks.length) (q : Ver → Bool) (r : List Ver) :
    (r.filter (stayK (ks.take j) q)).filter (fun v => decide (v.key = ks[j])) = r.filter (fun v => decide (v.key = ks[j])) := by
  rw [List.filter_filter]
  refine List.filter_congr fun v _ => ?_
  by_cases h : v.key = ks[j]
  · have : ks[j] ∉ ks.take j := fun hm => by
      obtain ⟨i, hi, e⟩ := List.getElem_of_mem hm
      rw [List.getElem_take] at e
      have := (List.getElem_inj hn).1 e
      rw [List.length_take] at hi
      omega
    rw [stayK_out (by rw [h]; exact this), Bool.and_true]
  · simp [h]
section
variable {l : List Skp.It} {Ls : List (List Ver)}
/-- The keys of an index, and each one's versions. -/
theorem GrpV.nodup (h : GrpV l Ls) : (l.map (·.key)).Nodup := by
  rw [List.nodup_iff_pairwise_ne, List.pairwise_iff_getElem]
  intro i j hi hj hij e
  simp only [List.length_map] at hi hj
  simp only [List.getElem_map] at e
  have := h.inj hi hj e
  omega
theorem GrpV.of_at (h : GrpV l Ls) {i : Nat} (hi : i < Ls.length) (hl : i < l.length) : Ls.flatten.filter (fun v => decide (v.key = l[i].key)) = Ls[i] := by
  have hh := here_of h.keys hl
  obtain ⟨h1, e⟩ := h.of_here hh
  rw [e]
  obtain ⟨h2, h3⟩ := Skp.here_lt hh
  have := h.inj h2 hl h3
  simp only [this]
theorem GrpV.key_in (h : GrpV l Ls) {v : Ver} (hv : v ∈ Ls.flatten) : v.key ∈ l.map (·.key) := by
  obtain ⟨i, hi, hm⟩ := mem_flat.1 hv
  have hl : i < l.length := by rw [← h.len]; exact hi
  rw [h.key i hi hl v hm]
  exact List.mem_map.2 ⟨_, List.getElem_mem hl, rfl⟩
/-- Those that go: told key by key, they are those that go of all. -/
theorem gone_step (Ls : List (List Ver)) (j : Nat) (hj : j < Ls.length) (p : Ver → Bool) : (Ls.take (j + 1)).flatten.filter p = (Ls.take j).flatten.filter p ++ Ls[j].filter p := by
  rw [List.take_add_one, List.getElem?_eq_getElem hj, List.flatten_append, List.filter_append]
  simp
/-- One key looked at: what stays is what the list then has. -/
theorem GrpV.len_part (h : GrpV l Ls) : l.length ≤ Ls.flatten.length := by
  have : ∀ (m : List (List Ver)), (∀ i (hi : i < m.length), m[i] ≠ []) → m.length ≤ m.flatten.length := fun m => by
    induction m with
    | nil => intro _; simp
    | cons a m ih =>
      intro hm
      have h0 : a ≠ [] := hm 0 (by simp)
      have h1 := ih fun i hi => hm (i + 1) (by simp; omega)
      have h2 := List.length_pos_iff.2 h0
      simp only [List.length_cons, List.flatten_cons, List.length_append]
      omega
  have := this Ls h.some'
  have := h.len
  omega
end
section
variable {l lj : List Skp.It} {Ls Lj : List (List Ver)}
/-- When j keys have been looked at: the next key is still there, with its versions as they were. -/
theorem GrpV.keep_at (h : GrpV l Ls) {j : Nat} (hj : j < l.length) (hL : j < Ls.length) {q : Ver → Bool} (hg : GrpV lj Lj) (hf : Lj.flatten = Ls.flatten.filter (stayK ((l.map (·.key)).take j) q)) :
    Skp.hereI lj l[j].key = true ∧ ∃ hi : Skp.atI l[j].key lj < Lj.length, Lj[Skp.atI l[j].key lj] = Ls[j] := by
  have hk : j < (l.map (·.key)).length := by rw [List.length_map]; exact hj
  have e1 := stayK_of h.nodup j hk q Ls.flatten
  rw [← hf, List.getElem_map] at e1
  rw [h.of_at hL hj] at e1
  have hh : Skp.hereI lj l[j].key = true := by
    cases hh : Skp.hereI lj l[j].key
    · rw [hg.of_none hh] at e1
      exact absurd e1.symm (h.some' j hL)
    · rfl
  obtain ⟨hi, e2⟩ := hg.of_here hh
  exact ⟨hh, hi, e2.symm.trans e1⟩
/-- That key looked at: what stays of it is laid, or it goes. -/
theorem GrpV.keep_next (h : GrpV l Ls) {j : Nat} (hj : j < l.length) (hL : j < Ls.length) {q : Ver → Bool} (hg : GrpV lj Lj) (hf : Lj.flatten = Ls.flatten.filter (stayK ((l.map (·.key)).take j) q)) :
    (Ls[j].filter q ≠ [] → ∀ (lv : Int) (t : Skp.Sl), GrpV (Skp.putI lj l[j].key lv t).1 (Lj.take (Skp.atI l[j].key lj) ++ [Ls[j].filter q] ++ Lj.drop (Skp.atI l[j].key lj + 1)) ∧
      (Lj.take (Skp.atI l[j].key lj) ++ [Ls[j].filter q] ++ Lj.drop (Skp.atI l[j].key lj + 1)).flatten = Ls.flatten.filter (stayK ((l.map (·.key)).take (j + 1)) q)) ∧
    (Ls[j].filter q = [] → GrpV (Skp.dropI lj l[j].key).1 (Lj.take (Skp.atI l[j].key lj) ++ Lj.drop (Skp.atI l[j].key lj + 1)) ∧
      (Lj.take (Skp.atI l[j].key lj) ++ Lj.drop (Skp.atI l[j].key lj + 1)).flatten = Ls.flatten.filter (stayK ((l.map (·.key)).take (j + 1)) q)) := by
  obtain ⟨hh, hi, e⟩ := h.keep_at hj hL hg hf
  have hk : j < (l.map (·.key)).length := by rw [List.length_map]; exact hj
  have st := stayK_step (l.map (·.key)) j hk q Ls.flatten
  rw [← hf, List.getElem_map] at st
  refine ⟨fun hn lv t => ⟨?_, ?_⟩, fun hn => ?_⟩
  · have := hg.keep_some hh hi q (by rw [e]; exact hn) lv t
    rw [e] at this
    exact this
  · have := hg.thin hh hi q
    rw [e] at this
    exact this.trans st
  · obtain ⟨h1, h2⟩ := hg.keep_none hh hi q (by rw [e]; exact hn)
    exact ⟨h1, h2.trans st⟩
/-- All keys looked at. -/
theorem GrpV.keep_all (h : GrpV l Ls) {q : Ver → Bool} (hf : Lj.flatten = Ls.flatten.filter (stayK ((l.map (·.key)).take l.length) q)) : Lj.flatten = Ls.flatten.filter q := by
  rw [hf, show l.length = (l.map (·.key)).length by rw [List.length_map], List.take_length]
  exact stayK_all fun v hv => h.key_in hv
end
end Go.Proofs.Ytigdkflknhdbgaa
/- Layer 13, plain: the list's height, when a thing is put in. -/
namespace Go.Proofs.Ytigdkflknhdbgaa
open Go.RowKit
set_option linter.unusedVariables false
theorem heightGo_levels : ∀ (l m : List Skp.It) (n : Int), l.map (·.level) = m.map (·.level) → Skp.heightGo n l = Skp.heightGo n m
  | [], [], _, _ => rfl
  | [], _ :: _, _, h => by simp at h
  | _ :: _, [], _, h => by simp at h
  | x :: l, y :: m, n, h => by
    simp only [List.map_cons, List.cons.injEq] at h
    rw [Skp.heightGo, Skp.heightGo, h.1]
    exact heightGo_levels l m _ h.2
theorem height_here {l : List Skp.It} {key : ByteArray} (hh : Skp.hereI l key = true) (lv : Int) (t : Skp.Sl) : Skp.heightI (Skp.putI l key lv t).1 = Skp.heightI l := by
  obtain ⟨hl, -⟩ := Skp.here_lt hh
  rw [putI_here hh]
  refine heightGo_levels _ _ _ ?_
  apply List.ext_getElem?
  intro i
  rw [List.getElem?_map, List.getElem?_map, Skp.mid_get l _ _ _ (by omega)]
  split
  · rfl
  · split
    · rename_i h1
      subst h1
      rw [List.getElem?_eq_getElem hl]
      simp [Skp.levI, List.getElem?_eq_getElem hl]
    · congr 2
      omega
theorem height_first (key : ByteArray) (lv : Int) (t : Skp.Sl) : Skp.heightI (Skp.putI [] key lv t).1 = Skp.clampI lv := by
  have h : Skp.hereI [] key = false := rfl
  rw [putI_new h]
  have : 1 ≤ Skp.clampI lv := by unfold Skp.clampI; split <;> (try split) <;> omega
  simp only [Skp.atI, List.take_nil, List.drop_nil, List.nil_append, List.append_nil, Skp.heightI, Skp.heightGo]
  rw [if_pos (by omega)]
end Go.Proofs.Ytigdkflknhdbgaa
