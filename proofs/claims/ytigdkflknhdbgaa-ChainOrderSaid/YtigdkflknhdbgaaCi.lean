/- Layer 13, plain: versions key by key: what the document says of all of them, by the list of each key. -/
import Derived.Test.YtigdkflknhdbgaaCh
import Derived.Test.YtigdkflknhdbgaaKp
import Derived.Test.YtigdkflknhdbgaaKh
namespace Go.Proofs.Ytigdkflknhdbgaa
open Go.RowKit
set_option linter.unusedVariables false

/-- Each key's versions, in order; the keys as the list has them. -/
structure GrpV (l : List Skp.It) (Ls : List (List Ver)) : Prop where
  len : Ls.length = l.length
  some' : ∀ i (h : i < Ls.length), Ls[i] ≠ []
  key : ∀ i (h : i < Ls.length) (h2 : i < l.length), ∀ v ∈ Ls[i], v.key = l[i].key
  keys : Skp.AscK l
  asc : AscV Ls.flatten
section
variable {l : List Skp.It} {Ls : List (List Ver)}
theorem mem_flat {x : Ver} : x ∈ Ls.flatten ↔ ∃ i, ∃ h : i < Ls.length, x ∈ Ls[i] := by
  rw [List.mem_flatten]
  constructor
  · rintro ⟨q, hq, hx⟩
    obtain ⟨i, hi, rfl⟩ := List.getElem_of_mem hq
    exact ⟨i, hi, hx⟩
  · rintro ⟨i, hi, hx⟩
    exact ⟨_, List.getElem_mem hi, hx⟩
theorem GrpV.less (h : GrpV l Ls) {i j : Nat} (hij : i < j) (hj : j < l.length) : Op.bytesLess l[i].key.toList l[j].key.toList = true := by
  have h1 := h.keys
  unfold Skp.AscK at h1
  have := List.pairwise_iff_getElem.1 h1 i j (by simpa using (by omega : i < l.length)) (by simpa using hj) hij
  simpa using this
theorem GrpV.inj (h : GrpV l Ls) {i j : Nat} (hi : i < l.length) (hj : j < l.length) (e : l[i].key = l[j].key) : i = j := by
  rcases Nat.lt_trichotomy i j with h1 | h1 | h1
  · have := h.less h1 hj
    rw [e, Skp.less_irreflK] at this
    cases this
  · exact h1
  · have := h.less h1 hi
    rw [e, Skp.less_irreflK] at this
    cases this
theorem GrpV.part (h : GrpV l Ls) {i : Nat} (hi : i < Ls.length) : AscV Ls[i] := List.Pairwise.sublist (List.sublist_flatten_of_mem (List.getElem_mem hi)) h.asc
theorem asc_filter {r : List Ver} (h : AscV r) (p : Ver → Bool) : AscV (r.filter p) := List.Pairwise.sublist List.filter_sublist h
/-- A key's versions. -/
theorem GrpV.of_here (h : GrpV l Ls) {key : ByteArray} (hh : Skp.hereI l key = true) : ∃ hi : Skp.atI key l < Ls.length, Ls.flatten.filter (fun v => decide (v.key = key)) = Ls[Skp.atI key l] := by
  obtain ⟨hl, hk⟩ := Skp.here_lt hh
  have hi : Skp.atI key l < Ls.length := by rw [h.len]; exact hl
  refine ⟨hi, asc_eq (asc_filter h.asc _) (h.part hi) fun x => ?_⟩
  rw [List.mem_filter, mem_flat]
  constructor
  · rintro ⟨⟨i, h1, h2⟩, h3⟩
    have h4 : i < l.length := by rw [← h.len]; exact h1
    have h5 := h.key i h1 h4 x h2
    have : i = Skp.atI key l := h.inj h4 hl (by rw [← h5, hk]; simpa using h3)
    subst this
    exact h2
  · intro hx
    exact ⟨⟨_, hi, hx⟩, by rw [h.key _ hi hl x hx, hk]; simp⟩
theorem here_of {l : List Skp.It} {i : Nat} (ha : Skp.AscK l) (hi : i < l.length) : Skp.hereI l l[i].key = true := by
  have h1 : Skp.geK l[i].key l[i].key = true := by unfold Skp.geK; rw [Skp.less_irreflK]; rfl
  have hle : Skp.atI l[i].key l ≤ i := by
    rcases Nat.lt_or_ge i (Skp.atI l[i].key l) with h | h
    · have := Skp.at_before (key := l[i].key) hi h
      rw [h1] at this
      cases this
    · exact h
  have hlt : Skp.atI l[i].key l < l.length := by omega
  rcases Nat.eq_or_lt_of_le hle with e | e
  · rw [Skp.here_at e hi]; simp
  · exfalso
    have h2 := Skp.at_at hlt
    unfold Skp.AscK at ha
    have h3 := List.pairwise_iff_getElem.1 ha (Skp.atI l[i].key l) i (by simpa using hlt) (by simpa using hi) e
    simp only [List.getElem_map] at h3
    unfold Skp.geK at h2
    rw [h3] at h2
    cases h2
theorem GrpV.of_none (h : GrpV l Ls) {key : ByteArray} (hh : Skp.hereI l key = false) : Ls.flatten.filter (fun v => decide (v.key = key)) = [] := by
  rw [List.filter_eq_nil_iff]
  intro x hx h3
  obtain ⟨i, h1, h2⟩ := mem_flat.1 hx
  have h4 : i < l.length := by rw [← h.len]; exact h1
  have h5 := h.key i h1 h4 x h2
  have h6 := here_of h.keys h4
  rw [← h5] at h6
  have h7 : x.key = key := by simpa using h3
  rw [h7, hh] at h6
  cases h6
/-- The keys that have any. -/
theorem GrpV.keys_is : ∀ {l : List Skp.It} {Ls : List (List Ver)}, GrpV l Ls → keysV Ls.flatten = l.map (·.key) := by
  intro l Ls h
  have grp : ∀ (q : List Ver) (k : ByteArray) (out : List ByteArray), q ≠ [] → (∀ v ∈ q, v.key = k) → out.getLast? ≠ some k → q.foldl keyStep out = out ++ [k] := by
    intro q k out hq hk ho
    cases q with
    | nil => exact absurd rfl hq
    | cons x r =>
      have e1 : keyStep out x = out ++ [k] := by
        unfold keyStep
        rw [hk x List.mem_cons_self, if_neg ho]
      rw [List.foldl_cons, e1]
      have rest : ∀ (r : List Ver), (∀ v ∈ r, v.key = k) → r.foldl keyStep (out ++ [k]) = out ++ [k] := by
        intro r
        induction r with
        | nil => intro _; rfl
        | cons y s ih =>
          intro hs
          rw [List.foldl_cons]
          have e2 : keyStep (out ++ [k]) y = out ++ [k] := by
            unfold keyStep
            rw [hs y List.mem_cons_self, if_pos (by simp)]
          rw [e2]
          exact ih fun v hv => hs v (List.mem_cons_of_mem _ hv)
      exact rest r fun v hv => hk v (List.mem_cons_of_mem _ hv)
  have all : ∀ k, k ≤ Ls.length → keysV (Ls.take k).flatten = (l.take k).map (·.key) := by
    intro k
    induction k with
    | zero => intro _; simp [keysV]
    | succ k ih =>
      intro hk
      have hk2 : k < l.length := by rw [← h.len]; omega
      have e := ih (by omega)
      unfold keysV at e ⊢
      rw [List.take_succ_eq_append_getElem (by omega), List.flatten_append, List.foldl_append, e, List.take_succ_eq_append_getElem hk2, List.map_append]
      have e3 : [Ls[k]].flatten = Ls[k] := by simp
      rw [e3]
      refine grp _ _ _ (h.some' k (by omega)) (fun v hv => h.key k (by omega) hk2 v hv) fun e4 => ?_
      rw [List.getLast?_eq_getElem?, List.length_map, List.length_take, Nat.min_eq_left (by omega), List.getElem?_map, List.getElem?_take] at e4
      cases k with
      | zero => simp at e4
      | succ k =>
        rw [if_pos (by omega), Nat.add_sub_cancel, List.getElem?_eq_getElem (by omega)] at e4
        simp only [Option.map_some, Option.some.injEq] at e4
        have := h.inj (by omega) hk2 e4
        omega
  have := all Ls.length (Nat.le_refl _)
  rw [List.take_length] at this
  rw [this, h.len, List.take_length]
/-- Is one alike there? It has the key. -/
theorem alike_key {v x : Ver} (h : alikeV v x = true) : x.key = v.key := by
  unfold alikeV at h
  simp only [Bool.and_eq_true, Bool.not_eq_true'] at h
  refine Classical.byContradiction fun hne => ?_
  rcases str_three v.key.toList x.key.toList with ⟨h1, -⟩ | ⟨h1, -⟩ | ⟨h1, -⟩
  · rw [key_lessV h1] at h; cases h.1
  · exact hne (((bytes_eqK _ _).1 h1).symm)
  · rw [key_lessV h1] at h; cases h.2
theorem GrpV.any_here (h : GrpV l Ls) {v : Ver} (hh : Skp.hereI l v.key = true) : ∃ hi : Skp.atI v.key l < Ls.length, Ls.flatten.any (alikeV v) = Ls[Skp.atI v.key l].any (alikeV v) := by
  obtain ⟨hi, e⟩ := h.of_here hh
  refine ⟨hi, ?_⟩
  rw [← e, Bool.eq_iff_iff, List.any_eq_true, List.any_eq_true]
  constructor
  · rintro ⟨x, hx, ha⟩
    exact ⟨x, List.mem_filter.2 ⟨hx, by simpa using alike_key ha⟩, ha⟩
  · rintro ⟨x, hx, ha⟩
    exact ⟨x, (List.mem_filter.1 hx).1, ha⟩
theorem GrpV.any_none (h : GrpV l Ls) {v : Ver} (hh : Skp.hereI l v.key = false) : Ls.flatten.any (alikeV v) = false := by
  have e := h.of_none hh
  rw [Bool.eq_false_iff]
  intro ha
  rw [List.any_eq_true] at ha
  obtain ⟨x, hx, ha⟩ := ha
  have : x ∈ Ls.flatten.filter (fun y => decide (y.key = v.key)) := List.mem_filter.2 ⟨hx, by simpa using alike_key ha⟩
  rw [e] at this
  cases this
end
end Go.Proofs.Ytigdkflknhdbgaa
/- Layer 13, plain: a version put in, a key's versions thinned out, a range of keys: by the list of each key. -/
namespace Go.Proofs.Ytigdkflknhdbgaa
open Go.RowKit
set_option linter.unusedVariables false

theorem insA_in (v : Ver) : ∀ (A Q B : List Ver), (∀ x ∈ A, lessV v x = false) → (∀ x ∈ B, lessV v x = true) → insA v (A ++ (Q ++ B)) = A ++ (insA v Q ++ B)
  | [], [], [], _, _ => rfl
  | [], [], x :: B, _, hB => by
    simp only [List.nil_append, insA]
    rw [if_pos (hB x List.mem_cons_self)]
    rfl
  | [], y :: Q, B, hA, hB => by
    have ih := insA_in v [] Q B hA hB
    simp only [List.nil_append] at ih
    simp only [List.nil_append, List.cons_append]
    rw [insA, insA]
    split
    · rfl
    · rw [ih]; rfl
  | x :: A, Q, B, hA, hB => by
    rw [List.cons_append, insA, if_neg (by rw [hA x List.mem_cons_self]; decide), insA_in v A Q B (fun y hy => hA y (List.mem_cons_of_mem _ hy)) hB]
    rfl
section
variable {l : List Skp.It} {Ls : List (List Ver)}
theorem GrpV.ahead (h : GrpV l Ls) {key : ByteArray} {x : Ver} (hx : x ∈ (Ls.take (Skp.atI key l)).flatten) : Op.bytesLess x.key.toList key.toList = true := by
  obtain ⟨i, hi, hxi⟩ := mem_flat.1 hx
  rw [List.length_take] at hi
  rw [List.getElem_take] at hxi
  have h2 : i < l.length := by rw [← h.len]; omega
  rw [h.key i (by omega) h2 x hxi, Skp.key_less h.keys key h2]
  simp; omega
theorem GrpV.behind (h : GrpV l Ls) {key : ByteArray} (hh : Skp.hereI l key = false) {x : Ver} (hx : x ∈ (Ls.drop (Skp.atI key l)).flatten) : Op.bytesLess key.toList x.key.toList = true := by
  obtain ⟨i, hi, hxi⟩ := mem_flat.1 hx
  rw [List.length_drop] at hi
  rw [List.getElem_drop] at hxi
  have h2 : Skp.atI key l + i < l.length := by rw [← h.len]; omega
  rw [h.key _ (by omega) h2 x hxi]
  refine Skp.behind_less h.keys hh ?_
  have := List.getElem_mem (l := l.drop (Skp.atI key l)) (n := i) (by rw [List.length_drop]; omega)
  rw [List.getElem_drop] at this
  exact this
theorem GrpV.behind' (h : GrpV l Ls) {key : ByteArray} (hh : Skp.hereI l key = true) {x : Ver} (hx : x ∈ (Ls.drop (Skp.atI key l + 1)).flatten) : Op.bytesLess key.toList x.key.toList = true := by
  obtain ⟨hl, hk⟩ := Skp.here_lt hh
  obtain ⟨i, hi, hxi⟩ := mem_flat.1 hx
  rw [List.length_drop] at hi
  rw [List.getElem_drop] at hxi
  have h2 : Skp.atI key l + 1 + i < l.length := by rw [← h.len]; omega
  rw [h.key _ (by omega) h2 x hxi]
  have := h.less (show Skp.atI key l < Skp.atI key l + 1 + i by omega) h2
  rw [hk] at this
  exact this
theorem flat_mid (a b : Nat) (q : List Ver) : (Ls.take a ++ [q] ++ Ls.drop b).flatten = (Ls.take a).flatten ++ (q ++ (Ls.drop b).flatten) := by simp [List.flatten_append]
theorem flat_at {a : Nat} (ha : a < Ls.length) : Ls.flatten = (Ls.take a).flatten ++ (Ls[a] ++ (Ls.drop (a + 1)).flatten) := by
  have := flat_mid (Ls := Ls) a (a + 1) Ls[a]
  rw [← this]
  congr 1
  rw [← List.take_succ_eq_append_getElem ha, List.take_append_drop]
theorem flat_cut (a : Nat) : Ls.flatten = (Ls.take a).flatten ++ (Ls.drop a).flatten := by rw [← List.flatten_append, List.take_append_drop]
/-- One key's versions laid anew, or a new key's. -/
theorem GrpV.lay (h : GrpV l Ls) {a b : Nat} (ha : a ≤ l.length) {y : Skp.It} {q : List Ver} (hq : q ≠ []) (hk : ∀ v ∈ q, v.key = y.key) (hl : Skp.AscK (l.take a ++ [y] ++ l.drop b)) (hf : AscV (Ls.take a ++ [q] ++ Ls.drop b).flatten) :
    GrpV (l.take a ++ [y] ++ l.drop b) (Ls.take a ++ [q] ++ Ls.drop b) := by
  have hlen := h.len
  have get : ∀ i : Nat, (Ls.take a ++ [q] ++ Ls.drop b)[i]? = if i < a then Ls[i]? else if i = a then some q else Ls[i - (a + 1) + b]? := Skp.mid_get Ls a q b (by omega)
  have getl : ∀ i : Nat, (l.take a ++ [y] ++ l.drop b)[i]? = if i < a then l[i]? else if i = a then some y else l[i - (a + 1) + b]? := Skp.mid_get l a y b ha
  refine ⟨?_, fun i hi => ?_, fun i hi h2 v hv => ?_, hl, hf⟩
  · simp only [List.length_append, List.length_take, List.length_drop, List.length_singleton]
    omega
  · have e := get i
    rw [List.getElem?_eq_getElem hi] at e
    split at e
    · obtain ⟨h3, h4⟩ := List.getElem?_eq_some_iff.1 e.symm
      rw [← h4]; exact h.some' i h3
    · split at e
      · injection e with e; rw [e]; exact hq
      · obtain ⟨h3, h4⟩ := List.getElem?_eq_some_iff.1 e.symm
        rw [← h4]; exact h.some' _ h3
  · have e := get i
    have e2 := getl i
    rw [List.getElem?_eq_getElem hi] at e
    rw [List.getElem?_eq_getElem h2] at e2
    split at e
    · rename_i h5
      rw [if_pos h5] at e2
      obtain ⟨h3, h4⟩ := List.getElem?_eq_some_iff.1 e.symm
      obtain ⟨h6, h7⟩ := List.getElem?_eq_some_iff.1 e2.symm
      rw [← h7]
      rw [← h4] at hv
      exact h.key i h3 h6 v hv
    · rename_i h5
      rw [if_neg h5] at e2
      split at e
      · rename_i h8
        rw [if_pos h8] at e2
        injection e with e
        injection e2 with e2
        rw [e2]
        rw [e] at hv
        exact hk v hv
      · rename_i h8
        rw [if_neg h8] at e2
        obtain ⟨h3, h4⟩ := List.getElem?_eq_some_iff.1 e.symm
        obtain ⟨h6, h7⟩ := List.getElem?_eq_some_iff.1 e2.symm
        rw [← h7]
        rw [← h4] at hv
        exact h.key _ h3 h6 v hv
theorem putI_here {key : ByteArray} {lv : Int} {t : Skp.Sl} (hh : Skp.hereI l key = true) : (Skp.putI l key lv t).1 = l.take (Skp.atI key l) ++ [⟨key, Skp.levI l (Skp.atI key l), t⟩] ++ l.drop (Skp.atI key l + 1) := by unfold Skp.putI; rw [if_pos hh]
theorem putI_new {key : ByteArray} {lv : Int} {t : Skp.Sl} (hh : Skp.hereI l key = false) : (Skp.putI l key lv t).1 = l.take (Skp.atI key l) ++ [⟨key, Skp.clampI lv, t⟩] ++ l.drop (Skp.atI key l) := by unfold Skp.putI; rw [hh, if_neg (by decide)]
theorem insA_key {v : Ver} {q : List Ver} {k : ByteArray} (hv : v.key = k) (hq : ∀ x ∈ q, x.key = k) : ∀ x ∈ insA v q, x.key = k := fun x hx => by
  rcases (mem_insA v x q).1 hx with rfl | h
  · exact hv
  · exact hq x h
theorem insA_some (v : Ver) (q : List Ver) : insA v q ≠ [] := fun e => by
  have := insA_len v q
  rw [e] at this
  cases this
/-- A version put in, of a key that is there. -/
theorem GrpV.add_here (h : GrpV l Ls) {v : Ver} (hh : Skp.hereI l v.key = true) (hi : Skp.atI v.key l < Ls.length) (hn : Ls[Skp.atI v.key l].any (alikeV v) = false) (lv : Int) (t : Skp.Sl) :
    GrpV (Skp.putI l v.key lv t).1 (Ls.take (Skp.atI v.key l) ++ [insA v Ls[Skp.atI v.key l]] ++ Ls.drop (Skp.atI v.key l + 1)) ∧ (Ls.take (Skp.atI v.key l) ++ [insA v Ls[Skp.atI v.key l]] ++ Ls.drop (Skp.atI v.key l + 1)).flatten = insA v Ls.flatten := by
  obtain ⟨hl, hk⟩ := Skp.here_lt hh
  have e : (Ls.take (Skp.atI v.key l) ++ [insA v Ls[Skp.atI v.key l]] ++ Ls.drop (Skp.atI v.key l + 1)).flatten = insA v Ls.flatten := by
    rw [flat_mid, flat_at hi, insA_in]
    · exact fun x hx => lessV_asymm (key_lessV (h.ahead hx))
    · exact fun x hx => key_lessV (h.behind' hh hx)
  refine ⟨?_, e⟩
  rw [putI_here hh]
  have ha := Skp.asc_put h.keys v.key lv t
  rw [putI_here hh] at ha
  refine h.lay (by omega) (insA_some _ _) (insA_key rfl fun x hx => (h.key _ hi hl x hx).trans hk) ha ?_
  rw [e]
  obtain ⟨_, e2⟩ := h.any_here hh
  exact asc_insA h.asc (e2.trans hn)
/-- A version put in, of a new key. -/
theorem GrpV.add_new (h : GrpV l Ls) {v : Ver} (hh : Skp.hereI l v.key = false) (lv : Int) (t : Skp.Sl) :
    GrpV (Skp.putI l v.key lv t).1 (Ls.take (Skp.atI v.key l) ++ [[v]] ++ Ls.drop (Skp.atI v.key l)) ∧ (Ls.take (Skp.atI v.key l) ++ [[v]] ++ Ls.drop (Skp.atI v.key l)).flatten = insA v Ls.flatten := by
  have e : (Ls.take (Skp.atI v.key l) ++ [[v]] ++ Ls.drop (Skp.atI v.key l)).flatten = insA v Ls.flatten := by
    rw [flat_mid, flat_cut (Ls := Ls) (Skp.atI v.key l)]
    have := insA_in v (Ls.take (Skp.atI v.key l)).flatten [] (Ls.drop (Skp.atI v.key l)).flatten (fun x hx => lessV_asymm (key_lessV (h.ahead hx))) (fun x hx => key_lessV (h.behind hh hx))
    simp only [List.nil_append, insA] at this
    exact this.symm
  refine ⟨?_, e⟩
  rw [putI_new hh]
  have ha := Skp.asc_put h.keys v.key lv t
  rw [putI_new hh] at ha
  refine h.lay (Skp.at_le _ _) (by simp) (fun x hx => by rw [List.mem_singleton.1 hx]) ha ?_
  rw [e]
  exact asc_insA h.asc (h.any_none hh)
/-- The versions of the keys from one on, up to another one. -/
theorem GrpV.range (h : GrpV l Ls) (fr tt : ByteArray) : Ls.flatten.filter (fun v => !Op.bytesLess v.key.toList fr.toList && Op.bytesLess v.key.toList tt.toList) = ((Ls.take (Skp.atI tt l)).drop (Skp.atI fr l)).flatten := by
  have s1 : ((Ls.take (Skp.atI tt l)).drop (Skp.atI fr l)).flatten.Sublist (Ls.take (Skp.atI tt l)).flatten := by
    rw [flat_cut (Ls := Ls.take (Skp.atI tt l)) (Skp.atI fr l)]; exact List.sublist_append_right _ _
  have s2 : (Ls.take (Skp.atI tt l)).flatten.Sublist Ls.flatten := by
    rw [flat_cut (Ls := Ls) (Skp.atI tt l)]; exact List.sublist_append_left _ _
  refine asc_eq (asc_filter h.asc _) (List.Pairwise.sublist (s1.trans s2) h.asc) fun x => ?_
  rw [List.mem_filter, mem_flat, mem_flat]
  constructor
  · rintro ⟨⟨i, h1, h2⟩, h3⟩
    have h4 : i < l.length := by rw [← h.len]; exact h1
    rw [h.key i h1 h4 x h2, Skp.key_less h.keys fr h4, Skp.key_less h.keys tt h4] at h3
    simp only [Bool.and_eq_true, Bool.not_eq_true', decide_eq_false_iff_not, decide_eq_true_eq] at h3
    refine ⟨i - Skp.atI fr l, by rw [List.length_drop, List.length_take]; omega, ?_⟩
    rw [List.getElem_drop, List.getElem_take]
    simpa [show Skp.atI fr l + (i - Skp.atI fr l) = i by omega] using h2
  · rintro ⟨i, h1, h2⟩
    rw [List.length_drop, List.length_take] at h1
    rw [List.getElem_drop, List.getElem_take] at h2
    have h4 : Skp.atI fr l + i < l.length := by rw [← h.len]; omega
    refine ⟨⟨_, by omega, h2⟩, ?_⟩
    rw [h.key _ (by omega) h4 x h2, Skp.key_less h.keys fr h4, Skp.key_less h.keys tt h4]
    simp only [Bool.and_eq_true, Bool.not_eq_true', decide_eq_false_iff_not, decide_eq_true_eq]
    omega
/-- One key's versions thinned out: some stay. -/
theorem GrpV.thin (h : GrpV l Ls) {key : ByteArray} (hh : Skp.hereI l key = true) (hi : Skp.atI key l < Ls.length) (q : Ver → Bool) :
    (Ls.take (Skp.atI key l) ++ [Ls[Skp.atI key l].filter q] ++ Ls.drop (Skp.atI key l + 1)).flatten = Ls.flatten.filter (fun v => q v || decide (v.key ≠ key)) := by
  obtain ⟨hl, hk⟩ := Skp.here_lt hh
  rw [flat_mid, flat_at hi, List.filter_append, List.filter_append]
  have ne : ∀ x : Ver, (Op.bytesLess x.key.toList key.toList = true ∨ Op.bytesLess key.toList x.key.toList = true) → (q x || decide (x.key ≠ key)) = true := fun x hx => by
    have : x.key ≠ key := fun e => by rw [e, Skp.less_irreflK] at hx; simp at hx
    simp [this]
  have e1 : (Ls.take (Skp.atI key l)).flatten.filter (fun v => q v || decide (v.key ≠ key)) = (Ls.take (Skp.atI key l)).flatten := List.filter_eq_self.2 fun x hx => ne x (.inl (h.ahead hx))
  have e2 : (Ls.drop (Skp.atI key l + 1)).flatten.filter (fun v => q v || decide (v.key ≠ key)) = (Ls.drop (Skp.atI key l + 1)).flatten := List.filter_eq_self.2 fun x hx => ne x (.inr (h.behind' hh hx))
  have e3 : Ls[Skp.atI key l].filter (fun v => q v || decide (v.key ≠ key)) = Ls[Skp.atI key l].filter q := List.filter_congr fun x hx => by
    have : x.key = key := (h.key _ hi hl x hx).trans hk
    simp [this]
  rw [e1, e2, e3]
theorem GrpV.keep_some (h : GrpV l Ls) {key : ByteArray} (hh : Skp.hereI l key = true) (hi : Skp.atI key l < Ls.length) (q : Ver → Bool) (hn : Ls[Skp.atI key l].filter q ≠ []) (lv : Int) (t : Skp.Sl) :
    GrpV (Skp.putI l key lv t).1 (Ls.take (Skp.atI key l) ++ [Ls[Skp.atI key l].filter q] ++ Ls.drop (Skp.atI key l + 1)) := by
  obtain ⟨hl, hk⟩ := Skp.here_lt hh
  rw [putI_here hh]
  have ha := Skp.asc_put h.keys key lv t
  rw [putI_here hh] at ha
  refine h.lay (by omega) hn (fun x hx => (h.key _ hi hl x (List.mem_filter.1 hx).1).trans hk) ha ?_
  rw [h.thin hh hi]
  exact asc_filter h.asc _
theorem GrpV.keep_none (h : GrpV l Ls) {key : ByteArray} (hh : Skp.hereI l key = true) (hi : Skp.atI key l < Ls.length) (q : Ver → Bool) (hn : Ls[Skp.atI key l].filter q = []) :
    GrpV (Skp.dropI l key).1 (Ls.take (Skp.atI key l) ++ Ls.drop (Skp.atI key l + 1)) ∧ (Ls.take (Skp.atI key l) ++ Ls.drop (Skp.atI key l + 1)).flatten = Ls.flatten.filter (fun v => q v || decide (v.key ≠ key)) := by
  obtain ⟨hl, hk⟩ := Skp.here_lt hh
  have hlen := h.len
  have e : (Ls.take (Skp.atI key l) ++ Ls.drop (Skp.atI key l + 1)).flatten = Ls.flatten.filter (fun v => q v || decide (v.key ≠ key)) := by
    rw [← h.thin hh hi, hn]
    simp [List.flatten_append]
  have hd : (Skp.dropI l key).1 = l.take (Skp.atI key l) ++ l.drop (Skp.atI key l + 1) := by unfold Skp.dropI; rw [if_pos hh]
  have ha := Skp.asc_drop h.keys key
  rw [hd] at ha ⊢
  refine ⟨⟨?_, fun i h1 => ?_, fun i h1 h2 v hv => ?_, ha, ?_⟩, e⟩
  · simp only [List.length_append, List.length_take, List.length_drop]
    omega
  · have e2 := Skp.cut_get Ls (Skp.atI key l) (Skp.atI key l + 1) (by omega) i
    rw [List.getElem?_eq_getElem h1] at e2
    split at e2
    · obtain ⟨h3, h4⟩ := List.getElem?_eq_some_iff.1 e2.symm
      rw [← h4]; exact h.some' _ h3
    · obtain ⟨h3, h4⟩ := List.getElem?_eq_some_iff.1 e2.symm
      rw [← h4]; exact h.some' _ h3
  · have e2 := Skp.cut_get Ls (Skp.atI key l) (Skp.atI key l + 1) (by omega) i
    have e3 := Skp.cut_get l (Skp.atI key l) (Skp.atI key l + 1) (by omega) i
    rw [List.getElem?_eq_getElem h1] at e2
    rw [List.getElem?_eq_getElem h2] at e3
    split at e2
    · rename_i h5
      rw [if_pos h5] at e3
      obtain ⟨h3, h4⟩ := List.getElem?_eq_some_iff.1 e2.symm
      obtain ⟨h6, h7⟩ := List.getElem?_eq_some_iff.1 e3.symm
      rw [← h7]
      rw [← h4] at hv
      exact h.key _ h3 h6 v hv
    · rename_i h5
      rw [if_neg h5] at e3
      obtain ⟨h3, h4⟩ := List.getElem?_eq_some_iff.1 e2.symm
      obtain ⟨h6, h7⟩ := List.getElem?_eq_some_iff.1 e3.symm
      rw [← h7]
      rw [← h4] at hv
      exact h.key _ h3 h6 v hv
  · rw [e]
    exact asc_filter h.asc _
theorem GrpV.nil : GrpV [] [] := ⟨rfl, fun i h => absurd h (by simp), fun i h => absurd h (by simp), List.Pairwise.nil, List.Pairwise.nil⟩
end
end Go.Proofs.Ytigdkflknhdbgaa
