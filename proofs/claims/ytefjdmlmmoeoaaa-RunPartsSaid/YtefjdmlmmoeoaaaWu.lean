/- Layer 9: a run's keys, one by one, and its two parts: plain facts. -/
import Derived.Test.YtefjdmlmmoeoaaaWs
namespace Go.Proofs.Ytefjdmlmmoeoaaa
open Go.RowKit
set_option linter.unusedVariables false

theorem bytesLess_ff {l : List UInt8} (h : (Ord.rdAll l).1 = 0) : Op.bytesLess l [255] = true := by
  cases l with
  | nil => simp [Op.bytesLess]
  | cons c r =>
    have h1 : (Ord.rdPart (c :: r)).1 = 0 := by
      unfold Ord.rdAll at h
      rw [List.length_cons] at h
      unfold Ord.rdAllN at h
      rw [if_neg (by simp)] at h
      by_cases hp : (Ord.rdPart (c :: r)).1 = 0
      · exact hp
      · rw [if_neg hp] at h; exact absurd h hp
    have hc : c = 1 ∨ c = 2 := by
      by_cases h2 : c = 1
      · exact .inl h2
      · by_cases h3 : c = 2
        · exact .inr h3
        · unfold Ord.rdPart at h1
          simp only [if_neg h2, if_neg h3] at h1
          exact absurd h1 (by decide)
    rcases hc with rfl | rfl <;> simp [Op.bytesLess]
theorem key_ff {v : Ver} (h : mayV v = true) : Op.bytesLess v.key.toList (⟨#[255]⟩ : ByteArray).toList = true := by
  have h1 : (Ord.splitOf v.key.data.toList).2.2 = 0 := by
    unfold mayV at h
    simp only [Bool.and_eq_true, decide_eq_true_iff] at h
    exact h.1.1.1.1
  rw [ByteArray.toList_eq, ByteArray.toList_eq]
  refine bytesLess_ff ?_
  unfold Ord.splitOf at h1
  by_cases h2 : (Ord.rdAll v.key.data.toList).1 = 0
  · exact h2
  · rw [if_neg h2] at h1; exact absurd h1 h2
theorem less_empty (l : List UInt8) : Op.bytesLess l (⟨#[]⟩ : ByteArray).toList = false := by
  rw [ByteArray.toList_eq]
  cases l <;> simp [Op.bytesLess]
theorem cmpV_key {a b : Ver} (h : cmpV a b ≤ 0) : kcmp a.key b.key ≤ 0 := by
  unfold kcmp
  unfold cmpV lex at h
  split at h <;> omega
theorem kcmp_eq {a b : ByteArray} (h : kcmp a b ≤ 0) (k : kcmp b a ≤ 0) : a = b := by
  have h1 : kcmp a b = 0 := by have := kcmp_anti a b; omega
  unfold kcmp at h1
  exact (bytes_listR a b).1 (cmpStr_zero.1 h1)
theorem filter_split {p q : Ver → Bool} (h : ∀ a b, p a = true → q b = true → ¬ cmpV b a ≤ 0) : ∀ (l : List Ver), l.Pairwise (fun a b => cmpV a b ≤ 0) → l.filter p ++ l.filter q = l.filter fun v => p v || q v
  | [], _ => rfl
  | x :: l, hp => by
    have hp' := List.pairwise_cons.1 hp
    have ih := filter_split h l hp'.2
    cases px : p x
    · cases qx : q x
      · simp [px, qx, ih]
      · have he : l.filter p = [] := List.filter_eq_nil_iff.2 fun a ha hpa => h a x hpa qx (hp'.1 a ha)
        rw [he, List.nil_append] at ih
        simp [px, qx, he, ih]
    · have qx : q x = false := by
        cases hq : q x with
        | false => rfl
        | true => exact absurd (by rw [cmpV_self]; exact Int.le_refl _) (h x x px hq)
      simp [px, qx, ih]
theorem range_two {l : List Ver} (h : okTo l l.length = true) (hm : ∀ v ∈ l, mayV v = true) (mid : ByteArray) :
    (l.filter fun v => !Op.bytesLess v.key.toList (⟨#[]⟩ : ByteArray).toList && Op.bytesLess v.key.toList mid.toList) ++ (l.filter fun v => !Op.bytesLess v.key.toList mid.toList && Op.bytesLess v.key.toList (⟨#[255]⟩ : ByteArray).toList) = l := by
  rw [filter_split _ l (run_pairwise h)]
  · rw [List.filter_eq_self]
    intro v hv
    rw [less_empty, key_ff (hm v hv)]
    cases Op.bytesLess v.key.toList mid.toList <;> rfl
  · intro a b ha hb hc
    simp only [Bool.and_eq_true, Bool.not_eq_true'] at ha hb
    have h1 := (cmpStr_neg _ _).2 ha.2
    have h2 := (cmpStr_neg _ _).1 (kcmp_lt (cmpV_key hc) (c := mid) h1)
    rw [h2] at hb
    cases hb.1
/-- The versions up to the key of the one ahead of the i-th. -/
def upTo (l : List Ver) (i : Nat) : List Ver := if i = 0 then [] else l.filter fun v => decide (kcmp v.key (l.getD (i - 1) zeroV).key ≤ 0)
theorem upTo_len (l : List Ver) (i : Nat) : (upTo l i).length ≤ l.length := by
  unfold upTo
  split
  · simp
  · exact List.length_filter_le _ _
theorem upTo_same {l : List Ver} {i : Nat} (h0 : 0 < i) (hk : (l.getD i zeroV).key = (l.getD (i - 1) zeroV).key) : upTo l (i + 1) = upTo l i := by
  unfold upTo
  rw [if_neg (by omega), if_neg (by omega), show i + 1 - 1 = i from by omega, hk]
theorem keys_le {l : List Ver} (h : okTo l l.length = true) {i j : Nat} (hij : i ≤ j) (hj : j < l.length) : kcmp (l.getD i zeroV).key (l.getD j zeroV).key ≤ 0 := by
  have h1 := keys_sorted h i (j - i) (by omega)
  rwa [show i + (j - i) = j from by omega] at h1
theorem upTo_next {l : List Ver} (h : okTo l l.length = true) {i : Nat} (hi : i < l.length) (hk : i = 0 ∨ (l.getD i zeroV).key ≠ (l.getD (i - 1) zeroV).key) : upTo l (i + 1) = upTo l i ++ l.filter fun v => decide (v.key = (l.getD i zeroV).key) := by
  unfold upTo
  rw [if_neg (by omega), show i + 1 - 1 = i from by omega]
  by_cases h0 : i = 0
  · rw [if_pos h0, List.nil_append]
    refine List.filter_congr fun v hv => ?_
    obtain ⟨j, hj, rfl⟩ := List.mem_iff_getElem.1 hv
    have h1 := keys_le h (Nat.zero_le j) hj
    rw [getD_at hj] at h1
    rw [h0, decide_eq_decide]
    exact ⟨fun h2 => kcmp_eq h2 h1, fun h2 => by rw [h2, kcmp_self]; exact Int.le_refl _⟩
  · rw [if_neg h0, filter_split _ l (run_pairwise h)]
    · refine List.filter_congr fun v hv => ?_
      obtain ⟨j, hj, rfl⟩ := List.mem_iff_getElem.1 hv
      rw [Bool.eq_iff_iff]
      simp only [Bool.or_eq_true, decide_eq_true_iff]
      constructor
      · intro h2
        rcases Nat.lt_or_ge j i with h3 | h3
        · have h4 := keys_le h (show j ≤ i - 1 from by omega) (by omega)
          rw [getD_at hj] at h4
          exact .inl h4
        · have h4 := keys_le h h3 hj
          rw [getD_at hj] at h4
          exact .inr (kcmp_eq h2 h4)
      · rintro (h2 | h2)
        · exact kcmp_trans h2 (keys_le h (by omega) hi)
        · rw [h2, kcmp_self]; exact Int.le_refl _
    · intro a b ha hb hc
      rw [decide_eq_true_iff] at ha hb
      have h1 := kcmp_trans (cmpV_key hc) ha
      rw [hb] at h1
      exact (hk.resolve_left h0) (kcmp_eq h1 (keys_le h (by omega) hi))
theorem upTo_end {l : List Ver} (h : okTo l l.length = true) : upTo l l.length = l := by
  unfold upTo
  split
  · rename_i h0
    exact (List.eq_nil_of_length_eq_zero h0).symm
  · rw [List.filter_eq_self]
    intro v hv
    obtain ⟨j, hj, rfl⟩ := List.mem_iff_getElem.1 hv
    have h1 := keys_le h (show j ≤ l.length - 1 from by omega) (by omega)
    rw [getD_at hj] at h1
    rw [decide_eq_true_iff]
    exact h1
end Go.Proofs.Ytefjdmlmmoeoaaa
