/- Layer 1: reading (plain): what the document's reading of bytes is. -/
import Derived.Test.YtnapadpkfjpklaaOh
namespace Go.Proofs.Ytnapadpkfjpklaa
open Go.RowKit

/-- A text's bytes: the error, the text, what stands behind it. -/
def rdText : List UInt8 → Int × List UInt8 × List UInt8
  | [] => (3, [], [])
  | c :: r =>
    if c = 0 then
      match r with
      | [] => (3, [], [])
      | d :: r' => if d = 255 then (if (rdText r').1 = 0 then (0, 0 :: (rdText r').2.1, (rdText r').2.2) else rdText r') else if d = 1 then (0, [], r') else (2, [], [])
    else if (rdText r).1 = 0 then (0, c :: (rdText r).2.1, (rdText r).2.2) else rdText r

/-- Bytes in front of what is read. -/
def preText (s : List UInt8) (x : Int × List UInt8 × List UInt8) : Int × List UInt8 × List UInt8 := if x.1 = 0 then (0, s ++ x.2.1, x.2.2) else x
theorem preText_nil (x : Int × List UInt8 × List UInt8) : preText [] x = x := by
  unfold preText; split
  · rename_i h; rw [← h]; rfl
  · rfl
theorem rdText_short : rdText [] = (3, [], []) := by unfold rdText; rfl
theorem rdText_zero : rdText [0] = (3, [], []) := by unfold rdText; rfl
theorem rdText_plain {c : UInt8} (h : c ≠ 0) (s r : List UInt8) : preText s (rdText (c :: r)) = preText (s ++ [c]) (rdText r) := by
  rw [rdText.eq_def (c :: r)]
  simp only [if_neg h]
  unfold preText
  by_cases h0 : (rdText r).1 = 0
  · simp [h0]
  · simp [h0]
theorem rdText_esc (s r : List UInt8) : preText s (rdText (0 :: 255 :: r)) = preText (s ++ [0]) (rdText r) := by
  rw [rdText.eq_def (0 :: 255 :: r)]
  simp only [if_true]
  unfold preText
  by_cases h0 : (rdText r).1 = 0
  · simp [h0]
  · simp [h0]
theorem rdText_end (s r : List UInt8) : preText s (rdText (0 :: 1 :: r)) = (0, s, r) := by
  rw [rdText.eq_def]
  simp [preText]
theorem rdText_bad {d : UInt8} (h1 : d ≠ 255) (h2 : d ≠ 1) (s r : List UInt8) : preText s (rdText (0 :: d :: r)) = (2, [], []) := by
  rw [rdText.eq_def]
  simp [preText, h1, h2]
theorem rdText_err : ∀ (n : Nat) (b : List UInt8), b.length ≤ n → (rdText b).1 ≠ 0 → rdText b = ((rdText b).1, [], []) := by
  intro n
  induction n with
  | zero => intro b hb _; have : b = [] := List.eq_nil_of_length_eq_zero (by omega); subst this; rw [rdText_short]
  | succ n ih =>
    intro b hb h
    cases b with
    | nil => rw [rdText_short]
    | cons c r =>
      simp only [List.length_cons] at hb
      by_cases hc : c = 0
      · subst hc
        cases r with
        | nil => rw [rdText_zero]
        | cons d r =>
          simp only [List.length_cons] at hb
          by_cases h1 : d = 255
          · subst h1
            have e := rdText_esc [] r
            rw [preText_nil] at e
            rw [e] at h ⊢
            unfold preText at h ⊢
            by_cases h0 : (rdText r).1 = 0
            · simp [h0] at h
            · simp only [if_neg h0]; exact ih r (by omega) h0
          · by_cases h2 : d = 1
            · subst h2
              have e := rdText_end [] r
              rw [preText_nil] at e
              rw [e] at h; exact absurd rfl h
            · have e := rdText_bad h1 h2 [] r
              rw [preText_nil] at e
              rw [e]
      · have e := rdText_plain hc [] r
        rw [preText_nil] at e
        rw [e] at h ⊢
        unfold preText at h ⊢
        by_cases h0 : (rdText r).1 = 0
        · simp [h0] at h
        · simp only [if_neg h0]; exact ih r (by omega) h0
/-- What stands behind a text is a part of the bytes. -/
theorem rdText_rest : ∀ (n : Nat) (b : List UInt8), b.length ≤ n → (rdText b).1 = 0 → ∃ k, 2 ≤ k ∧ k ≤ b.length ∧ (rdText b).2.2 = b.drop k ∧ (rdText b).2.1.length + 2 ≤ k := by
  intro n
  induction n with
  | zero => intro b hb h; have : b = [] := List.eq_nil_of_length_eq_zero (by omega); subst this; rw [rdText_short] at h; simp at h
  | succ n ih =>
    intro b hb h
    cases b with
    | nil => rw [rdText_short] at h; simp at h
    | cons c r =>
      simp only [List.length_cons] at hb
      by_cases hc : c = 0
      · subst hc
        cases r with
        | nil => rw [rdText_zero] at h; simp at h
        | cons d r =>
          simp only [List.length_cons] at hb
          by_cases h1 : d = 255
          · subst h1
            have e := rdText_esc [] r
            rw [preText_nil] at e
            rw [e] at h ⊢
            unfold preText at h ⊢
            by_cases h0 : (rdText r).1 = 0
            · obtain ⟨k, a1, a2, a3, a4⟩ := ih r (by omega) h0
              simp only [if_pos h0]
              exact ⟨k + 2, by omega, by simp only [List.length_cons]; omega, by rw [a3]; simp, by simp; omega⟩
            · simp [h0] at h
          · by_cases h2 : d = 1
            · subst h2
              have e := rdText_end [] r
              rw [preText_nil] at e
              rw [e]
              exact ⟨2, by omega, by simp, by simp, by simp⟩
            · have e := rdText_bad h1 h2 [] r
              rw [preText_nil] at e
              rw [e] at h; simp at h
      · have e := rdText_plain hc [] r
        rw [preText_nil] at e
        rw [e] at h ⊢
        unfold preText at h ⊢
        by_cases h0 : (rdText r).1 = 0
        · obtain ⟨k, a1, a2, a3, a4⟩ := ih r (by omega) h0
          simp only [if_pos h0]
          exact ⟨k + 1, by omega, by simp only [List.length_cons]; omega, by rw [a3]; simp, by simp; omega⟩
        · simp [h0] at h

/-- The number of 8 bytes, the highest first. -/
def decNum (l : List UInt8) : Int := (l.foldl (fun n c => 256 * n + c.toNat) 0 : Nat) - 9223372036854775808

/-- A part's bytes: the error, the part, what stands behind it. -/
def rdPart : List UInt8 → Int × PartD × List UInt8
  | [] => (2, ⟨false, 0, ⟨#[]⟩⟩, [])
  | c :: r =>
    if c = 1 then (if r.length < 8 then (3, ⟨false, 0, ⟨#[]⟩⟩, []) else (0, ⟨false, decNum (r.take 8), ⟨#[]⟩⟩, r.drop 8))
    else if c = 2 then ((rdText r).1, ⟨true, 0, ⟨(rdText r).2.1.toArray⟩⟩, (rdText r).2.2)
    else (2, ⟨false, 0, ⟨#[]⟩⟩, [])

def rdAllN : Nat → List UInt8 → Int × List PartD
  | 0, _ => (0, [])
  | n + 1, b =>
    if b = [] then (0, [])
    else if (rdPart b).1 = 0 then (if (rdAllN n (rdPart b).2.2).1 = 0 then (0, (rdPart b).2.1 :: (rdAllN n (rdPart b).2.2).2) else ((rdAllN n (rdPart b).2.2).1, []))
    else ((rdPart b).1, [])
def rdAll (b : List UInt8) : Int × List PartD := rdAllN b.length b

theorem rdPart_rest {b : List UInt8} (h : (rdPart b).1 = 0) : ∃ k, 1 ≤ k ∧ k ≤ b.length ∧ (rdPart b).2.2 = b.drop k := by
  cases b with
  | nil => simp [rdPart] at h
  | cons c r =>
    unfold rdPart at h ⊢
    by_cases h1 : c = 1
    · simp only [if_pos h1] at h ⊢
      by_cases h8 : r.length < 8
      · rw [if_pos h8] at h; simp at h
      · rw [if_neg h8]; exact ⟨9, by omega, by simp; omega, by simp⟩
    · simp only [if_neg h1] at h ⊢
      by_cases h2 : c = 2
      · simp only [if_pos h2] at h ⊢
        obtain ⟨k, a1, a2, a3, _⟩ := rdText_rest r.length r (Nat.le_refl _) h
        exact ⟨k + 1, by omega, by simp; omega, by rw [a3]; simp⟩
      · simp only [if_neg h2] at h; simp at h
theorem rdAllN_eq : ∀ (n m : Nat) (b : List UInt8), b.length ≤ n → b.length ≤ m → rdAllN n b = rdAllN m b := by
  intro n
  induction n with
  | zero =>
    intro m b hn _
    have : b = [] := List.eq_nil_of_length_eq_zero (by omega)
    subst this
    cases m <;> simp [rdAllN]
  | succ n ih =>
    intro m b hn hm
    by_cases hb : b = []
    · subst hb; cases m <;> simp [rdAllN]
    · cases m with
      | zero => exact absurd (List.eq_nil_of_length_eq_zero (by omega)) hb
      | succ m =>
        unfold rdAllN
        rw [if_neg hb, if_neg hb]
        by_cases h0 : (rdPart b).1 = 0
        · obtain ⟨k, a1, a2, a3⟩ := rdPart_rest h0
          have hl : (rdPart b).2.2.length ≤ n ∧ (rdPart b).2.2.length ≤ m := by rw [a3, List.length_drop]; omega
          rw [ih m _ hl.1 hl.2]
        · rw [if_neg h0, if_neg h0]

/-- Parts in front of what is read. -/
def preAll (s : List PartD) (x : Int × List PartD) : Int × List PartD := if x.1 = 0 then (0, s ++ x.2) else (x.1, [])
theorem rdAll_nil (s : List PartD) : preAll s (rdAll []) = (0, s) := by simp [preAll, rdAll, rdAllN]
theorem rdAllN_err : ∀ (n : Nat) (b : List UInt8), (rdAllN n b).1 ≠ 0 → (rdAllN n b).2 = [] := by
  intro n
  induction n with
  | zero => intro b h; exact absurd rfl h
  | succ n ih =>
    intro b h
    unfold rdAllN at h ⊢
    by_cases hb : b = []
    · simp [hb]
    · rw [if_neg hb] at h ⊢
      by_cases h0 : (rdPart b).1 = 0
      · rw [if_pos h0] at h ⊢
        by_cases h1 : (rdAllN n (rdPart b).2.2).1 = 0
        · rw [if_pos h1] at h; exact absurd rfl h
        · rw [if_neg h1]
      · rw [if_neg h0]
theorem preAll_nil (b : List UInt8) : preAll [] (rdAll b) = rdAll b := by
  unfold preAll
  split
  · rename_i h; rw [List.nil_append, ← h]
  · rename_i h
    have := rdAllN_err b.length b h
    unfold rdAll; rw [← this]
theorem rdAll_step {b : List UInt8} (hb : b ≠ []) (s : List PartD) : preAll s (rdAll b) = if (rdPart b).1 = 0 then preAll (s ++ [(rdPart b).2.1]) (rdAll (rdPart b).2.2) else ((rdPart b).1, []) := by
  have hl : 0 < b.length := by cases b with | nil => exact absurd rfl hb | cons _ _ => simp
  unfold rdAll
  obtain ⟨n, hn⟩ : ∃ n, b.length = n + 1 := ⟨b.length - 1, by omega⟩
  rw [hn]
  by_cases h0 : (rdPart b).1 = 0
  · obtain ⟨k, a1, a2, a3⟩ := rdPart_rest h0
    have hle : (rdPart b).2.2.length ≤ n := by rw [a3, List.length_drop]; omega
    rw [if_pos h0, ← rdAllN_eq n _ _ hle (Nat.le_refl _)]
    conv => lhs; unfold rdAllN
    rw [if_neg hb, if_pos h0]
    unfold preAll
    by_cases h1 : (rdAllN n (rdPart b).2.2).1 = 0
    · simp [h1]
    · simp [h1]
  · rw [if_neg h0]
    conv => lhs; unfold rdAllN
    rw [if_neg hb, if_neg h0]
    simp [preAll, h0]
end Go.Proofs.Ytnapadpkfjpklaa
