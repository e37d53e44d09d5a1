/- Layer 6: plain facts on the order of versions. -/
import Derived.Test.YtecomnklofceaaaRR
import Derived.Test.YtecomnklofceaaaOA
namespace Go.Proofs.Ytecomnklofceaaa
open Go.RowKit
set_option linter.unusedVariables false

/-- c tells an order: of each two, and of three. -/
structure Tells {α : Type} (c : α → α → Int) : Prop where
  anti : ∀ a b, c b a = - c a b
  trans : ∀ a b d, c a b ≤ 0 → c b d ≤ 0 → c a d ≤ 0
theorem Tells.refl {α : Type} {c : α → α → Int} (h : Tells c) (a : α) : c a a = 0 := by have := h.anti a a; omega
def lex (x y : Int) : Int := if x ≠ 0 then x else y
theorem Tells.lex {α : Type} {c d : α → α → Int} (h : Tells c) (k : Tells d) : Tells fun a b => lex (c a b) (d a b) := by
  refine ⟨fun a b => ?_, fun a b e h1 h2 => ?_⟩
  · simp only [Go.Proofs.Ytecomnklofceaaa.lex]
    rw [h.anti a b, k.anti a b]
    by_cases h0 : c a b = 0
    · simp [h0]
    · rw [if_pos (by omega), if_pos h0]
  · simp only [Go.Proofs.Ytecomnklofceaaa.lex] at h1 h2 ⊢
    have t1 := h.trans a b e
    have t2 := h.trans b e a
    have t3 := h.trans e a b
    have a1 := h.anti a b
    have a2 := h.anti b e
    have a3 := h.anti a e
    have t4 := k.trans a b e
    split at h1 <;> split at h2 <;> split <;> omega
theorem cmpInt_zero {a b : Int} : Ord.cmpInt a b = 0 ↔ a = b := by
  unfold Ord.cmpInt; split
  · constructor <;> intro h <;> omega
  · split <;> constructor <;> intro h <;> omega
theorem cmpStr_lt' {a b : List UInt8} (h : Op.bytesLess a b = true) : Ord.cmpStr a b = -1 := by simp [Ord.cmpStr, h]
theorem cmpStr_gt' {a b : List UInt8} (h : Op.bytesLess b a = true) : Ord.cmpStr a b = 1 := by
  have h1 := Ord.less_asymm _ _ h
  have h2 : a ≠ b := by rintro rfl; simp [Ord.less_irrefl] at h
  simp [Ord.cmpStr, h1, h2]
theorem cmpStr_eq' (a : List UInt8) : Ord.cmpStr a a = 0 := by simp [Ord.cmpStr, Ord.less_irrefl]
theorem str_three (a b : List UInt8) : (Op.bytesLess a b = true ∧ Ord.cmpStr a b = -1) ∨ (a = b ∧ Ord.cmpStr a b = 0) ∨ (Op.bytesLess b a = true ∧ Ord.cmpStr a b = 1) := by
  by_cases h : Op.bytesLess a b = true
  · exact .inl ⟨h, cmpStr_lt' h⟩
  · by_cases e : a = b
    · subst e; exact .inr (.inl ⟨rfl, cmpStr_eq' a⟩)
    · have := Ord.less_total a b (by simpa using h) e
      exact .inr (.inr ⟨this, cmpStr_gt' this⟩)
theorem cmpStr_zero {a b : List UInt8} : Ord.cmpStr a b = 0 ↔ a = b := by
  rcases str_three a b with ⟨h, e⟩ | ⟨h, e⟩ | ⟨h, e⟩
  · constructor
    · omega
    · rintro rfl; simp [Ord.less_irrefl] at h
  · simp [h, cmpStr_eq']
  · constructor
    · omega
    · rintro rfl; simp [Ord.less_irrefl] at h

def cmpV (a b : Ver) : Int := lex (Ord.cmpStr a.key.toList b.key.toList) (lex (Ord.cmpInt a.b b.b) (lex (Ord.cmpInt a.e b.e) (lex (Ord.cmpInt a.s b.s) (Ord.cmpInt a.sp.1 b.sp.1))))
theorem lex_zero {x y : Int} : lex x y = 0 ↔ x = 0 ∧ y = 0 := by
  unfold lex
  by_cases h : x = 0
  · simp [h]
  · simp [h]
theorem bytes_listR (a b : ByteArray) : (a.toList = b.toList) ↔ a = b := by
  constructor
  · intro e
    rw [ByteArray.toList_eq, ByteArray.toList_eq] at e
    obtain ⟨⟨x⟩⟩ := a
    obtain ⟨⟨y⟩⟩ := b
    simp at e
    subst e
    rfl
  · intro e; rw [e]
theorem cmpV_zero (a b : Ver) : cmpV a b = 0 ↔ a.key = b.key ∧ a.b = b.b ∧ a.e = b.e ∧ a.s = b.s ∧ a.sp.1 = b.sp.1 := by
  unfold cmpV
  rw [lex_zero, lex_zero, lex_zero, lex_zero, cmpStr_zero, cmpInt_zero, cmpInt_zero, cmpInt_zero, cmpInt_zero, bytes_listR]

def lessV (a b : Ver) : Bool := if a.key ≠ b.key then Op.bytesLess a.key.toList b.key.toList else if a.b ≠ b.b then decide (a.b < b.b) else if a.e ≠ b.e then decide (a.e < b.e) else if a.s ≠ b.s then decide (a.s < b.s) else decide (a.sp.1 < b.sp.1)
theorem cmpInt_neg (a b : Int) : Ord.cmpInt a b < 0 ↔ a < b := by unfold Ord.cmpInt; split; simp_all; split <;> simp_all
theorem cmpStr_neg (a b : List UInt8) : Ord.cmpStr a b < 0 ↔ Op.bytesLess a b = true := by
  rcases str_three a b with ⟨h, e⟩ | ⟨h, e⟩ | ⟨h, e⟩
  · simp [h, e]
  · subst h; simp [e, Ord.less_irrefl]
  · simp [e, Ord.less_asymm _ _ h]
theorem lex_neg (x y : Int) : lex x y < 0 ↔ x < 0 ∨ (x = 0 ∧ y < 0) := by
  unfold lex
  by_cases h : x = 0
  · simp [h]
  · simp [h]
theorem lessV_iff (a b : Ver) : lessV a b = decide (cmpV a b < 0) := by
  rw [Bool.eq_iff_iff, decide_eq_true_iff]
  unfold lessV cmpV
  rw [lex_neg, lex_neg, lex_neg, lex_neg, cmpStr_neg, cmpStr_zero, cmpInt_neg, cmpInt_neg, cmpInt_neg, cmpInt_neg, cmpInt_zero, cmpInt_zero, cmpInt_zero, bytes_listR]
  by_cases h0 : a.key = b.key
  · rw [if_neg (fun h => h h0)]
    simp only [h0, Ord.less_irrefl, Bool.false_eq_true, false_or, true_and]
    by_cases h1 : a.b = b.b
    · rw [if_neg (fun h => h h1)]
      simp only [h1, Int.lt_irrefl, false_or, true_and]
      by_cases h2 : a.e = b.e
      · rw [if_neg (fun h => h h2)]
        simp only [h2, Int.lt_irrefl, false_or, true_and]
        by_cases h3 : a.s = b.s
        · rw [if_neg (fun h => h h3)]
          simp [h3]
        · rw [if_pos h3]; simp [h3]
      · rw [if_pos h2]; simp [h2]
    · rw [if_pos h1]; simp [h1]
  · rw [if_pos h0]; simp [h0]
def firstN (l : List Int) : Int := l.foldr lex 0
theorem firstN_five (a b c d e : Int) : firstN [a, b, c, d, e] = lex a (lex b (lex c (lex d e))) := by
  simp only [firstN, List.foldr]
  have : lex e 0 = e := by unfold lex; split <;> omega
  rw [this]
end Go.Proofs.Ytecomnklofceaaa
