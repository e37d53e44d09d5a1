/- Layer 6: plain facts on the order of versions. -/
import Derived.Test.YtmchiebpijnpiaaRc
import Derived.Test.YtmchiebpijnpiaaOA
namespace Go.Proofs.Ytmchiebpijnpiaa
open Go.RowKit
set_option linter.unusedVariables false

/-- c tells an order: of each two, and of three. -/
structure Tells {α : Type} (c : α → α → Int) : Prop where
  anti : ∀ a b, c b a = - c a b
  trans : ∀ a b d, c a b ≤ 0 → c b d ≤ 0 → c a d ≤ 0
theorem Tells.refl {α : Type} {c : α → α → Int} (h : Tells c) (a : α) : c a a = 0 := by have := h.anti a a; omega
def lex (x y : Int) : Int := if x ≠ 0 then x else y
theorem Tells.lex {α : Type} {c d : α → α → Int} (h : Tells c) (k : Tells d) : Tells fun a b => lex (c a b) (d a b) := by
  refine ⟨fun a b => ?_, fun a b e h1 h2 => ?_⟩
  · simp only [Go.Proofs.Ytmchiebpijnpiaa.lex]
    rw [h.anti a b, k.anti a b]
    by_cases h0 : c a b = 0
    · simp [h0]
    · rw [if_pos (by omega), if_pos h0]
  · simp only [Go.Proofs.Ytmchiebpijnpiaa.lex] at h1 h2 ⊢
    have t1 := h.trans a b e
    have t2 := h.trans b e a
    have t3 := h.trans e a b
    have a1 := h.anti a b
    have a2 := h.anti b e
    have a3 := h.anti a e
    have t4 := k.trans a b e
    split at h1 <;> split at h2 <;> split <;> omega
theorem Tells.pull {α β : Type} {c : α → α → Int} (h : Tells c) (f : β → α) : Tells fun a b => c (f a) (f b) := ⟨fun a b => h.anti _ _, fun a b d => h.trans _ _ _⟩
theorem int_tells : Tells Ord.cmpInt := by
  refine ⟨fun a b => ?_, fun a b d => ?_⟩
  · unfold Ord.cmpInt; split <;> split <;> first | rfl | omega
  · unfold Ord.cmpInt; split <;> split <;> split <;> first | omega | (split <;> first | omega | (split <;> omega))
theorem cmpInt_zero {a b : Int} : Ord.cmpInt a b = 0 ↔ a = b := by
  unfold Ord.cmpInt; split
  · constructor <;> intro h <;> omega
  · split <;> constructor <;> intro h <;> omega
theorem less_trans (a b c : List UInt8) (h : Op.bytesLess a b = true) (k : Op.bytesLess b c = true) : Op.bytesLess a c = true := by
  induction a generalizing b c with
  | nil =>
    cases c with
    | nil => cases b <;> simp [Op.bytesLess] at k
    | cons z n => simp [Op.bytesLess]
  | cons x l ih =>
    cases b with
    | nil => simp [Op.bytesLess] at h
    | cons y m =>
      cases c with
      | nil => simp [Op.bytesLess] at k
      | cons z n =>
        simp only [Op.bytesLess, Bool.or_eq_true, decide_eq_true_eq, Bool.and_eq_true, beq_iff_eq] at h k ⊢
        rcases h with h | ⟨rfl, h⟩ <;> rcases k with k | ⟨rfl, k⟩
        · left; rw [UInt8.lt_iff_toNat_lt] at *; omega
        · left; exact h
        · left; exact k
        · right; exact ⟨rfl, ih _ _ h k⟩
theorem cmpStr_lt' {a b : List UInt8} (h : Op.bytesLess a b = true) : Ord.cmpStr a b = -1 := by simp [Ord.cmpStr, h]
theorem cmpStr_gt' {a b : List UInt8} (h : Op.bytesLess b a = true) : Ord.cmpStr a b = 1 := by
  have h1 := Ord.less_asymm _ _ h
  have h2 : a ≠ b := by rintro rfl; simp [Ord.less_irrefl] at h
  simp [Ord.cmpStr, h1, h2]
theorem cmpStr_eq' (a : List UInt8) : Ord.cmpStr a a = 0 := by simp [Ord.cmpStr, Ord.less_irrefl]
theorem str_three (a b : List UInt8) : (Op.bytesLess a b = true ∧ Ord.cmpStr a b = -1) ∨ (a = b ∧ Ord.cmpStr a b = 0) ∨ (Op.bytesLess b a = true ∧ Ord.cmpStr a b = 1) := by
  by_cases h : Op.bytesLess a b = true
  · exact .inl ⟨h, cmpStr_lt' h⟩
  · by_cases e : a = b
    · subst e; exact .inr (.inl ⟨rfl, cmpStr_eq' a⟩)
    · have := Ord.less_total a b (by simpa using h) e
      exact .inr (.inr ⟨this, cmpStr_gt' this⟩)
theorem cmpStr_zero {a b : List UInt8} : Ord.cmpStr a b = 0 ↔ a = b := by
  rcases str_three a b with ⟨h, e⟩ | ⟨h, e⟩ | ⟨h, e⟩
  · constructor
    · omega
    · rintro rfl; simp [Ord.less_irrefl] at h
  · simp [h, cmpStr_eq']
  · constructor
    · omega
    · rintro rfl; simp [Ord.less_irrefl] at h
theorem str_tells : Tells Ord.cmpStr := by
  refine ⟨fun a b => ?_, fun a b d h k => ?_⟩
  · rcases str_three a b with ⟨h, e⟩ | ⟨h, e⟩ | ⟨h, e⟩
    · rw [e, cmpStr_gt' h]; rfl
    · subst h; rw [e]; rfl
    · rw [e, cmpStr_lt' h]
  · rcases str_three a b with ⟨h1, e1⟩ | ⟨h1, e1⟩ | ⟨h1, e1⟩
    · rcases str_three b d with ⟨h2, e2⟩ | ⟨h2, e2⟩ | ⟨h2, e2⟩
      · rw [cmpStr_lt' (less_trans _ _ _ h1 h2)]; omega
      · subst h2; exact h
      · omega
    · subst h1; exact k
    · omega

def cmpV (a b : Ver) : Int := lex (Ord.cmpStr a.key.toList b.key.toList) (lex (Ord.cmpInt a.b b.b) (lex (Ord.cmpInt a.e b.e) (lex (Ord.cmpInt a.s b.s) (Ord.cmpInt a.sp.1 b.sp.1))))
theorem ver_tells : Tells cmpV := (str_tells.pull fun v : Ver => v.key.toList).lex ((int_tells.pull fun v : Ver => v.b).lex ((int_tells.pull fun v : Ver => v.e).lex ((int_tells.pull fun v : Ver => v.s).lex (int_tells.pull fun v : Ver => v.sp.1))))
theorem lex_three {x y : Int} (h : x = -1 ∨ x = 0 ∨ x = 1) (k : y = -1 ∨ y = 0 ∨ y = 1) : lex x y = -1 ∨ lex x y = 0 ∨ lex x y = 1 := by unfold lex; split <;> assumption
theorem int_three (a b : Int) : Ord.cmpInt a b = -1 ∨ Ord.cmpInt a b = 0 ∨ Ord.cmpInt a b = 1 := by unfold Ord.cmpInt; split; simp; split <;> simp
theorem cmpV_three (a b : Ver) : cmpV a b = -1 ∨ cmpV a b = 0 ∨ cmpV a b = 1 := by
  have hs : Ord.cmpStr a.key.toList b.key.toList = -1 ∨ Ord.cmpStr a.key.toList b.key.toList = 0 ∨ Ord.cmpStr a.key.toList b.key.toList = 1 := by
    rcases str_three a.key.toList b.key.toList with ⟨_, e⟩ | ⟨_, e⟩ | ⟨_, e⟩ <;> simp [e]
  exact lex_three hs (lex_three (int_three _ _) (lex_three (int_three _ _) (lex_three (int_three _ _) (int_three _ _))))
theorem lex_zero {x y : Int} : lex x y = 0 ↔ x = 0 ∧ y = 0 := by
  unfold lex
  by_cases h : x = 0
  · simp [h]
  · simp [h]
theorem bytes_listR (a b : ByteArray) : (a.toList = b.toList) ↔ a = b := by
  constructor
  · intro e
    rw [ByteArray.toList_eq, ByteArray.toList_eq] at e
    obtain ⟨⟨x⟩⟩ := a
    obtain ⟨⟨y⟩⟩ := b
    simp at e
    subst e
    rfl
  · intro e; rw [e]
theorem cmpV_zero (a b : Ver) : cmpV a b = 0 ↔ a.key = b.key ∧ a.b = b.b ∧ a.e = b.e ∧ a.s = b.s ∧ a.sp.1 = b.sp.1 := by
  unfold cmpV
  rw [lex_zero, lex_zero, lex_zero, lex_zero, cmpStr_zero, cmpInt_zero, cmpInt_zero, cmpInt_zero, cmpInt_zero, bytes_listR]

def lessV (a b : Ver) : Bool := if a.key ≠ b.key then Op.bytesLess a.key.toList b.key.toList else if a.b ≠ b.b then decide (a.b < b.b) else if a.e ≠ b.e then decide (a.e < b.e) else if a.s ≠ b.s then decide (a.s < b.s) else decide (a.sp.1 < b.sp.1)
theorem cmpInt_neg (a b : Int) : Ord.cmpInt a b < 0 ↔ a < b := by unfold Ord.cmpInt; split; simp_all; split <;> simp_all
theorem cmpStr_neg (a b : List UInt8) : Ord.cmpStr a b < 0 ↔ Op.bytesLess a b = true := by
  rcases str_three a b with ⟨h, e⟩ | ⟨h, e⟩ | ⟨h, e⟩
  · simp [h, e]
  · subst h; simp [e, Ord.less_irrefl]
  · simp [e, Ord.less_asymm _ _ h]
theorem lex_neg (x y : Int) : lex x y < 0 ↔ x < 0 ∨ (x = 0 ∧ y < 0) := by
  unfold lex
  by_cases h : x = 0
  · simp [h]
  · simp [h]
theorem lessV_iff (a b : Ver) : lessV a b = decide (cmpV a b < 0) := by
  rw [Bool.eq_iff_iff, decide_eq_true_iff]
  unfold lessV cmpV
  rw [lex_neg, lex_neg, lex_neg, lex_neg, cmpStr_neg, cmpStr_zero, cmpInt_neg, cmpInt_neg, cmpInt_neg, cmpInt_neg, cmpInt_zero, cmpInt_zero, cmpInt_zero, bytes_listR]
  by_cases h0 : a.key = b.key
  · rw [if_neg (fun h => h h0)]
    simp only [h0, Ord.less_irrefl, Bool.false_eq_true, false_or, true_and]
    by_cases h1 : a.b = b.b
    · rw [if_neg (fun h => h h1)]
      simp only [h1, Int.lt_irrefl, false_or, true_and]
      by_cases h2 : a.e = b.e
      · rw [if_neg (fun h => h h2)]
        simp only [h2, Int.lt_irrefl, false_or, true_and]
        by_cases h3 : a.s = b.s
        · rw [if_neg (fun h => h h3)]
          simp [h3]
        · rw [if_pos h3]; simp [h3]
      · rw [if_pos h2]; simp [h2]
    · rw [if_pos h1]; simp [h1]
  · rw [if_pos h0]; simp [h0]
def firstN (l : List Int) : Int := l.foldr lex 0
theorem firstN_five (a b c d e : Int) : firstN [a, b, c, d, e] = lex a (lex b (lex c (lex d e))) := by
  simp only [firstN, List.foldr]
  have : lex e 0 = e := by unfold lex; split <;> omega
  rw [this]
theorem firstN_skip (l : List Int) (k : Nat) (h : ∀ x ∈ l.take k, x = 0) : firstN l = firstN (l.drop k) := by
  induction l generalizing k with
  | nil => simp
  | cons x l ih =>
    cases k with
    | zero => rfl
    | succ k =>
      have hx : x = 0 := h x (by simp)
      rw [List.drop_succ_cons, ← ih k (fun y hy => h y (by simp [hy]))]
      subst hx
      rfl
end Go.Proofs.Ytmchiebpijnpiaa
