/- Layer 13, plain: versions in order, whatever is put in; what is taken out and put in again. -/
import Derived.Test.YtigdkflknhdbgaaCa
namespace Go.Proofs.Ytigdkflknhdbgaa.Ord
theorem less_asymm (a b : List UInt8) (h : Op.bytesLess a b = true) : Op.bytesLess b a = false := by
  induction a generalizing b with
  | nil => cases b <;> simp [Op.bytesLess] at h ⊢
  | cons x l ih =>
    cases b with
    | nil => simp [Op.bytesLess] at h
    | cons y m =>
      simp only [Op.bytesLess, Bool.or_eq_true, decide_eq_true_eq, Bool.and_eq_true, beq_iff_eq] at h
      rcases h with h | ⟨rfl, h⟩
      · have h2 : ¬ y < x := fun h3 => by rw [UInt8.lt_iff_toNat_lt] at h h3; omega
        have h3 : y ≠ x := by rintro rfl; rw [UInt8.lt_iff_toNat_lt] at h; omega
        simp [Op.bytesLess, h2, h3]
      · simp [Op.bytesLess, ih m h]
theorem less_total (a b : List UInt8) (h : Op.bytesLess a b = false) (hne : a ≠ b) : Op.bytesLess b a = true := by
  induction a generalizing b with
  | nil => cases b <;> simp [Op.bytesLess] at h hne ⊢
  | cons x l ih =>
    cases b with
    | nil => simp [Op.bytesLess]
    | cons y m =>
      simp only [Op.bytesLess, Bool.or_eq_false_iff, decide_eq_false_iff_not, Bool.and_eq_false_imp, beq_iff_eq] at h
      obtain ⟨h1, h2⟩ := h
      by_cases hxy : x = y
      · subst hxy
        simp [Op.bytesLess, ih m (h2 rfl) (fun e => hne (by rw [e]))]
      · have : y < x := by
          rw [UInt8.lt_iff_toNat_lt] at h1 ⊢
          have : x.toNat ≠ y.toNat := fun e => hxy (UInt8.toNat_inj.1 e)
          omega
        simp [Op.bytesLess, this]
end Go.Proofs.Ytigdkflknhdbgaa.Ord
namespace Go.Proofs.Ytigdkflknhdbgaa
open Go.RowKit
set_option linter.unusedVariables false

theorem Tells.pull {α β : Type} {c : α → α → Int} (h : Tells c) (f : β → α) : Tells fun a b => c (f a) (f b) := ⟨fun a b => h.anti _ _, fun a b d => h.trans _ _ _⟩
theorem int_tells : Tells Ord.cmpInt := by
  refine ⟨fun a b => ?_, fun a b d => ?_⟩
  · unfold Ord.cmpInt; split <;> split <;> first | rfl | omega
  · unfold Ord.cmpInt; split <;> split <;> split <;> first | omega | (split <;> first | omega | (split <;> omega))
theorem cmpInt_zero {a b : Int} : Ord.cmpInt a b = 0 ↔ a = b := by
  unfold Ord.cmpInt; split
  · constructor <;> intro h <;> omega
  · split <;> constructor <;> intro h <;> omega
theorem less_trans (a b c : List UInt8) (h : Op.bytesLess a b = true) (k : Op.bytesLess b c = true) : Op.bytesLess a c = true := by
  induction a generalizing b c with
  | nil =>
    cases c with
    | nil => cases b <;> simp [Op.bytesLess] at k
    | cons z n => simp [Op.bytesLess]
  | cons x l ih =>
    cases b with
    | nil => simp [Op.bytesLess] at h
    | cons y m =>
      cases c with
      | nil => simp [Op.bytesLess] at k
      | cons z n =>
        simp only [Op.bytesLess, Bool.or_eq_true, decide_eq_true_eq, Bool.and_eq_true, beq_iff_eq] at h k ⊢
        rcases h with h | ⟨rfl, h⟩ <;> rcases k with k | ⟨rfl, k⟩
        · left; rw [UInt8.lt_iff_toNat_lt] at *; omega
        · left; exact h
        · left; exact k
        · right; exact ⟨rfl, ih _ _ h k⟩
theorem cmpStr_lt' {a b : List UInt8} (h : Op.bytesLess a b = true) : Ord.cmpStr a b = -1 := by simp [Ord.cmpStr, h]
theorem cmpStr_gt' {a b : List UInt8} (h : Op.bytesLess b a = true) : Ord.cmpStr a b = 1 := by
  have h1 := Ord.less_asymm _ _ h
  have h2 : a ≠ b := by rintro rfl; simp [Ord.less_irrefl] at h
  simp [Ord.cmpStr, h1, h2]
theorem cmpStr_eq' (a : List UInt8) : Ord.cmpStr a a = 0 := by simp [Ord.cmpStr, Ord.less_irrefl]
theorem str_three (a b : List UInt8) : (Op.bytesLess a b = true ∧ Ord.cmpStr a b = -1) ∨ (a = b ∧ Ord.cmpStr a b = 0) ∨ (Op.bytesLess b a = true ∧ Ord.cmpStr a b = 1) := by
  by_cases h : Op.bytesLess a b = true
  · exact .inl ⟨h, cmpStr_lt' h⟩
  · by_cases e : a = b
    · subst e; exact .inr (.inl ⟨rfl, cmpStr_eq' a⟩)
    · have := Ord.less_total a b (by simpa using h) e
      exact .inr (.inr ⟨this, cmpStr_gt' this⟩)
theorem cmpStr_zero {a b : List UInt8} : Ord.cmpStr a b = 0 ↔ a = b := by
  rcases str_three a b with ⟨h, e⟩ | ⟨h, e⟩ | ⟨h, e⟩
  · constructor
    · omega
    · rintro rfl; simp [Ord.less_irrefl] at h
  · simp [h, cmpStr_eq']
  · constructor
    · omega
    · rintro rfl; simp [Ord.less_irrefl] at h
theorem str_tells : Tells Ord.cmpStr := by
  refine ⟨fun a b => ?_, fun a b d h k => ?_⟩
  · rcases str_three a b with ⟨h, e⟩ | ⟨h, e⟩ | ⟨h, e⟩
    · rw [e, cmpStr_gt' h]; rfl
    · subst h; rw [e]; rfl
    · rw [e, cmpStr_lt' h]
  · rcases str_three a b with ⟨h1, e1⟩ | ⟨h1, e1⟩ | ⟨h1, e1⟩
    · rcases str_three b d with ⟨h2, e2⟩ | ⟨h2, e2⟩ | ⟨h2, e2⟩
      · rw [cmpStr_lt' (less_trans _ _ _ h1 h2)]; omega
      · subst h2; exact h
      · omega
    · subst h1; exact k
    · omega
theorem ver_tells : Tells cmpV := (str_tells.pull fun v : Ver => v.key.toList).lex ((int_tells.pull fun v : Ver => v.b).lex ((int_tells.pull fun v : Ver => v.e).lex ((int_tells.pull fun v : Ver => v.s).lex (int_tells.pull fun v : Ver => v.sp.1))))
theorem cmpInt_neg (a b : Int) : Ord.cmpInt a b < 0 ↔ a < b := by unfold Ord.cmpInt; split; simp_all; split <;> simp_all
theorem cmpStr_neg (a b : List UInt8) : Ord.cmpStr a b < 0 ↔ Op.bytesLess a b = true := by
  rcases str_three a b with ⟨h, e⟩ | ⟨h, e⟩ | ⟨h, e⟩
  · simp [h, e]
  · subst h; simp [e, Ord.less_irrefl]
  · simp [e, Ord.less_asymm _ _ h]
theorem lex_neg (x y : Int) : lex x y < 0 ↔ x < 0 ∨ (x = 0 ∧ y < 0) := by
  unfold lex
  by_cases h : x = 0
  · simp [h]
  · simp [h]
theorem lessV_iff (a b : Ver) : lessV a b = decide (cmpV a b < 0) := by
  rw [Bool.eq_iff_iff, decide_eq_true_iff]
  unfold lessV cmpV
  rw [lex_neg, lex_neg, lex_neg, lex_neg, cmpStr_neg, cmpStr_zero, cmpInt_neg, cmpInt_neg, cmpInt_neg, cmpInt_neg, cmpInt_zero, cmpInt_zero, cmpInt_zero, bytes_listR]
  by_cases h0 : a.key = b.key
  · rw [if_neg (fun h => h h0)]
    simp only [h0, Ord.less_irrefl, Bool.false_eq_true, false_or, true_and]
    by_cases h1 : a.b = b.b
    · rw [if_neg (fun h => h h1)]
      simp only [h1, Int.lt_irrefl, false_or, true_and]
      by_cases h2 : a.e = b.e
      · rw [if_neg (fun h => h h2)]
        simp only [h2, Int.lt_irrefl, false_or, true_and]
        by_cases h3 : a.s = b.s
        · rw [if_neg (fun h => h h3)]
          simp [h3]
        · rw [if_pos h3]; simp [h3]
      · rw [if_pos h2]; simp [h2]
    · rw [if_pos h1]; simp [h1]
  · rw [if_pos h0]; simp [h0]
theorem lessV_irrefl (a : Ver) : lessV a a = false := by rw [lessV_iff, ver_tells.refl]; rfl
theorem lessV_trans {a b c : Ver} (h : lessV a b = true) (k : lessV b c = true) : lessV a c = true := by
  rw [lessV_iff, decide_eq_true_iff] at h k ⊢
  have h1 := ver_tells.anti a c
  have h2 := ver_tells.anti b a
  have h3 := ver_tells.anti c b
  have h4 := ver_tells.anti b c
  have h5 := ver_tells.trans a b c (by omega) (by omega)
  rcases Int.lt_or_le (cmpV a c) 0 with h6 | h6
  · exact h6
  · have h7 := ver_tells.trans c a b (by omega) (by omega)
    omega
theorem lessV_asymm {a b : Ver} (h : lessV a b = true) : lessV b a = false := by
  rw [Bool.eq_false_iff]
  intro k
  have := lessV_trans h k
  rw [lessV_irrefl] at this
  cases this
/-- Versions in order, none like another. -/
def AscV (l : List Ver) : Prop := l.Pairwise fun a b => lessV a b = true
theorem mem_insA (v x : Ver) : ∀ l : List Ver, x ∈ insA v l ↔ x = v ∨ x ∈ l
  | [] => by simp [insA]
  | y :: r => by
    rw [insA]
    split
    · simp
    · rw [List.mem_cons, mem_insA v x r, List.mem_cons]
      constructor
      · rintro (h | h | h)
        · exact .inr (.inl h)
        · exact .inl h
        · exact .inr (.inr h)
      · rintro (h | h | h)
        · exact .inr (.inl h)
        · exact .inl h
        · exact .inr (.inr h)
theorem asc_insA {v : Ver} : ∀ {l : List Ver}, AscV l → l.any (alikeV v) = false → AscV (insA v l)
  | [], _, _ => by simp [insA, AscV]
  | y :: r, h, ha => by
    unfold AscV at h ⊢
    rw [List.pairwise_cons] at h
    rw [List.any_cons, Bool.or_eq_false_iff] at ha
    rw [insA]
    split
    · rename_i hv
      rw [List.pairwise_cons, List.pairwise_cons]
      refine ⟨fun x hx => ?_, h.1, h.2⟩
      rcases List.mem_cons.1 hx with rfl | hx
      · exact hv
      · exact lessV_trans hv (h.1 x hx)
    · rename_i hv
      rw [List.pairwise_cons]
      refine ⟨fun x hx => ?_, asc_insA h.2 ha.2⟩
      rcases (mem_insA v x r).1 hx with rfl | hx
      · have h1 := ha.1
        unfold alikeV at h1
        cases hq : lessV y x
        · rw [hq, Bool.eq_false_iff.2 hv] at h1; cases h1
        · rfl
      · exact h.1 x hx
theorem asc_addV {l : List Ver} (h : AscV l) (v : Ver) : AscV (addV l v).1 := by
  unfold addV
  split
  · cases ha : l.any (alikeV v)
    · rw [if_neg (by decide)]
      exact asc_insA h ha
    · rw [if_pos rfl]; exact h
  · exact h
theorem asc_eq : ∀ {a b : List Ver}, AscV a → AscV b → (∀ x, x ∈ a ↔ x ∈ b) → a = b
  | [], [], _, _, _ => rfl
  | [], y :: r, _, _, h => absurd ((h y).2 List.mem_cons_self) (by simp)
  | x :: r, [], _, _, h => absurd ((h x).1 List.mem_cons_self) (by simp)
  | x :: r, y :: q, ha, hb, h => by
    unfold AscV at ha hb
    rw [List.pairwise_cons] at ha hb
    have hxy : x = y := by
      rcases List.mem_cons.1 ((h x).1 List.mem_cons_self) with e | h1
      · exact e
      · rcases List.mem_cons.1 ((h y).2 List.mem_cons_self) with e | h2
        · exact e.symm
        · have := lessV_asymm (hb.1 x h1)
          rw [ha.1 y h2] at this
          cases this
    subst hxy
    refine congrArg _ (asc_eq ha.2 hb.2 fun z => ?_)
    have hz := h z
    rw [List.mem_cons, List.mem_cons] at hz
    constructor
    · intro h1
      rcases hz.1 (.inr h1) with rfl | h2
      · have := ha.1 z h1; rw [lessV_irrefl] at this; cases this
      · exact h2
    · intro h1
      rcases hz.2 (.inr h1) with rfl | h2
      · have := hb.1 z h1; rw [lessV_irrefl] at this; cases this
      · exact h2
/-- Two of a list in order are alike only if they are one. -/
theorem asc_alike {r : List Ver} (hr : AscV r) {x y : Ver} (hx : x ∈ r) (hy : y ∈ r) (h : alikeV x y = true) : x = y := by
  induction r with
  | nil => cases hx
  | cons z q ih =>
    unfold AscV at hr
    rw [List.pairwise_cons] at hr
    have no : ∀ u ∈ q, alikeV z u = false ∧ alikeV u z = false := fun u hu => by
      have := hr.1 u hu
      unfold alikeV
      rw [this]
      simp
    rcases List.mem_cons.1 hx with e1 | hx2
    · rcases List.mem_cons.1 hy with e2 | hy2
      · rw [e1, e2]
      · rw [e1, (no y hy2).1] at h; cases h
    · rcases List.mem_cons.1 hy with e2 | hy2
      · rw [e2, (no x hx2).2] at h; cases h
      · exact ih hr.2 hx2 hy2
/-- One of a list that is not in a part of it is put into that part. -/
theorem add_part {r l : List Ver} (hr : AscV r) (hl : ∀ x ∈ l, x ∈ r) {v : Ver} (hv : v ∈ r) (hn : v ∉ l) (hm : mayV v = true) : addV l v = (insA v l, 0) := by
  unfold addV
  have : l.any (alikeV v) = false := by
    rw [List.any_eq_false]
    intro x hx h
    have := asc_alike hr hv (hl x hx) (by simpa using h)
    subst this
    exact hn hx
  rw [if_pos hm, this, if_neg (by decide)]
theorem may_addV {l : List Ver} (h : ∀ x ∈ l, mayV x = true) (v : Ver) : ∀ x ∈ (addV l v).1, mayV x = true := by
  unfold addV
  cases hm : mayV v
  · rw [if_neg (by decide)]; exact h
  · rw [if_pos rfl]
    split
    · exact h
    · intro x hx
      rcases (mem_insA v x l).1 hx with rfl | hx
      · exact hm
      · exact h x hx
end Go.Proofs.Ytigdkflknhdbgaa
