/- Layer 1: the order is turned round; a cut tuple can be written. -/
import Derived.Test.YtnapadpkfjpklaaOk
import Derived.Test.YtnapadpkfjpklaaOl
import Derived.Test.YtnapadpkfjpklaaOp
namespace Go.Proofs.Ytnapadpkfjpklaa
open Go.RowKit
set_option linter.unusedVariables false

theorem cmpInt_anti (a b : Int) : cmpInt b a = - cmpInt a b := by
  unfold cmpInt
  by_cases h1 : a < b
  · rw [if_neg (by omega), if_pos h1, if_pos h1]; rfl
  · by_cases h2 : b < a
    · rw [if_pos h2, if_neg h1, if_pos h2]
    · rw [if_neg h2, if_neg h1, if_neg h1, if_neg h2]; rfl
theorem cmpStr_anti (a b : List UInt8) : cmpStr b a = - cmpStr a b := by
  by_cases h1 : Op.bytesLess a b = true
  · rw [cmpStr_lt h1, cmpStr_gt h1]; rfl
  · have h1' : Op.bytesLess a b = false := by simpa using h1
    by_cases h2 : a = b
    · subst h2; rw [cmpStr_eq]; rfl
    · have h3 := less_total _ _ h1' h2
      rw [cmpStr_lt h3, cmpStr_gt h3]
theorem cmpPart_anti (p q : PartD) : cmpPart q p = - cmpPart p q := by
  unfold cmpPart
  rcases p with ⟨_ | _, n, s⟩ <;> rcases q with ⟨_ | _, m, t⟩ <;> simp [cmpInt_anti n m, cmpStr_anti s.toList t.toList]
theorem cmpParts_anti : ∀ (l m : List PartD), cmpParts m l = - cmpParts l m
  | [], [] => rfl
  | [], _ :: _ => rfl
  | _ :: _, [] => rfl
  | p :: l, q :: m => by
    unfold cmpParts
    rw [cmpPart_anti p q, cmpParts_anti l m]
    by_cases h : cmpPart p q = 0
    · simp [h]
    · have : ¬ - cmpPart p q = 0 := by omega
      simp [h, this]
theorem cmpStr_bd (a b : List UInt8) : -1 ≤ cmpStr a b ∧ cmpStr a b ≤ 1 := by
  unfold cmpStr; split
  · omega
  · split <;> omega
theorem cmpInt_bd (a b : Int) : -1 ≤ cmpInt a b ∧ cmpInt a b ≤ 1 := by
  unfold cmpInt; split
  · omega
  · split <;> omega
theorem cmpPart_bd (p q : PartD) : -1 ≤ cmpPart p q ∧ cmpPart p q ≤ 1 := by
  unfold cmpPart
  split
  · split
    · exact cmpStr_bd _ _
    · omega
  · split
    · omega
    · exact cmpInt_bd _ _
theorem cmpParts_bd : ∀ (l m : List PartD), -1 ≤ cmpParts l m ∧ cmpParts l m ≤ 1
  | [], [] => by simp [cmpParts]
  | [], _ :: _ => by simp [cmpParts]
  | _ :: _, [] => by simp [cmpParts]
  | p :: l, q :: m => by
    unfold cmpParts
    split
    · exact cmpParts_bd l m
    · exact cmpPart_bd p q

theorem cutP_ok {p : PartD} (h : PartIn p) : PartOk (cutP p) ∧ (cutP p).text.size ≤ 50 := by
  obtain ⟨h1, h2, h3⟩ := h
  unfold cutP
  split
  · refine ⟨⟨h1, h2, ?_⟩, ?_⟩ <;> simp only [ByteArray.size_extract] <;> omega
  · exact ⟨⟨h1, h2, by omega⟩, by omega⟩
theorem cutL_ok {l : List PartD} (h : ∀ p ∈ l, PartIn p) : ∀ p ∈ cutL l, PartOk p := by
  intro p hp
  obtain ⟨q, hq, rfl⟩ := List.mem_map.1 hp
  exact (cutP_ok (h q (List.mem_of_mem_take hq))).1
theorem cutL_text {l : List PartD} (h : ∀ p ∈ l, PartIn p) : ∀ p ∈ cutL l, p.text.size ≤ 50 := by
  intro p hp
  obtain ⟨q, hq, rfl⟩ := List.mem_map.1 hp
  exact (cutP_ok (h q (List.mem_of_mem_take hq))).2
theorem cutL_length (l : List PartD) : (cutL l).length ≤ 6 := by
  unfold cutL; simp; omega
theorem encParts_short {l : List PartD} (h : ∀ p ∈ l, p.text.size ≤ 50) (hl : l.length ≤ 6) : (encParts l).length ≤ 1000 := by
  have key : ∀ l : List PartD, (∀ p ∈ l, p.text.size ≤ 50) → (encParts l).length ≤ 110 * l.length := by
    intro l
    induction l with
    | nil => intro _; simp [encParts]
    | cons p l ih =>
      intro h
      have h1 := ih (fun q hq => h q (by simp [hq]))
      have h2 := h p (by simp)
      have h3 : (encPart p).length ≤ 110 := by
        unfold encPart
        split
        · have := encText_length p.text.data.toList
          have : p.text.data.toList.length = p.text.size := by simp
          simp; omega
        · simp [encNum]
      have e : encParts (p :: l) = encPart p ++ encParts l := by simp [encParts]
      rw [e, List.length_append, List.length_cons]; omega
  have := key l h
  omega
end Go.Proofs.Ytnapadpkfjpklaa
