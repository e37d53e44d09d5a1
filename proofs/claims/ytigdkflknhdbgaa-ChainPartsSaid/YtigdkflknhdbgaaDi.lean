/- Layer 13: what a version more, and versions less, leave of an index's list. -/
import Derived.Test.YtigdkflknhdbgaaDe
import Derived.Test.YtigdkflknhdbgaaDb
import Derived.Test.YtigdkflknhdbgaaCe
namespace Go.Proofs.Ytigdkflknhdbgaa
open Go.RowKit
set_option linter.unusedVariables false

section
variable {n : Nat} {w w2 : World} {S : Nat → Prop} {p : Value} {l : List Skp.It} {Ls : List (List Ver)}
/-- A key's row, and its block. -/
theorem chl_own (h : ChL n w S p l Ls) (key : ByteArray) : OwnVr w 0 (slV (Skp.getI l key)) (Ls.flatten.filter fun v => decide (v.key = key)) ∧ ∀ k, (slV (Skp.getI l key)).ownBlock = some k → S k := by
  obtain ⟨mk, M, h1, rfl, hs, ht, hg, ho, hS⟩ := h
  cases hh : Skp.hereI l key
  · rw [hg.of_none hh]
    unfold Skp.getI
    rw [hh]
    exact ⟨OwnX.nil _ _, fun k hk => by cases hk⟩
  · obtain ⟨hi, e⟩ := hg.of_here hh
    obtain ⟨hl, -⟩ := Skp.here_lt hh
    rw [e]
    unfold Skp.getI
    rw [if_pos hh, List.getElem?_eq_getElem hl]
    exact ⟨ht.at' hl hi, fun k hk => (hS k).2 (.inr ⟨_, _, List.getElem?_eq_getElem hl, hk⟩)⟩
theorem insA_nil (v : Ver) : insA v [] = [v] := rfl
/-- A version more: its key's row, made or turned in place by then, is put. -/
theorem chl_add (h : ChL n w S p l Ls) (hn : n ≤ 100000) (hl : l.length ≤ 1000) (v : Ver) (lv : Int) (hlv : Skp.inK lv) (hno : Ls.flatten.any (alikeV v) = false) (t : Skp.Sl)
    (hsz : w.heap.size ≤ w2.heap.size) (hg : ∀ k, k < w.heap.size → (slV (Skp.getI l v.key)).ownBlock ≠ some k → w2.heap[k]? = w.heap[k]?) (ho : OwnVr w2 0 (slV t) (insA v (Ls.flatten.filter fun x => decide (x.key = v.key))))
    (hS : ∀ k, (slV t).ownBlock = some k → (slV (Skp.getI l v.key)).ownBlock = some k ∨ w.heap.size ≤ k) :
    Calls Try.prog 41 #[p, .string v.key, .int .i64 lv, slV t] w2 fun z w' => (∃ b, z = .returned (.bool b)) ∧ ∃ S' l' Ls', ChL (n + 1) w' S' p l' Ls' ∧ Ls'.flatten = insA v Ls.flatten ∧
      (∀ k, S' k → S k ∨ w.heap.size ≤ k) ∧ Skp.KeptF S w2 w' ∧ (Ls.flatten = [] → Skp.heightI l' = Skp.clampI lv) ∧ ((∃ x ∈ Ls.flatten, x.key = v.key) → Skp.heightI l' = Skp.heightI l) := by
  have hgr := h.grp
  cases hh : Skp.hereI l v.key
  · have e := hgr.of_none hh
    have hg0 : (slV (Skp.getI l v.key)).ownBlock = none := by unfold Skp.getI; rw [hh]; rfl
    rw [hg0] at hg hS
    rw [e] at ho
    have h2 : ChL n w2 S p l Ls := h.stay fun k hk => hg k (h.lt hk) (by simp)
    obtain ⟨g1, g2⟩ := hgr.add_new hh lv t
    refine (chl_put_new h2 hn hl v.key lv hlv t [v] hh ho (fun k hk hs => ?_) g1).mono ?_
    · rcases hS k hk with h3 | h3
      · cases h3
      · have := h.lt hs; omega
    rintro z w' ⟨hz, S', hc, hs, hk⟩
    refine ⟨hz, S', _, _, hc, g2, fun k hk2 => ?_, hk, fun e0 => ?_, fun ⟨x, hx, ex⟩ => ?_⟩
    · rcases hs k hk2 with h3 | h3 | h3
      · exact .inl h3
      · exact .inr (by omega)
      · rcases hS k h3 with h4 | h4
        · cases h4
        · exact .inr h4
    · have : l = [] := List.eq_nil_of_length_eq_zero (by have := hgr.len_part; rw [e0] at this; simpa using this)
      rw [this]
      exact height_first _ _ _
    · have : x ∈ Ls.flatten.filter (fun y => decide (y.key = v.key)) := List.mem_filter.2 ⟨hx, by simpa using ex⟩
      rw [e] at this
      cases this
  · obtain ⟨hi, e⟩ := hgr.of_here hh
    obtain ⟨hi2, e2⟩ := hgr.any_here hh
    rw [e] at ho
    obtain ⟨g1, g2⟩ := hgr.add_here hh hi (by rw [← e2]; exact hno) lv t
    refine (chl_put_turn h hn hl v.key lv hlv t _ hh hsz (fun k hk hne => hg k (h.lt hk) hne) ho hS g1).mono ?_
    rintro z w' ⟨hz, S', hc, hs, hk⟩
    refine ⟨hz, S', _, _, hc.more (Nat.le_succ n), g2, hs, hk, fun e0 => ?_, fun _ => height_here hh lv t⟩
    obtain ⟨hl2, -⟩ := Skp.here_lt hh
    have h0 := hgr.len_part
    rw [e0, List.length_nil] at h0
    omega
end
end Go.Proofs.Ytigdkflknhdbgaa
