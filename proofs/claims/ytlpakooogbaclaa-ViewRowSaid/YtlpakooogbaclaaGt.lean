/- Layer 14, plain: versions of one key, unlike one another: no row of theirs matters; append of one element to a row as long as its bytes allow. -/
import Derived.Test.YtlpakooogbaclaaGs
import Derived.Test.YtlpakooogbaclaaGk
namespace Go.Proofs.Ytlpakooogbaclaa
open Go.RowKit
set_option linter.unusedVariables false

theorem lessV_key {a b : Ver} (hk : a.key = b.key) : lessV a b = true ↔ (a.b < b.b ∨ a.b = b.b ∧ (a.e < b.e ∨ a.e = b.e ∧ (a.s < b.s ∨ a.s = b.s ∧ a.sp.1 < b.sp.1))) := by
  unfold lessV
  rw [if_neg (by rw [hk]; simp)]
  by_cases h1 : a.b = b.b
  · rw [if_neg (by simp [h1])]
    by_cases h2 : a.e = b.e
    · rw [if_neg (by simp [h2])]
      by_cases h3 : a.s = b.s
      · rw [if_neg (by simp [h3]), decide_eq_true_eq]; omega
      · rw [if_pos h3, decide_eq_true_eq]; omega
    · rw [if_pos h2, decide_eq_true_eq]; omega
  · rw [if_pos h1, decide_eq_true_eq]; omega
theorem own_pair {own : List Ver} {k : ByteArray} (h : okTo own own.length = true) (hk : ∀ v ∈ own, v.key = k) : ∀ i j (hi : i < j) (hj : j < own.length), lessV own[i] own[j] = true := by
  intro i j
  induction j with
  | zero => intro hi; omega
  | succ j ih =>
    intro hi hj
    have h1 := okTo_at h hj
    unfold okAt at h1
    simp only [Bool.and_eq_true, Bool.or_eq_true, decide_eq_true_eq, Nat.succ_ne_zero, false_or, Nat.add_sub_cancel] at h1
    have h2 := h1.2
    rw [getD_at (show j < own.length by omega), getD_at hj] at h2
    rcases Nat.eq_or_lt_of_le (Nat.lt_succ_iff.1 hi) with e | e
    · subst e; exact h2
    · have h3 := ih e (by omega)
      have k1 := hk _ (List.getElem_mem (show i < own.length by omega))
      have k2 := hk _ (List.getElem_mem (show j < own.length by omega))
      have k3 := hk _ (List.getElem_mem hj)
      rw [lessV_key (k1.trans k2.symm)] at h3
      rw [lessV_key (k2.trans k3.symm)] at h2
      rw [lessV_key (k1.trans k3.symm)]
      omega
theorem own_row {own : List Ver} {k : ByteArray} (p : List (Int × Int)) (h : okTo own own.length = true) (hk : ∀ v ∈ own, v.key = k) : orderV own p = orderV own.reverse p := by
  refine order_row p (List.reverse_perm own).symm fun a ha b hb hab h1 h2 => ?_
  obtain ⟨i, hi, rfl⟩ := List.getElem_of_mem ha
  obtain ⟨j, hj, rfl⟩ := List.getElem_of_mem hb
  rw [ltS_iff, decide_eq_false_iff_not] at h1 h2
  have k1 := hk _ (List.getElem_mem hi)
  have k2 := hk _ (List.getElem_mem hj)
  rcases Nat.lt_trichotomy i j with e | e | e
  · have := own_pair h hk i j e hj
    rw [lessV_key (k1.trans k2.symm)] at this
    omega
  · subst e; rfl
  · have := own_pair h hk j i e hi
    rw [lessV_key (k2.trans k1.symm)] at this
    omega
/-- What the cut versions of one key have in common. -/
def RowQ (k : ByteArray) (v : Ver) : Prop := v.key = k ∧ OkVer v ∧ v.key.size ≤ 110 ∧ v.val.size ≤ 210
def keyC (k : ByteArray) : ByteArray := if 110 < k.size then k.extract 0 110 else k
theorem row_q {k : ByteArray} {v : Ver} (hk : v.key = k) (h : OkVer v) : RowQ (keyC k) (cutV v) := ⟨by unfold cutV keyC; rw [hk], cut_ok h, cut_size v⟩
theorem ok_own {own : List Ver} {p : List (Int × Int)} {k : ByteArray} (hl : own.length ≤ 12) (hq : ∀ v ∈ own, RowQ k v) (hp : ∀ g ∈ p, inG g.1 ∧ inG g.2) : OkLP own (cutG p) :=
  ⟨by omega, by unfold cutG; rw [List.length_take]; omega, fun v hv => ⟨(hq v hv).2.1, (hq v hv).2.2⟩, fun g hg => hp g (List.mem_of_mem_take hg)⟩
section
variable {α : Type} {L : Lay α} {e : TypeId} {P : Program}
theorem wpl_appXw {w : World} {ops : Array Oper} {rest : List Oper} {o : Oper} {a : Act} {Q : Exit → Act → World → Prop} {t : TypeId} {z : Value} {bytes : Nat} (hgd : o.guard = none) (s x : Operand)
    (ho : o.op = .call { callee := .builtin .append, args := #[s, x], argTypes := #[t, t] })
    (ht : P.underlying t = some (.slice e)) (hinfo : (P.info? e).map (fun i => (i.zero, i.size, i.bytes)) = some (some z, L.sz, bytes)) (hzs : z.cells.size = L.sz)
    (base : Nat) (v : Value) (l r : List α) (cs : Array Value) (m c : Nat) (hcs : cs = (L.all r).toArray) (hs : a.eval s = v) (hx : a.eval x = .slice (some ⟨w.heap.size, 0, none⟩) m c) (hm : m = r.length)
    (hown : OwnX L e w base v l) (hb : base ≤ w.heap.size) (hlen : l.length + r.length ≤ 9223372036854775807) (hby : (l.length + r.length) * bytes ≤ 140737488355328)
    (h : ∀ v' w', OwnX L e w' base v' (l ++ r) → Grew w w' v v' → Below base w w' → wpList P ops Q rest (a.put o.dst v') w') :
    wpList P ops Q (o :: rest) a (w.alloc (.cells cs e)) := by
  subst hcs hm
  refine wpl_appg (W := w.alloc (.cells (L.all r).toArray e)) hgd s x ho ht hinfo hzs L.pos v l.length (L.all l) w.heap.size r.length c (L.all r) hs hx (L.all_length r) (heap_alloc_new w _) (L.all_one r) (World.ownsRow.alloc hown _) hlen hby (by simp; omega) ?_
  intro v' w' hr' hg hsz
  have hgrow : Grew w w' v v' := ⟨⟨hg.grown.os, hg.grown.tape, hg.grown.output, by simp at hsz; omega, fun k hk hn => (hg.grown.block k (by simp; omega) hn).trans (Below.heap_alloc w _ k hk)⟩, hg.own.imp id fun ⟨g, e, hg2⟩ => ⟨g, e, by simp at hg2; omega⟩⟩
  exact h v' w' (by unfold OwnX; rw [List.length_append, L.all_append]; exact hr') hgrow (hgrow.below hb (OwnX.base hown))
end
end Go.Proofs.Ytlpakooogbaclaa
