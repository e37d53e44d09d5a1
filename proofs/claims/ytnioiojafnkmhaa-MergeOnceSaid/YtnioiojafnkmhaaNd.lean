/- Layer 10, program-free: the lists handed in; a rest that is turned, and put back. -/
import Derived.Test.YtnioiojafnkmhaaNb
namespace Go.Proofs.Ytnioiojafnkmhaa
open Go.RowKit
set_option linter.unusedVariables false

section
variable {α : Type} (L : Lay α)
/-- v reads as ls: each list that has anything in blocks of Kp. -/
def RdPP (Kp : Nat → Prop) (B : Nat) (w : World) (v : Value) (ls : List (List α)) : Prop :=
  ∃ vs : List Value, vs.length = ls.length ∧ (∃ A c, v = .slice A ls.length c ∧ ls.length ≤ c ∧ c ≤ 9223372036854775807 ∧ (0 < ls.length → ∃ b o, A = some ⟨b, o, none⟩ ∧ b < B ∧ ∀ (k : Nat) (u : Value), vs[k]? = some u → w.cell? ⟨b, o + k, none⟩ = some u)) ∧
    ∀ (i : Nat) (u : Value) (l : List α), vs[i]? = some u → ls[i]? = some l → RdP L Kp B w u l
end
section
variable {α : Type} {L : Lay α} {Kp : Nat → Prop} {B : Nat}
theorem RdPP.of {w : World} {v : Value} {ls : List (List α)} (h : RdXX L w B v ls) : RdPP L (fun k => k < B) B w v ls :=
  let ⟨vs, h1, h2, h3⟩ := h
  ⟨vs, h1, h2, fun i u l hu hl => ⟨h3 i u l hu hl, fun hp k hk => (h3 i u l hu hl).old hp k hk⟩⟩
theorem RdPP.own {w : World} {e1 e : TypeId} {base : Nat} {v : Value} {ls : List (List α)} (h : OwnXX L e1 e w base v ls) : RdPP L (fun k => base ≤ k ∧ k < w.heap.size) w.heap.size w v ls := by
  obtain ⟨vs, h1, h2, h3⟩ := h
  obtain ⟨vs', h4, h5, h6⟩ := OwnXX.rd (e1 := e1) (e := e) (L := L) ⟨vs, h1, h2, h3⟩
  refine ⟨vs, h2, ?_, fun i u l hu hl => ⟨(h3 i u l hu hl).1.rd, fun _ k hk => (h3 i u l hu hl).1.lt k hk⟩⟩
  rcases h1.2 with ⟨rfl, hn⟩ | ⟨g, cap, cur, rfl, hb, hg, hnc, hcm, hcs, htake⟩
  · exact ⟨none, 0, by rw [hn], by omega, by omega, fun hp => by omega⟩
  · refine ⟨_, cap, rfl, by omega, by simpa [maxLen] using hcm, fun hp => ⟨g, 0, rfl, (Array.getElem?_eq_some_iff.1 hg).1, fun k u hu => ?_⟩⟩
    rw [cell_of_row _ _ _ _ _ (0, 0) hg]
    have hkl : k < vs.length := (List.getElem?_eq_some_iff.1 hu).1
    rw [← htake, List.getElem?_take, if_pos (by omega)] at hu
    simpa using hu
theorem RdPP.below {X Y : World} {v : Value} {ls : List (List α)} (h : RdPP L Kp B X v ls) (hb : Below B X Y) : RdPP L Kp B Y v ls := by
  obtain ⟨vs, hl, ⟨A, c, rfl, h1, h2, h3⟩, h4⟩ := h
  refine ⟨vs, hl, ⟨A, c, rfl, h1, h2, fun hp => ?_⟩, fun i u l hu hi => (h4 i u l hu hi).below hb⟩
  obtain ⟨b, o, rfl, hB, hc⟩ := h3 hp
  exact ⟨b, o, rfl, hB, fun k u hu => (hb.cell (p := ⟨b, _, none⟩) hB).trans (hc k u hu)⟩
theorem RdPP.form {w : World} {v : Value} {ls : List (List α)} (h : RdPP L Kp B w v ls) : ∃ A c, v = .slice A ls.length c ∧ ls.length ≤ c ∧ c ≤ 9223372036854775807 := let ⟨_, _, ⟨A, c, e, h1, h2, _⟩, _⟩ := h; ⟨A, c, e, h1, h2⟩
theorem RdPP.more {w : World} {B' : Nat} {v : Value} {ls : List (List α)} (h : RdPP L Kp B w v ls) (hB : B ≤ B') : RdPP L Kp B' w v ls := by
  obtain ⟨vs, hl, ⟨A, c, rfl, h1, h2, h3⟩, h4⟩ := h
  refine ⟨vs, hl, ⟨A, c, rfl, h1, h2, fun hp => ?_⟩, fun i u l hu hi => ⟨(h4 i u l hu hi).1.more hB, (h4 i u l hu hi).2⟩⟩
  obtain ⟨b, o, rfl, hb, hc⟩ := h3 hp
  exact ⟨b, o, rfl, by omega, hc⟩
/-- The slice at i. -/
theorem RdPP.at {w : World} {n c : Nat} {A : Option Addr} {ls : List (List α)} (h : RdPP L Kp B w (.slice A n c) ls) (i : Nat) (hi : i < ls.length) :
    ∃ b o a m, A = some ⟨b, o, none⟩ ∧ b < B ∧ w.cell? ⟨b, o + i, none⟩ = some (.slice a ls[i].length m) ∧ RdP L Kp B w (.slice a ls[i].length m) ls[i] := by
  obtain ⟨vs, hl, ⟨A', c', e, h1, h2, h3⟩, h4⟩ := h
  obtain ⟨b, o, rfl, hb, hc⟩ := h3 (by omega)
  cases e
  have hvi : vs[i]? = some vs[i] := List.getElem?_eq_getElem (by omega)
  have hr := h4 i _ _ hvi (List.getElem?_eq_getElem hi)
  have hr' := hr.1
  obtain ⟨a, m, e, -⟩ := hr'
  exact ⟨b, o, a, m, rfl, hb, (hc i _ hvi).trans (by rw [e]), by rw [← e]; exact hr⟩

variable {tm tp tr : TypeId} {ord : Value} {M : Nat} {pool : List (Rst α)} {W : World} {xs : List (Rst α)}
/-- The rests in the heap alone. -/
theorem St.self (h : St L tm tp tr ord Kp B M pool W xs) : St L tm tp tr ord Kp B M xs W xs := ⟨h.box, h.low, fun r hr => h.rests r (h.sub r hr), fun _ hr => hr⟩
/-- One rest more. -/
theorem St.more (h : St L tm tp tr ord Kp B M xs W xs) {a : Rst α} (ha : B ≤ a.at_) (hr : RestAt L tr Kp B W a.at_ a.place (a.head :: a.tail)) : St L tm tp tr ord Kp B M (a :: xs) W xs :=
  ⟨h.box, h.low, fun r hm => (List.mem_cons.1 hm).elim (fun e => e ▸ ⟨ha, hr⟩) (h.rests r), fun _ hm => List.mem_cons_of_mem _ hm⟩
theorem St.ofPerm {ys : List (Rst α)} (h : St L tm tp tr ord Kp B M pool W xs) (hp : ∀ r ∈ ys, r ∈ pool) : St L tm tp tr ord Kp B M (xs ++ ys) W xs :=
  ⟨h.box, h.low, fun r hm => (List.mem_append.1 hm).elim (fun hm => h.rests r (h.sub r hm)) (fun hm => h.rests r (hp r hm)), fun _ hm => List.mem_append_left _ hm⟩
/-- A rest that stands in the heap no more is turned. -/
theorem St.retail (h : St L tm tp tr ord Kp B M pool W xs) (hm : tr ≠ tm) (hp : tr ≠ tp) {n : Nat} {s : Value} {p : Int} (hb : Box W n #[s, .int .i64 p] tr) (hn : B ≤ n) (hne : ∀ q ∈ xs, q.at_ ≠ n) (s' : Value) :
    St L tm tp tr ord Kp B M xs (W.setCell ⟨n, 0, none⟩ s') xs ∧ Box (W.setCell ⟨n, 0, none⟩ s') n #[s', .int .i64 p] tr := by
  have hblk : ∀ k, k ≠ n → (W.setCell ⟨n, 0, none⟩ s').heap[k]? = W.heap[k]? := fun k hk => Below.heap_setCell W ⟨n, 0, none⟩ _ k hk
  refine ⟨⟨?_, h.low, fun r hr => ?_, fun _ hr => hr⟩, hb.set 0 s'⟩
  · obtain ⟨v, h1, h2⟩ := h.box
    refine ⟨v, (hblk M fun e => ?_).trans h1, OwnX.apart h2 (fun i hi _ => hblk i hi) (fun e => ?_)⟩
    · subst e
      have h4 : some (Obj.cells #[ord, v] tm (0, 0)) = some (.cells #[s, .int .i64 p] tr (0, 0)) := h1.symm.trans hb
      injection h4 with h4
      injection h4 with _ h4
      exact hm h4.symm
    · obtain ⟨cur, hc⟩ := ownX_at h2 _ e
      have h4 : some (Obj.cells cur tp (0, 0)) = some (.cells #[s, .int .i64 p] tr (0, 0)) := hc.symm.trans hb
      injection h4 with h4
      injection h4 with _ h4
      exact hp h4.symm
  · obtain ⟨h1, s1, h2, h3⟩ := h.rests r (h.sub r hr)
    exact ⟨h1, s1, (hblk _ (hne r hr)).trans h2, h3.turn fun k _ hk => hblk k (by omega)⟩
theorem RdP.set {w : World} {v : Value} {l : List α} (h : RdP L Kp B w v l) {n : Nat} (hn : B ≤ n) (u : Value) : RdP L Kp B (w.setCell ⟨n, 0, none⟩ u) v l := h.turn fun k _ hk => Below.heap_setCell w ⟨n, 0, none⟩ _ k (by simp only; omega)
end
end Go.Proofs.Ytnioiojafnkmhaa
