/- Layer 13: an index's list and rows, in one: what a thing put into the list, and one dropped, leave of them. -/
import Derived.Test.YtigdkflknhdbgaaCn
import Derived.Test.YtigdkflknhdbgaaKb
import Derived.Test.YtigdkflknhdbgaaKj
import Derived.Test.YtigdkflknhdbgaaKf
namespace Go.Proofs.Ytigdkflknhdbgaa
open Go.RowKit
set_option linter.unusedVariables false
section
variable {w w' : World} {l : List Skp.It} {Ls : List (List Ver)} {M M' : List Skp.Nd}
/-- A row's blocks are not the list's. -/
def OffB (M : List Skp.Nd) (l : List Skp.It) : Prop := ∀ k, Skp.OwnK M k → ¬ ThB l k

theorem ThV.put (h : ThV w l Ls) (hs : OffB M l) {a b : Nat} (ha : a ≤ l.length) (hab : a ≤ b) {y : Skp.It} {q : List Ver} (ho : OwnVr w 0 (slV y.v) q)
    (hn : ∀ k, (slV y.v).ownBlock = some k → ¬ Skp.OwnK M k ∧ ¬ ThB (l.take a ++ l.drop b) k) (hown : ∀ i, Skp.OwnK M' i → Skp.OwnK M i ∨ w.heap.size ≤ i) (hk : Skp.KeptF (Skp.OwnK M) w w') :
    ThV w' (l.take a ++ [y] ++ l.drop b) (Ls.take a ++ [q] ++ Ls.drop b) ∧ OffB M' (l.take a ++ [y] ++ l.drop b) := by
  have h1 := h.lay ha hab ho fun k hk => (hn k hk).2
  have off : OffB M (l.take a ++ [y] ++ l.drop b) := fun k ho ht => by
    rcases ThB.lay ha ht with h2 | h2
    · exact hs k ho h2
    · exact (hn k h2).1 ho
  refine ⟨h1.stay fun k ht => hk.other k (h1.lt ht) fun ho => off k ho ht, fun k ho ht => ?_⟩
  rcases hown k ho with h2 | h2
  · exact off k h2 ht
  · have := h1.lt ht
    omega
theorem ThV.drop (h : ThV w l Ls) (hs : OffB M l) {a b : Nat} (ha : a ≤ l.length) (hab : a ≤ b) (hown : ∀ i, Skp.OwnK M' i → Skp.OwnK M i ∨ w.heap.size ≤ i) (hk : Skp.KeptF (Skp.OwnK M) w w') :
    ThV w' (l.take a ++ l.drop b) (Ls.take a ++ Ls.drop b) ∧ OffB M' (l.take a ++ l.drop b) := by
  have h1 := h.cut ha hab
  have off : OffB M (l.take a ++ l.drop b) := fun k ho ht => by
    obtain ⟨i, x, hx, e, -⟩ := ht.cut ha hab
    exact hs k ho ⟨i, x, hx, e⟩
  refine ⟨h1.stay fun k ht => hk.other k (h1.lt ht) fun ho => off k ho ht, fun k ho ht => ?_⟩
  rcases hown k ho with h2 | h2
  · exact off k h2 ht
  · have := h1.lt ht
    omega

/-- An index's list (its pointer p), each key's row, and its versions r; S: the blocks of these. -/
def ChL (n : Nat) (w : World) (S : Nat → Prop) (p : Value) (l : List Skp.It) (Ls : List (List Ver)) : Prop :=
  ∃ (mk : Nat) (M : List Skp.Nd), mk ≤ n ∧ p = .pointer (some ⟨Skp.bN M 0, 0, none⟩) ∧ Skp.SkM mk w M l ∧ ThV w l Ls ∧ GrpV l Ls ∧ OffB M l ∧ ∀ k, S k ↔ Skp.OwnK M k ∨ ThB l k
theorem own_lt {mk : Nat} (h : Skp.SkM mk w M l) {k : Nat} (hk : Skp.OwnK M k) : k < w.heap.size := by
  obtain ⟨x, hx, rfl⟩ := hk
  obtain ⟨i, hi, e⟩ := List.getElem_of_mem hx
  exact (h.nodes.at' i x (by rw [List.getElem?_eq_getElem hi, e])).lt
theorem ChL.lt {n : Nat} {S : Nat → Prop} {p : Value} (h : ChL n w S p l Ls) {k : Nat} (hk : S k) : k < w.heap.size := by
  obtain ⟨mk, M, -, -, hs, ht, -, -, hS⟩ := h
  rcases (hS k).1 hk with h1 | h1
  · exact own_lt hs h1
  · exact ht.lt h1
theorem ChL.more {n m : Nat} {S : Nat → Prop} {p : Value} (h : ChL n w S p l Ls) (hm : n ≤ m) : ChL m w S p l Ls := by
  obtain ⟨mk, M, h1, h2⟩ := h
  exact ⟨mk, M, Nat.le_trans h1 hm, h2⟩
theorem ChL.stay {n : Nat} {S : Nat → Prop} {p : Value} (h : ChL n w S p l Ls) (hb : ∀ k, S k → w'.heap[k]? = w.heap[k]?) : ChL n w' S p l Ls := by
  obtain ⟨mk, M, h1, h2, hs, ht, hg, ho, hS⟩ := h
  refine ⟨mk, M, h1, h2, ⟨⟨fun i x hi => ?_, hs.nodes.bs⟩, hs.len, hs.head, hs.items, hs.link, hs.levs, hs.asc⟩, ht.stay fun k hk => hb k ((hS k).2 (.inr hk)), hg, ho, hS⟩
  have := hs.nodes.at' i x hi
  exact (hb x.b ((hS _).2 (.inl ⟨x, List.mem_of_getElem? hi, rfl⟩))).trans this
end
end Go.Proofs.Ytigdkflknhdbgaa
/- Layer 13: the list's calls, said of an index's list and rows. -/
namespace Go.Proofs.Ytigdkflknhdbgaa
open Go.RowKit Go.ChangeShapes Go.WideShapes Go.ChangeAt
set_option linter.unusedVariables false
section
variable {n : Nat} {w : World} {S : Nat → Prop} {p : Value} {l : List Skp.It} {Ls : List (List Ver)}
theorem chl_get (h : ChL n w S p l Ls) (key : ByteArray) :
    Calls Try.prog 28 #[p, .string key] w fun z w' => ∃ u, z = .returned (.tuple #[u, .bool (Skp.hereI l key)]) ∧ RdVr w' w'.heap.size u (Ls.flatten.filter fun v => decide (v.key = key)) ∧ u = slV (Skp.getI l key) ∧ Below w.heap.size w w' := by
  obtain ⟨mk, M, h1, rfl, hs, ht, hg, ho, hS⟩ := h
  refine (Skp.p_get mk M l key w hs).mono ?_
  rintro z w' ⟨rfl, hb⟩
  exact ⟨_, rfl, (ht.get hg key).on hb, rfl, hb⟩
theorem chl_height (h : ChL n w S p l Ls) :
    Calls Try.prog 32 #[p] w fun z w' => z = .returned (.int .i64 (Skp.heightI l)) ∧ w' = w := by
  obtain ⟨mk, M, h1, rfl, hs, ht, hg, ho, hS⟩ := h
  exact Skp.p_height mk M l w hs
/-- A key's row is put, in the place of the one that is there. -/
theorem chl_put_here (h : ChL n w S p l Ls) (hn : n ≤ 100000) (hl : l.length ≤ 1000) (key : ByteArray) (lv : Int) (hlv : Skp.inK lv) (t : Skp.Sl) (q : List Ver) (hh : Skp.hereI l key = true)
    (ho : OwnVr w 0 (slV t) q) (hS : ∀ k, (slV t).ownBlock = some k → ¬ S k) (hG : GrpV (Skp.putI l key lv t).1 (Ls.take (Skp.atI key l) ++ [q] ++ Ls.drop (Skp.atI key l + 1))) :
    Calls Try.prog 41 #[p, .string key, .int .i64 lv, slV t] w fun z w' => (∃ b, z = .returned (.bool b)) ∧ ∃ S', ChL n w' S' p (Skp.putI l key lv t).1 (Ls.take (Skp.atI key l) ++ [q] ++ Ls.drop (Skp.atI key l + 1)) ∧
      (∀ k, S' k → S k ∨ w.heap.size ≤ k ∨ (slV t).ownBlock = some k) ∧ Skp.KeptF S w w' := by
  obtain ⟨mk, M, h1, rfl, hs, ht, hg, hof, hSS⟩ := h
  obtain ⟨hl2, -⟩ := Skp.here_lt hh
  refine (Skp.p_put mk M l key lv t w hs (by omega) hl hlv).mono ?_
  rintro z w' ⟨rfl, mk', M', -, hm', hs', hb', hown, hk⟩
  have e := putI_here (l := l) (key := key) (lv := lv) (t := t) hh
  have hoff : ∀ k, (slV t).ownBlock = some k → ¬ Skp.OwnK M k ∧ ¬ ThB (l.take (Skp.atI key l) ++ l.drop (Skp.atI key l + 1)) k := fun k hk => ⟨fun h => hS k hk ((hSS k).2 (.inl h)), fun h => by
    obtain ⟨i, x, hx, e, -⟩ := h.cut (by omega) (by omega)
    exact hS k hk ((hSS k).2 (.inr ⟨i, x, hx, e⟩))⟩
  obtain ⟨ht', hof'⟩ := ht.put hof (a := Skp.atI key l) (b := Skp.atI key l + 1) (by omega) (by omega) (y := ⟨key, Skp.levI l (Skp.atI key l), t⟩) ho hoff hown hk
  rw [← e] at ht' hof'
  refine ⟨⟨_, rfl⟩, fun k => Skp.OwnK M' k ∨ ThB (Skp.putI l key lv t).1 k, ⟨mk', M', by rw [hm' hh]; exact h1, by rw [hb'], hs', ht', hG, hof', fun k => Iff.rfl⟩, fun k hk2 => ?_, ⟨hk.below, fun i hi hns => hk.other i hi fun h => hns ((hSS i).2 (.inl h))⟩⟩
  rcases hk2 with hk2 | hk2
  · rcases hown k hk2 with h3 | h3
    · exact .inl ((hSS k).2 (.inl h3))
    · exact .inr (.inl h3)
  · rw [e] at hk2
    rcases ThB.lay (by omega) hk2 with h3 | h3
    · exact .inl ((hSS k).2 (.inr h3))
    · exact .inr (.inr h3)
/-- A new key's row is put. -/
theorem chl_put_new (h : ChL n w S p l Ls) (hn : n ≤ 100000) (hl : l.length ≤ 1000) (key : ByteArray) (lv : Int) (hlv : Skp.inK lv) (t : Skp.Sl) (q : List Ver) (hh : Skp.hereI l key = false)
    (ho : OwnVr w 0 (slV t) q) (hS : ∀ k, (slV t).ownBlock = some k → ¬ S k) (hG : GrpV (Skp.putI l key lv t).1 (Ls.take (Skp.atI key l) ++ [q] ++ Ls.drop (Skp.atI key l))) :
    Calls Try.prog 41 #[p, .string key, .int .i64 lv, slV t] w fun z w' => (∃ b, z = .returned (.bool b)) ∧ ∃ S', ChL (n + 1) w' S' p (Skp.putI l key lv t).1 (Ls.take (Skp.atI key l) ++ [q] ++ Ls.drop (Skp.atI key l)) ∧
      (∀ k, S' k → S k ∨ w.heap.size ≤ k ∨ (slV t).ownBlock = some k) ∧ Skp.KeptF S w w' := by
  obtain ⟨mk, M, h1, rfl, hs, ht, hg, hof, hSS⟩ := h
  have hl2 := Skp.at_le key l
  refine (Skp.p_put mk M l key lv t w hs (by omega) hl hlv).mono ?_
  rintro z w' ⟨rfl, mk', M', hm', -, hs', hb', hown, hk⟩
  have e := putI_new (l := l) (key := key) (lv := lv) (t := t) hh
  have hoff : ∀ k, (slV t).ownBlock = some k → ¬ Skp.OwnK M k ∧ ¬ ThB (l.take (Skp.atI key l) ++ l.drop (Skp.atI key l)) k := fun k hk => ⟨fun h => hS k hk ((hSS k).2 (.inl h)), fun h => by
    obtain ⟨i, x, hx, e, -⟩ := h.cut (by omega) (by omega)
    exact hS k hk ((hSS k).2 (.inr ⟨i, x, hx, e⟩))⟩
  obtain ⟨ht', hof'⟩ := ht.put hof (a := Skp.atI key l) (b := Skp.atI key l) (by omega) (by omega) (y := ⟨key, Skp.clampI lv, t⟩) ho hoff hown hk
  rw [← e] at ht' hof'
  refine ⟨⟨_, rfl⟩, fun k => Skp.OwnK M' k ∨ ThB (Skp.putI l key lv t).1 k, ⟨mk', M', by omega, by rw [hb'], hs', ht', hG, hof', fun k => Iff.rfl⟩, fun k hk2 => ?_, ⟨hk.below, fun i hi hns => hk.other i hi fun h => hns ((hSS i).2 (.inl h))⟩⟩
  rcases hk2 with hk2 | hk2
  · rcases hown k hk2 with h3 | h3
    · exact .inl ((hSS k).2 (.inl h3))
    · exact .inr (.inl h3)
  · rw [e] at hk2
    rcases ThB.lay (by omega) hk2 with h3 | h3
    · exact .inl ((hSS k).2 (.inr h3))
    · exact .inr (.inr h3)
/-- A key is dropped. -/
theorem chl_drop (h : ChL n w S p l Ls) (hl : l.length ≤ 1000) (key : ByteArray) (hh : Skp.hereI l key = true) (hG : GrpV (Skp.dropI l key).1 (Ls.take (Skp.atI key l) ++ Ls.drop (Skp.atI key l + 1))) :
    Calls Try.prog 54 #[p, .string key] w fun z w' => (∃ b, z = .returned (.bool b)) ∧ ∃ S', ChL n w' S' p (Skp.dropI l key).1 (Ls.take (Skp.atI key l) ++ Ls.drop (Skp.atI key l + 1)) ∧
      (∀ k, S' k → S k ∨ w.heap.size ≤ k) ∧ Skp.KeptF S w w' := by
  obtain ⟨mk, M, h1, rfl, hs, ht, hg, hof, hSS⟩ := h
  obtain ⟨hl2, -⟩ := Skp.here_lt hh
  refine (Skp.p_drop mk M l key w hs hl).mono ?_
  rintro z w' ⟨rfl, M', hs', hb', hown, hk⟩
  have e : (Skp.dropI l key).1 = l.take (Skp.atI key l) ++ l.drop (Skp.atI key l + 1) := by unfold Skp.dropI; rw [if_pos hh]
  obtain ⟨ht', hof'⟩ := ht.drop hof (a := Skp.atI key l) (b := Skp.atI key l + 1) (by omega) (by omega) hown hk
  rw [← e] at ht' hof'
  refine ⟨⟨_, rfl⟩, fun k => Skp.OwnK M' k ∨ ThB (Skp.dropI l key).1 k, ⟨mk, M', h1, by rw [hb'], hs', ht', hG, hof', fun k => Iff.rfl⟩, fun k hk2 => ?_, ⟨hk.below, fun i hi hns => hk.other i hi fun h => hns ((hSS i).2 (.inl h))⟩⟩
  rcases hk2 with hk2 | hk2
  · rcases hown k hk2 with h3 | h3
    · exact .inl ((hSS k).2 (.inl h3))
    · exact .inr h3
  · rw [e] at hk2
    obtain ⟨i, x, hx, e3, -⟩ := hk2.cut (by omega) (by omega)
    exact .inl ((hSS k).2 (.inr ⟨i, x, hx, e3⟩))
/-- A list without things. -/
theorem chl_new (w : World) : Calls Try.prog 43 #[] w fun z w' => ∃ p S, z = .returned p ∧ ChL 0 w' S p [] [] ∧ (∀ i, S i → w.heap.size ≤ i) ∧ Below w.heap.size w w' := by
  refine (Skp.p_new w).mono ?_
  rintro z w' ⟨p, S, rfl, ⟨mk, M, h1, rfl, hs, hS⟩, hb, hbb⟩
  have none' : ∀ k, ¬ ThB [] k := fun k ⟨i, x, hx, _⟩ => by simp at hx
  exact ⟨_, S, rfl, ⟨mk, M, h1, rfl, hs, ThV.nil _, GrpV.nil, fun k _ => none' k, fun k => (hS k).trans ⟨.inl, fun h => h.elim id fun h => absurd h (none' k)⟩⟩, hb, hbb⟩
end
end Go.Proofs.Ytigdkflknhdbgaa
/- Layer 13: a key's row grows in its place, or is made anew, and is then put. -/
namespace Go.Proofs.Ytigdkflknhdbgaa
open Go.RowKit Go.ChangeShapes Go.WideShapes Go.ChangeAt
set_option linter.unusedVariables false
section
variable {n : Nat} {w w1 : World} {S : Nat → Prop} {p : Value} {l : List Skp.It} {Ls : List (List Ver)}
theorem skm_stay {mk : Nat} {M : List Skp.Nd} (hs : Skp.SkM mk w M l) (hb : ∀ k, Skp.OwnK M k → w1.heap[k]? = w.heap[k]?) : Skp.SkM mk w1 M l :=
  ⟨⟨fun i x hi => (hb x.b ⟨x, List.mem_of_getElem? hi, rfl⟩).trans (hs.nodes.at' i x hi), hs.nodes.bs⟩, hs.len, hs.head, hs.items, hs.link, hs.levs, hs.asc⟩
/-- A key's row is put that has been made in w1: in the block of the former one, or in a new one. -/
theorem chl_put_turn (h : ChL n w S p l Ls) (hn : n ≤ 100000) (hl : l.length ≤ 1000) (key : ByteArray) (lv : Int) (hlv : Skp.inK lv) (t : Skp.Sl) (q : List Ver) (hh : Skp.hereI l key = true)
    (hsz : w.heap.size ≤ w1.heap.size) (hb : ∀ k, S k → (slV (Skp.getI l key)).ownBlock ≠ some k → w1.heap[k]? = w.heap[k]?) (ho : OwnVr w1 0 (slV t) q)
    (hS : ∀ k, (slV t).ownBlock = some k → (slV (Skp.getI l key)).ownBlock = some k ∨ w.heap.size ≤ k) (hG : GrpV (Skp.putI l key lv t).1 (Ls.take (Skp.atI key l) ++ [q] ++ Ls.drop (Skp.atI key l + 1))) :
    Calls Try.prog 41 #[p, .string key, .int .i64 lv, slV t] w1 fun z w' => (∃ b, z = .returned (.bool b)) ∧ ∃ S', ChL n w' S' p (Skp.putI l key lv t).1 (Ls.take (Skp.atI key l) ++ [q] ++ Ls.drop (Skp.atI key l + 1)) ∧
      (∀ k, S' k → S k ∨ w.heap.size ≤ k) ∧ Skp.KeptF S w1 w' := by
  obtain ⟨mk, M, h1, rfl, hs, ht, hg, hof, hSS⟩ := h
  obtain ⟨hl2, -⟩ := Skp.here_lt hh
  have hx0 : l[Skp.atI key l]? = some l[Skp.atI key l] := List.getElem?_eq_getElem hl2
  have eg : Skp.getI l key = l[Skp.atI key l].v := by unfold Skp.getI; rw [if_pos hh, hx0]
  rw [eg] at hb hS
  have hoff0 : ∀ k, Skp.OwnK M k → (slV l[Skp.atI key l].v).ownBlock ≠ some k := fun k hk e => hof k hk ⟨_, _, hx0, e⟩
  have hs1 : Skp.SkM mk w1 M l := skm_stay hs fun k hk => hb k ((hSS k).2 (.inl hk)) (hoff0 k hk)
  refine (Skp.p_put mk M l key lv t w1 hs1 (by omega) hl hlv).mono ?_
  rintro z w' ⟨rfl, mk', M', -, hm', hs', hb', hown, hk⟩
  have e := putI_here (l := l) (key := key) (lv := lv) (t := t) hh
  have ht1 := ht.turn (w' := w1) hx0 (y := ⟨key, Skp.levI l (Skp.atI key l), t⟩) ho (fun k hk => by
    obtain ⟨i, x, hx, e, hi⟩ := hk.cut (by omega) (by omega)
    refine hb k ((hSS k).2 (.inr ⟨i, x, hx, e⟩)) fun e0 => ?_
    have := ht.apart i _ x _ k hx hx0 e e0
    omega) hS
  rw [← e] at ht1
  have old : ∀ k, ThB (Skp.putI l key lv t).1 k → ThB l k ∨ w.heap.size ≤ k := fun k hk => by
    rw [e] at hk
    rcases ThB.lay (by omega) hk with h3 | h3
    · exact .inl h3
    · rcases hS k h3 with h4 | h4
      · exact .inl ⟨_, _, hx0, h4⟩
      · exact .inr h4
  have off : OffB M (Skp.putI l key lv t).1 := fun k ho hk => by
    rcases old k hk with h3 | h3
    · exact hof k ho h3
    · have := own_lt hs ho
      omega
  refine ⟨⟨_, rfl⟩, fun k => Skp.OwnK M' k ∨ ThB (Skp.putI l key lv t).1 k, ⟨mk', M', by rw [hm' hh]; exact h1, by rw [hb'], hs', ht1.stay fun k hk2 => hk.other k (ht1.lt hk2) fun ho => off k ho hk2, hG, fun k ho2 hk2 => ?_, fun k => Iff.rfl⟩, fun k hk2 => ?_, ⟨hk.below, fun i hi hns => hk.other i hi fun h => hns ((hSS i).2 (.inl h))⟩⟩
  · rcases hown k ho2 with h3 | h3
    · exact off k h3 hk2
    · have := ht1.lt hk2
      omega
  · rcases hk2 with hk2 | hk2
    · rcases hown k hk2 with h3 | h3
      · exact .inl ((hSS k).2 (.inl h3))
      · exact .inr (by omega)
    · rcases old k hk2 with h3 | h3
      · exact .inl ((hSS k).2 (.inr h3))
      · exact .inr h3
end
end Go.Proofs.Ytigdkflknhdbgaa
