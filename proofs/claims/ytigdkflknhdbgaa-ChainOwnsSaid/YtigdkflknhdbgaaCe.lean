/- Layer 13: what the project's index must answer, as hypotheses (Ch n w S p r h: p is an index with the versions r, of height h, made of the blocks S, in which at most n versions were ever put); what the law asks of it. -/
import Derived.Test.YtigdkflknhdbgaaCb
import Derived.Test.YtigdkflknhdbgaaCc
import Derived.Test.YtigdkflknhdbgaaCd
import Derived.Test.YtigdkflknhdbgaaWq
import Derived.Shelf.Abstract
namespace Go.Proofs.Ytigdkflknhdbgaa
open Go.RowKit Go.Shelf
set_option linter.unusedVariables false

def inK (n : Int) : Prop := -9223372036854775808 ≤ n ∧ n ≤ 9223372036854775807
def clampI (n : Int) : Int := if n < 1 then 1 else if 8 < n then 8 else n
/-- From w to w' nothing has turned but blocks of S, and what is new. -/
structure KeptF (S : Nat → Prop) (w w' : World) : Prop where
  below : Below 0 w w'
  other : ∀ i, i < w.heap.size → ¬ S i → w'.heap[i]? = w.heap[i]?
theorem KeptF.under {S : Nat → Prop} {w w' : World} {B : Nat} (h : KeptF S w w') (hB : B ≤ w.heap.size) (hS : ∀ i, S i → B ≤ i) : Below B w w' :=
  ⟨h.below.os, h.below.tape, h.below.output, h.below.size, fun i hi => h.other i (by omega) fun e => by have := hS i e; omega⟩
theorem KeptF.own {S : Nat → Prop} {w w' : World} (h : KeptF S w w') {α : Type} {L : Lay α} {e : TypeId} {base : Nat} {v : Value} {l : List α} (ho : OwnX L e w base v l) (hs : ∀ k, v.ownBlock = some k → ¬ S k) : OwnX L e w' base v l := by
  refine ⟨ho.1, ?_⟩
  rcases ho.2 with h2 | ⟨g, cap, cur, e1, hg, hc, h3⟩
  · exact .inl h2
  · refine .inr ⟨g, cap, cur, e1, hg, (h.other g (Array.getElem?_eq_some_iff.1 hc).1 (hs g (by rw [e1]; rfl))).trans hc, h3⟩
/-- What a function tells of a version. -/
def AsksV (fa : Nat) (q : Ver → Bool) : Prop := (∀ args w, (callFunc fa args).run Try.prog w = .ok (.enter fa args) w) ∧ ∀ (v : Ver) (W : World), Calls Try.prog fa #[verV v] W fun e W' => e = .returned (.bool (q v)) ∧ Below W.heap.size W W'
structure ChF (Ch : Nat → World → (Nat → Prop) → Value → List Ver → Int → Prop) : Prop where
  lt : ∀ {n : Nat} {w : World} {S : Nat → Prop} {p : Value} {r : List Ver} {h : Int}, Ch n w S p r h → ∀ i, S i → i < w.heap.size
  stay : ∀ {n : Nat} {w w' : World} {S : Nat → Prop} {p : Value} {r : List Ver} {h : Int}, Ch n w S p r h → (∀ i, S i → w'.heap[i]? = w.heap[i]?) → Ch n w' S p r h
  more : ∀ {n m : Nat} {w : World} {S : Nat → Prop} {p : Value} {r : List Ver} {h : Int}, Ch n w S p r h → n ≤ m → Ch m w S p r h
  ptr : ∀ {n : Nat} {w : World} {S : Nat → Prop} {p : Value} {r : List Ver} {h : Int}, Ch n w S p r h → ∃ g, p = .pointer (some ⟨g, 0, none⟩)
  new : ∀ w, Calls Try.prog 20 #[] w fun z w' => ∃ p S, z = .returned p ∧ Ch 0 w' S p [] 0 ∧ (∀ i, S i → w.heap.size ≤ i) ∧ Below w.heap.size w w'
  add : ∀ {n : Nat} (w : World) (S : Nat → Prop) (p : Value) (r : List Ver) (h : Int) (v : Ver) (lv : Int), Ch n w S p r h → n ≤ 100000 → r.length ≤ 1000 → v.key.size ≤ 1000 → inK lv →
    Calls Try.prog 19 #[p, verV v, .int .i64 lv] w fun z w' => z = .returned (.int .i64 (addV r v).2) ∧ ∃ S' h', Ch (n + 1) w' S' p (addV r v).1 h' ∧ (∀ i, S' i → S i ∨ w.heap.size ≤ i) ∧ KeptF S w w' ∧
      (r = [] → (addV r v).2 = 0 → h' = clampI lv) ∧ ((∃ x ∈ r, x.key = v.key) → h' = h)
  all : ∀ {n : Nat} (w : World) (S : Nat → Prop) (p : Value) (r : List Ver) (h : Int), Ch n w S p r h → r.length ≤ 1000 →
    Calls Try.prog 21 #[p] w fun z w' => ∃ v', z = .returned v' ∧ OwnVr w' w.heap.size v' r ∧ Below w.heap.size w w'
  of : ∀ {n : Nat} (w : World) (S : Nat → Prop) (p : Value) (r : List Ver) (h : Int) (key : ByteArray), Ch n w S p r h → r.length ≤ 1000 →
    Calls Try.prog 11 #[p, .string key] w fun z w' => ∃ v', z = .returned v' ∧ OwnVr w' w.heap.size v' (r.filter fun v => decide (v.key = key)) ∧ Below w.heap.size w w'
  range : ∀ {n : Nat} (w : World) (S : Nat → Prop) (p : Value) (r : List Ver) (h : Int) (fr tt : ByteArray), Ch n w S p r h → r.length ≤ 1000 →
    Calls Try.prog 13 #[p, .string fr, .string tt] w fun z w' => ∃ v', z = .returned v' ∧ OwnVr w' w.heap.size v' (r.filter fun v => !Op.bytesLess v.key.toList fr.toList && Op.bytesLess v.key.toList tt.toList) ∧ Below w.heap.size w w'
  keys : ∀ {n : Nat} (w : World) (S : Nat → Prop) (p : Value) (r : List Ver) (h : Int), Ch n w S p r h → r.length ≤ 1000 →
    Calls Try.prog 22 #[p] w fun z w' => ∃ v', z = .returned v' ∧ OwnX strL 9 w' w.heap.size v' (keysV r) ∧ Below w.heap.size w w'
  len : ∀ {n : Nat} (w : World) (S : Nat → Prop) (p : Value) (r : List Ver) (h : Int), Ch n w S p r h → r.length ≤ 1000 →
    Calls Try.prog 27 #[p] w fun z w' => z = .returned (.int .i64 (r.length : Int)) ∧ Below w.heap.size w w'
  keep : ∀ {n : Nat} (w : World) (S : Nat → Prop) (p : Value) (r : List Ver) (h : Int) (fa : Nat) (q : Ver → Bool), Ch n w S p r h → n ≤ 100000 → r.length ≤ 1000 → AsksV fa q →
    Calls Try.prog 16 #[p, .func (.func fa) #[] #[]] w fun z w' => ∃ v' S' h', z = .returned v' ∧ OwnVr w' w.heap.size v' (r.filter fun v => !q v) ∧ Ch n w' S' p (r.filter q) h' ∧ (∀ i, S' i → S i ∨ w.heap.size ≤ i) ∧ (∀ k, v'.ownBlock = some k → ¬ S' k) ∧ KeptF S w w'
section
variable {Ch : Nat → World → (Nat → Prop) → Value → List Ver → Int → Prop}
theorem ChF.on (K : ChF Ch) {n : Nat} {w w' : World} {S : Nat → Prop} {p : Value} {r : List Ver} {h : Int} (hc : Ch n w S p r h) (hb : Below w.heap.size w w') : Ch n w' S p r h := K.stay hc fun i hi => hb.block i (K.lt hc i hi)
set_option maxHeartbeats 4000000 in
theorem law13_like (K : ChF Ch) {n : Nat} (w : World) (S : Nat → Prop) (p va : Value) (r : List Ver) (h : Int) (hc : Ch n w S p r h) (ha : RdVr w w.heap.size va r) (hl : r.length ≤ 1000) :
    Calls Try.prog 9 #[p, va] w fun z w' => z = .returned (.bool true) ∧ Below w.heap.size w w' := by
  have K := Lib.hid K
  have S0 := Lib.hid hc
  have R := Lib.hid ha
  have HL := Lib.hid hl
  obtain ⟨g, rfl⟩ := K.out.ptr hc
  obtain ⟨A, ca, rfl, -⟩ := ha
  have KL := Lib.hid (show (keysV r).length ≤ 100000 from Nat.le_trans (keysV_len r) (by omega))
  have y1 : ((r.length : Int) == (r.length : Int)) = true := by simp
  have y2 : (r.length == r.length) = true := by simp
  clear hc hl
  go_enter Try.func9, Try.ntmps9
  go_wp2_with fail
  refine (K.out.all _ _ _ _ _ S0.out HL.out).mono ?_
  rintro z w1 ⟨v1, rfl, ho1, hb⟩
  have O1 := Lib.hid ho1.rd
  have S0 := Lib.hid (K.out.on S0.out hb)
  have R := Lib.hid (R.out.on hb)
  have G := Lib.hid hb
  obtain ⟨A1, c1, rfl, -⟩ := ho1.rd
  clear ho1 hb
  go_wp2_with fail
  refine (ref6_same _ _ _ _ _ O1.out R.out).mono ?_
  rintro z w2 ⟨b, rfl, hr, hb⟩
  obtain rfl : b = true := hr.2 rfl
  have S0 := Lib.hid (K.out.on S0.out hb)
  have R := Lib.hid (R.out.on hb)
  have G := Lib.hid (G.out.trans (hb.mono G.out.size))
  clear hb hr
  go_wp2_with fail
  refine (K.out.keys _ _ _ _ _ S0.out HL.out).mono ?_
  rintro z w3 ⟨v3, rfl, ho3, hb⟩
  have O3 := Lib.hid ho3.rd
  have S0 := Lib.hid (K.out.on S0.out hb)
  have R := Lib.hid (R.out.on hb)
  have G := Lib.hid (G.out.trans (hb.mono G.out.size))
  obtain ⟨A3, c3, rfl, -⟩ := ho3.rd
  clear ho3 hb
  go_wp2_with fail
  refine (ref13_keys _ _ _ R.out HL.out).mono ?_
  rintro z w4 ⟨v4, rfl, ho4, hb⟩
  have O3 := Lib.hid (O3.out.on hb)
  have O4 := Lib.hid ho4.rd
  have S0 := Lib.hid (K.out.on S0.out hb)
  have G := Lib.hid (G.out.trans (hb.mono G.out.size))
  obtain ⟨A4, c4, rfl, -⟩ := ho4.rd
  clear ho4 hb
  go_wp2_with fail
  refine (ref_sameK _ _ _ _ _ O3.out O4.out KL.out).mono ?_
  rintro z w5 ⟨rfl, hb⟩
  rw [same_iff.2 rfl]
  have S0 := Lib.hid (K.out.on S0.out hb)
  have G := Lib.hid (G.out.trans (hb.mono G.out.size))
  clear hb
  go_wp2_with fail
  refine (K.out.len _ _ _ _ _ S0.out HL.out).mono ?_
  rintro z w6 ⟨rfl, hb⟩
  have G := Lib.hid (G.out.trans (hb.mono G.out.size))
  clear hb
  go_wp2_with fail
  go_ret
  exact ⟨rfl, G.out⟩
end
theorem asks_one : AsksV 35 (fun v => decide (v.e ≤ 1)) := by
  refine ⟨enters_of Try.func35 (by kernel_rfl) rfl, fun v W => ?_⟩
  obtain ⟨kk, bb, ee, ss, ⟨xx, yy⟩, uu, gg⟩ := v
  unfold verV
  go_enter Try.func35, Try.ntmps35
  go_wp2_with fail
  go_ret
  exact ⟨rfl, alloc_below W _⟩
theorem asks_two : AsksV 36 (fun v => decide (v.e ≤ 2)) := by
  refine ⟨enters_of Try.func36 (by kernel_rfl) rfl, fun v W => ?_⟩
  obtain ⟨kk, bb, ee, ss, ⟨xx, yy⟩, uu, gg⟩ := v
  unfold verV
  go_enter Try.func36, Try.ntmps36
  go_wp2_with fail
  go_ret
  exact ⟨rfl, alloc_below W _⟩
theorem asks_three : AsksV 37 (fun v => decide (v.e ≤ 3)) := by
  refine ⟨enters_of Try.func37 (by kernel_rfl) rfl, fun v W => ?_⟩
  obtain ⟨kk, bb, ee, ss, ⟨xx, yy⟩, uu, gg⟩ := v
  unfold verV
  go_enter Try.func37, Try.ntmps37
  go_wp2_with fail
  go_ret
  exact ⟨rfl, alloc_below W _⟩
def epochF (e : Int) : Nat := if e = 1 then 35 else if e = 2 then 36 else 37
theorem asks_epoch {e : Int} (h1 : 1 ≤ e) (h3 : e ≤ 3) : AsksV (epochF e) (fun v => decide (v.e ≤ e)) := by
  have : e = 1 ∨ e = 2 ∨ e = 3 := by omega
  rcases this with rfl | rfl | rfl
  · exact asks_one
  · exact asks_two
  · exact asks_three
theorem law13_epochs (e : Int) (w : World) : Calls Try.prog 17 #[.int .i64 e] w fun z w' => z = .returned (.func (.func (epochF e)) #[] #[]) ∧ w' = w := by
  unfold epochF
  by_cases h1 : e = 1
  · have q1 : (e == 1) = true := by rw [beq_iff_eq]; exact h1
    rw [if_pos h1]
    clear h1
    go_enter Try.func17, Try.ntmps17
    go_wp2_with fail
    go_ret
    exact ⟨rfl, rfl⟩
  · have q1 : (e == 1) = false := by rw [beq_eq_false_iff_ne]; exact h1
    rw [if_neg h1]
    by_cases h2 : e = 2
    · have q2 : (e == 2) = true := by rw [beq_iff_eq]; exact h2
      rw [if_pos h2]
      clear h1 h2
      go_enter Try.func17, Try.ntmps17
      go_wp2_with fail
      go_ret
      exact ⟨rfl, rfl⟩
    · have q2 : (e == 2) = false := by rw [beq_eq_false_iff_ne]; exact h2
      rw [if_neg h2]
      clear h1 h2
      go_enter Try.func17, Try.ntmps17
      go_wp2_with fail
      go_ret
      exact ⟨rfl, rfl⟩
end Go.Proofs.Ytigdkflknhdbgaa
