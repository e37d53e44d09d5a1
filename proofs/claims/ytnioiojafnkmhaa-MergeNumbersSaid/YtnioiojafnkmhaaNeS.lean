/- Layer 10, the project's: the heap of a merging, what is put and what comes next (texts). -/
import Derived.Test.YtnioiojafnkmhaaNcS
import Derived.Test.YtnioiojafnkmhaaNd
import Derived.Test.YtnioiojafnkmhaaHcS
namespace Go.Proofs.Ytnioiojafnkmhaa
open Go.RowKit
set_option linter.unusedVariables false

section
variable {β : Type} {T : TypeId → Bool} {Kp : Nat → Prop} {B M : Nat} {pool : List (Rst ByteArray)} {J : β → World → Prop}
def StS (Kp : Nat → Prop) (B M : Nat) (pool : List (Rst ByteArray)) (W : World) (xs : List (Rst ByteArray)) : Prop := St strL 105 107 109 cmpS Kp B M pool W xs
def encRS (r : Rst ByteArray) : Value := .iface 107 (.pointer (some ⟨r.at_, 0, none⟩))
/-- What the types of a merging's own cells are: none that a round turns. -/
structure FreeS (T : TypeId → Bool) : Prop where
  m : T 105 = false
  p : T 107 = false
  r : T 109 = false
theorem heap_str (hJ : OwnT T B J) (hT : FreeS T) (s : β) : HeapS (fun W xs => StS Kp B M pool W xs ∧ J s W) (ltR strLt) (.pointer (some ⟨M, 0, none⟩)) encRS (· ∈ pool) where
  less W xs i j hi hj h := less_str hJ s xs i j _ _ (List.getElem?_eq_getElem hi) (List.getElem?_eq_getElem hj) W h.1 h.2
  swap W xs i j hi hj h := swap_str hJ hT.p s xs i j hi hj W h.1 h.2
  size W xs h := len_str s hJ xs W h.1 h.2
  push W xs a ha h hl := push_str hJ hT.p hT.m s xs a ha hl W h.1 h.2
  pop W xs a h := pop_str hJ hT.m s xs a W h.1 h.2

set_option maxHeartbeats 1000000 in
theorem put_str (hJ : OwnT T B J) (hT : FreeS T) (s : β) (xs : List (Rst ByteArray)) (a : Rst ByteArray) (ha : a ∈ pool) (hl : xs.length ≤ 100000) (U : World) (h : StS Kp B M pool U xs) (hs : J s U) (hh : HeapTo (ltR strLt) xs xs.length) :
    Calls Try.prog 58 #[.pointer (some ⟨M, 0, none⟩), .pointer (some ⟨a.at_, 0, none⟩)] U fun e W' => (∃ v, e = .returned v) ∧ ∃ ys, (StS Kp B M pool W' ys ∧ J s W') ∧ ys.Perm (a :: xs) ∧ HeapTo (ltR strLt) ys ys.length := by
  have PU := Lib.hid (heapS_push (heap_str (Kp := Kp) (M := M) (pool := pool) hJ hT s) (ltR_ahead str_ahead) xs a ha U ⟨h, hs⟩ hl hh)
  obtain ⟨-, s1, hb, hr⟩ := St.rests h a ha
  obtain ⟨b, o, c, rfl, -, -, -⟩ := hr.pos
  have p0 := hb.cell 0 (.slice (some ⟨b, o, none⟩) (a.tail.length + 1) c) rfl
  unfold encRS at PU
  clear h hs hh hb hr hJ
  go_enter Try.func58, Try.ntmps58
  go_wp2_with fail
  refine PU.out.mono ?_
  rintro z w1 ⟨⟨v1, rfl⟩, hq⟩
  have Q := Lib.hid hq
  clear hq
  go_wp2_with fail
  refine bodyPost_end (v := .tuple #[]) (results_none rfl _ _ _) rfl ?_
  exact ⟨⟨_, rfl⟩, Q.out⟩

/-- Nothing left: nothing is put. -/
theorem put0_str (n : Nat) (p : Int) (A : Option Addr) (c : Nat) (U : World) (hb : Box U n #[.slice A 0 c, .int .i64 p] 109) :
    Calls Try.prog 58 #[.pointer (some ⟨M, 0, none⟩), .pointer (some ⟨n, 0, none⟩)] U fun e W' => (∃ v, e = .returned v) ∧ W' = U := by
  have p0 := hb.cell 0 (.slice A 0 c) rfl
  clear hb
  go_enter Try.func58, Try.ntmps58
  go_wp2_with fail
  refine bodyPost_end (v := .tuple #[]) (results_none rfl _ _ _) rfl ?_
  exact ⟨⟨_, rfl⟩, rfl⟩

set_option maxHeartbeats 4000000 in
set_option maxRecDepth 100000 in
theorem next_str (hT : FreeS T) (L : List (List ByteArray)) (r : Rst ByteArray) (xs : List (Rst ByteArray)) (hl : xs.length ≤ 99999) (U : World) (h : StS Kp B M (r :: xs) U (r :: xs)) (hh : HeapTo (ltR strLt) (r :: xs) (r :: xs).length) (hR : Rests L (r :: xs)) :
    Calls Try.prog 53 #[.pointer (some ⟨M, 0, none⟩)] U fun e W' => e = .returned (.string r.head) ∧ ∃ ys, StS Kp B M ys W' ys ∧ Tw T B U W' ∧ HeapTo (ltR strLt) ys ys.length ∧ Rests (L.set r.place r.tail) ys ∧ ys.length ≤ xs.length + 1 := by
  have PO := Lib.hid (heapS_pop (heap_str (Kp := Kp) (M := M) (pool := r :: xs) (ownT_tw (T := T) (β := Unit) U) hT ()) (ltR_ahead str_ahead) xs r U ⟨h, Tw.refl _ _ _⟩ (by omega) hh)
  have hta := run_assert (P := Try.prog) Try.underlying107 (.pointer (some ⟨r.at_, 0, none⟩))
  have HR := Lib.hid hR
  have HL := Lib.hid hl
  unfold encRS at PO
  clear h hh hR hl
  obtain ⟨n, p, x, t⟩ := r
  simp only at *
  go_enter Try.func53, Try.ntmps53
  go_wp2_with fail
  refine PO.out.mono ?_
  rintro z w2 ⟨rfl, ys, ⟨hs2, ht2⟩, hp2, hh2⟩
  obtain ⟨hBn, s1, hbr, hrd⟩ := St.rests hs2 _ List.mem_cons_self
  obtain ⟨b, o, c, rfl, hbB, -, e⟩ := hrd.pos
  have q0 := hbr.cell 0 (.slice (some ⟨b, o, none⟩) (t.length + 1) c) rfl
  have g0 := hbr.frozen 0
  have e0 := e 0 (.string x) rfl
  simp only [Nat.add_zero] at e0
  obtain ⟨A2, c2, hcut, hrd2⟩ := hrd.tail (P := Try.prog) (t := 45) (e := 9) Try.underlying45 (fun w => by kernel_rfl)
  have HN := Lib.hid (show ∀ q ∈ ys, q.at_ ≠ n from fun q hq e => ((List.pairwise_cons.1 (HR.out.perm hp2).once).1 q hq).2 e.symm)
  have W3 := Lib.hid (St.retail hs2 (by decide) (by decide) hbr hBn HN.out (.slice A2 t.length c2))
  have T3 := Lib.hid ((ownT_tw (T := T) (B := B) (β := Unit) U).set (s := ()) ht2 hbr hBn hT.r 0 (.slice A2 t.length c2))
  have PM := Lib.hid hp2
  have H2 := Lib.hid hh2
  have RD := Lib.hid (hrd2.set hBn (.slice A2 t.length c2))
  have HBN := Lib.hid hBn
  clear hs2 ht2 hp2 hh2 hbr hrd e hrd2 hbB hBn
  have PC := Lib.hid (show Calls Try.prog 58 #[.pointer (some ⟨M, 0, none⟩), .pointer (some ⟨n, 0, none⟩)] (w2.setCell ⟨n, 0, none⟩ (.slice A2 t.length c2)) fun e w5 => (∃ v, e = .returned v) ∧
      ∃ zs, StS Kp B M zs w5 zs ∧ Tw T B U w5 ∧ HeapTo (ltR strLt) zs zs.length ∧ Rests (L.set p t) zs ∧ zs.length ≤ xs.length + 1 from by
    have hlen : ys.length = xs.length := by simpa using PM.out.length_eq
    have hpm := HR.out.perm PM.out
    cases t with
    | nil =>
      refine (put0_str (M := M) n p A2 c2 _ W3.out.2).mono ?_
      rintro e w5 ⟨he, rfl⟩
      exact ⟨he, ys, W3.out.1, T3.out, H2.out, hpm.last rfl, by omega⟩
    | cons x t =>
      have hst := W3.out.1.more (a := ⟨n, p, x, t⟩) HBN.out ⟨_, W3.out.2, RD.out⟩
      refine (put_str (pool := ⟨n, p, x, t⟩ :: ys) (ownT_tw (T := T) (β := Unit) U) hT () ys ⟨n, p, x, t⟩ List.mem_cons_self (by have := HL.out; omega) _ hst T3.out H2.out).mono ?_
      rintro e w5 ⟨he, zs, ⟨h1, h2⟩, h3, h4⟩
      exact ⟨he, zs, h1.self, h2, h4, (hpm.next rfl).perm h3, by rw [h3.length_eq, List.length_cons]; omega⟩)
  clear RD W3 T3 HN H2 PM HBN
  go_wp2_with fail
  refine PC.out.mono ?_
  rintro z w5 ⟨⟨v5, rfl⟩, zs, hst, htw, hhe, hre, hln⟩
  have R1 := Lib.hid hst
  have R2 := Lib.hid htw
  have R3 := Lib.hid hhe
  have R4 := Lib.hid hre
  have R5 := Lib.hid hln
  clear hst htw hhe hre hln q0 g0 e0
  go_wp2_with fail
  go_ret
  exact ⟨rfl, zs, R1.out, R2.out, R3.out, R4.out, R5.out⟩
end
end Go.Proofs.Ytnioiojafnkmhaa
