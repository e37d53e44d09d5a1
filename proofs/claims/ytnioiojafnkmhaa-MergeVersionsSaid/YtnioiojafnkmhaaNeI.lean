/- Layer 10, the project's: the heap of a merging, what is put and what comes next (numbers). -/
import Derived.Test.YtnioiojafnkmhaaNcI
import Derived.Test.YtnioiojafnkmhaaNd
import Derived.Test.YtnioiojafnkmhaaHcI
namespace Go.Proofs.Ytnioiojafnkmhaa
open Go.RowKit
set_option linter.unusedVariables false

section
variable {β : Type} {T : TypeId → Bool} {Kp : Nat → Prop} {B M : Nat} {pool : List (Rst Int)} {J : β → World → Prop}
def StI (Kp : Nat → Prop) (B M : Nat) (pool : List (Rst Int)) (W : World) (xs : List (Rst Int)) : Prop := St intL 98 100 102 cmpI Kp B M pool W xs
def encRI (r : Rst Int) : Value := .iface 100 (.pointer (some ⟨r.at_, 0, none⟩))
/-- What the types of a merging's own cells are: none that a round turns. -/
structure FreeI (T : TypeId → Bool) : Prop where
  m : T 98 = false
  p : T 100 = false
  r : T 102 = false
theorem heap_int (hJ : OwnT T B J) (hT : FreeI T) (s : β) : HeapI (fun W xs => StI Kp B M pool W xs ∧ J s W) (ltR intLt) (.pointer (some ⟨M, 0, none⟩)) encRI (· ∈ pool) where
  less W xs i j hi hj h := less_int hJ s xs i j _ _ (List.getElem?_eq_getElem hi) (List.getElem?_eq_getElem hj) W h.1 h.2
  swap W xs i j hi hj h := swap_int hJ hT.p s xs i j hi hj W h.1 h.2
  size W xs h := len_int s hJ xs W h.1 h.2
  push W xs a ha h hl := push_int hJ hT.p hT.m s xs a ha hl W h.1 h.2
  pop W xs a h := pop_int hJ hT.m s xs a W h.1 h.2

set_option maxHeartbeats 1000000 in
theorem put_int (hJ : OwnT T B J) (hT : FreeI T) (s : β) (xs : List (Rst Int)) (a : Rst Int) (ha : a ∈ pool) (hl : xs.length ≤ 100000) (U : World) (h : StI Kp B M pool U xs) (hs : J s U) (hh : HeapTo (ltR intLt) xs xs.length) :
    Calls Try.prog 57 #[.pointer (some ⟨M, 0, none⟩), .pointer (some ⟨a.at_, 0, none⟩)] U fun e W' => (∃ v, e = .returned v) ∧ ∃ ys, (StI Kp B M pool W' ys ∧ J s W') ∧ ys.Perm (a :: xs) ∧ HeapTo (ltR intLt) ys ys.length := by
  have PU := Lib.hid (heapI_push (heap_int (Kp := Kp) (M := M) (pool := pool) hJ hT s) (ltR_ahead int_ahead) xs a ha U ⟨h, hs⟩ hl hh)
  obtain ⟨-, s1, hb, hr⟩ := St.rests h a ha
  obtain ⟨b, o, c, rfl, -, -, -⟩ := hr.pos
  have p0 := hb.cell 0 (.slice (some ⟨b, o, none⟩) (a.tail.length + 1) c) rfl
  unfold encRI at PU
  clear h hs hh hb hr hJ
  go_enter Try.func57, Try.ntmps57
  go_wp2_with fail
  refine PU.out.mono ?_
  rintro z w1 ⟨⟨v1, rfl⟩, hq⟩
  have Q := Lib.hid hq
  clear hq
  go_wp2_with fail
  refine bodyPost_end (v := .tuple #[]) (results_none rfl _ _ _) rfl ?_
  exact ⟨⟨_, rfl⟩, Q.out⟩

/-- Nothing left: nothing is put. -/
theorem put0_int (n : Nat) (p : Int) (A : Option Addr) (c : Nat) (U : World) (hb : Box U n #[.slice A 0 c, .int .i64 p] 102) :
    Calls Try.prog 57 #[.pointer (some ⟨M, 0, none⟩), .pointer (some ⟨n, 0, none⟩)] U fun e W' => (∃ v, e = .returned v) ∧ W' = U := by
  have p0 := hb.cell 0 (.slice A 0 c) rfl
  clear hb
  go_enter Try.func57, Try.ntmps57
  go_wp2_with fail
  refine bodyPost_end (v := .tuple #[]) (results_none rfl _ _ _) rfl ?_
  exact ⟨⟨_, rfl⟩, rfl⟩

set_option maxHeartbeats 4000000 in
set_option maxRecDepth 100000 in
theorem next_int (hT : FreeI T) (L : List (List Int)) (r : Rst Int) (xs : List (Rst Int)) (hl : xs.length ≤ 99999) (U : World) (h : StI Kp B M (r :: xs) U (r :: xs)) (hh : HeapTo (ltR intLt) (r :: xs) (r :: xs).length) (hR : Rests L (r :: xs)) :
    Calls Try.prog 49 #[.pointer (some ⟨M, 0, none⟩)] U fun e W' => e = .returned (.int .i64 r.head) ∧ ∃ ys, StI Kp B M ys W' ys ∧ Tw T B U W' ∧ HeapTo (ltR intLt) ys ys.length ∧ Rests (L.set r.place r.tail) ys ∧ ys.length ≤ xs.length + 1 := by
  have PO := Lib.hid (heapI_pop (heap_int (Kp := Kp) (M := M) (pool := r :: xs) (ownT_tw (T := T) (β := Unit) U) hT ()) (ltR_ahead int_ahead) xs r U ⟨h, Tw.refl _ _ _⟩ (by omega) hh)
  have hta := run_assert (P := Try.prog) Try.underlying100 (.pointer (some ⟨r.at_, 0, none⟩))
  have HR := Lib.hid hR
  have HL := Lib.hid hl
  unfold encRI at PO
  clear h hh hR hl
  obtain ⟨n, p, x, t⟩ := r
  simp only at *
  go_enter Try.func49, Try.ntmps49
  go_wp2_with fail
  refine PO.out.mono ?_
  rintro z w2 ⟨rfl, ys, ⟨hs2, ht2⟩, hp2, hh2⟩
  obtain ⟨hBn, s1, hbr, hrd⟩ := St.rests hs2 _ List.mem_cons_self
  obtain ⟨b, o, c, rfl, hbB, -, e⟩ := hrd.pos
  have q0 := hbr.cell 0 (.slice (some ⟨b, o, none⟩) (t.length + 1) c) rfl
  have g0 := hbr.frozen 0
  have e0 := e 0 (.int .i64 x) rfl
  simp only [Nat.add_zero] at e0
  obtain ⟨A2, c2, hcut, hrd2⟩ := hrd.tail (P := Try.prog) (t := 43) (e := 3) Try.underlying43 (fun w => by kernel_rfl)
  have HN := Lib.hid (show ∀ q ∈ ys, q.at_ ≠ n from fun q hq e => ((List.pairwise_cons.1 (HR.out.perm hp2).once).1 q hq).2 e.symm)
  have W3 := Lib.hid (St.retail hs2 (by decide) (by decide) hbr hBn HN.out (.slice A2 t.length c2))
  have T3 := Lib.hid ((ownT_tw (T := T) (B := B) (β := Unit) U).set (s := ()) ht2 hbr hBn hT.r 0 (.slice A2 t.length c2))
  have PM := Lib.hid hp2
  have H2 := Lib.hid hh2
  have RD := Lib.hid (hrd2.set hBn (.slice A2 t.length c2))
  have HBN := Lib.hid hBn
  clear hs2 ht2 hp2 hh2 hbr hrd e hrd2 hbB hBn
  have PC := Lib.hid (show Calls Try.prog 57 #[.pointer (some ⟨M, 0, none⟩), .pointer (some ⟨n, 0, none⟩)] (w2.setCell ⟨n, 0, none⟩ (.slice A2 t.length c2)) fun e w5 => (∃ v, e = .returned v) ∧
      ∃ zs, StI Kp B M zs w5 zs ∧ Tw T B U w5 ∧ HeapTo (ltR intLt) zs zs.length ∧ Rests (L.set p t) zs ∧ zs.length ≤ xs.length + 1 from by
    have hlen : ys.length = xs.length := by simpa using PM.out.length_eq
    have hpm := HR.out.perm PM.out
    cases t with
    | nil =>
      refine (put0_int (M := M) n p A2 c2 _ W3.out.2).mono ?_
      rintro e w5 ⟨he, rfl⟩
      exact ⟨he, ys, W3.out.1, T3.out, H2.out, hpm.last rfl, by omega⟩
    | cons x t =>
      have hst := W3.out.1.more (a := ⟨n, p, x, t⟩) HBN.out ⟨_, W3.out.2, RD.out⟩
      refine (put_int (pool := ⟨n, p, x, t⟩ :: ys) (ownT_tw (T := T) (β := Unit) U) hT () ys ⟨n, p, x, t⟩ List.mem_cons_self (by have := HL.out; omega) _ hst T3.out H2.out).mono ?_
      rintro e w5 ⟨he, zs, ⟨h1, h2⟩, h3, h4⟩
      exact ⟨he, zs, h1.self, h2, h4, (hpm.next rfl).perm h3, by rw [h3.length_eq, List.length_cons]; omega⟩)
  clear RD W3 T3 HN H2 PM HBN
  go_wp2_with fail
  refine PC.out.mono ?_
  rintro z w5 ⟨⟨v5, rfl⟩, zs, hst, htw, hhe, hre, hln⟩
  have R1 := Lib.hid hst
  have R2 := Lib.hid htw
  have R3 := Lib.hid hhe
  have R4 := Lib.hid hre
  have R5 := Lib.hid hln
  clear hst htw hhe hre hln q0 g0 e0
  go_wp2_with fail
  go_ret
  exact ⟨rfl, zs, R1.out, R2.out, R3.out, R4.out, R5.out⟩
end
end Go.Proofs.Ytnioiojafnkmhaa
