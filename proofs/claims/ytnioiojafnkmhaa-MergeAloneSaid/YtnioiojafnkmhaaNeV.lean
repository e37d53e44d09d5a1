/- Layer 10, the project's: the heap of a merging, what is put and what comes next (versions). -/
import Derived.Test.YtnioiojafnkmhaaNcV
import Derived.Test.YtnioiojafnkmhaaNd
import Derived.Test.YtnioiojafnkmhaaHc
namespace Go.Proofs.Ytnioiojafnkmhaa
open Go.RowKit
set_option linter.unusedVariables false

section
variable {β : Type} {T : TypeId → Bool} {Kp : Nat → Prop} {B M : Nat} {pool : List (Rst Ver)} {J : β → World → Prop}
def StV (Kp : Nat → Prop) (B M : Nat) (pool : List (Rst Ver)) (W : World) (xs : List (Rst Ver)) : Prop := St verL 79 81 83 cmpF Kp B M pool W xs
def encRV (r : Rst Ver) : Value := .iface 81 (.pointer (some ⟨r.at_, 0, none⟩))
/-- What the types of a merging's own cells are: none that a round turns. -/
structure FreeV (T : TypeId → Bool) : Prop where
  m : T 79 = false
  p : T 81 = false
  r : T 83 = false
theorem heap_ver (hJ : OwnT T B J) (hT : FreeV T) (s : β) : HeapV (fun W xs => StV Kp B M pool W xs ∧ J s W) (ltR lessV) (.pointer (some ⟨M, 0, none⟩)) encRV (· ∈ pool) where
  less W xs i j hi hj h := less_ver hJ s xs i j _ _ (List.getElem?_eq_getElem hi) (List.getElem?_eq_getElem hj) W h.1 h.2
  swap W xs i j hi hj h := swap_ver hJ hT.p s xs i j hi hj W h.1 h.2
  size W xs h := len_ver s hJ xs W h.1 h.2
  push W xs a ha h hl := push_ver hJ hT.p hT.m s xs a ha hl W h.1 h.2
  pop W xs a h := pop_ver hJ hT.m s xs a W h.1 h.2

set_option maxHeartbeats 1000000 in
theorem put_ver (hJ : OwnT T B J) (hT : FreeV T) (s : β) (xs : List (Rst Ver)) (a : Rst Ver) (ha : a ∈ pool) (hl : xs.length ≤ 100000) (U : World) (h : StV Kp B M pool U xs) (hs : J s U) (hh : HeapTo (ltR lessV) xs xs.length) :
    Calls Try.prog 44 #[.pointer (some ⟨M, 0, none⟩), .pointer (some ⟨a.at_, 0, none⟩)] U fun e W' => (∃ v, e = .returned v) ∧ ∃ ys, (StV Kp B M pool W' ys ∧ J s W') ∧ ys.Perm (a :: xs) ∧ HeapTo (ltR lessV) ys ys.length := by
  have PU := Lib.hid (heapV_push (heap_ver (Kp := Kp) (M := M) (pool := pool) hJ hT s) (ltR_ahead ver_ahead) xs a ha U ⟨h, hs⟩ hl hh)
  obtain ⟨-, s1, hb, hr⟩ := St.rests h a ha
  obtain ⟨b, o, c, rfl, -, -, -⟩ := hr.pos
  have p0 := hb.cell 0 (.slice (some ⟨b, o, none⟩) (a.tail.length + 1) c) rfl
  unfold encRV at PU
  clear h hs hh hb hr hJ
  go_enter Try.func44, Try.ntmps44
  go_wp2_with fail
  refine PU.out.mono ?_
  rintro z w1 ⟨⟨v1, rfl⟩, hq⟩
  have Q := Lib.hid hq
  clear hq
  go_wp2_with fail
  refine bodyPost_end (v := .tuple #[]) (results_none rfl _ _ _) rfl ?_
  exact ⟨⟨_, rfl⟩, Q.out⟩

/-- Nothing left: nothing is put. -/
theorem put0_ver (n : Nat) (p : Int) (A : Option Addr) (c : Nat) (U : World) (hb : Box U n #[.slice A 0 c, .int .i64 p] 83) :
    Calls Try.prog 44 #[.pointer (some ⟨M, 0, none⟩), .pointer (some ⟨n, 0, none⟩)] U fun e W' => (∃ v, e = .returned v) ∧ W' = U := by
  have p0 := hb.cell 0 (.slice A 0 c) rfl
  clear hb
  go_enter Try.func44, Try.ntmps44
  go_wp2_with fail
  refine bodyPost_end (v := .tuple #[]) (results_none rfl _ _ _) rfl ?_
  exact ⟨⟨_, rfl⟩, rfl⟩

set_option maxHeartbeats 4000000 in
set_option maxRecDepth 100000 in
theorem next_ver (hT : FreeV T) (hV : T 33 = true) (L : List (List Ver)) (r : Rst Ver) (xs : List (Rst Ver)) (hl : xs.length ≤ 99999) (U : World) (h : StV Kp B M (r :: xs) U (r :: xs)) (hh : HeapTo (ltR lessV) (r :: xs) (r :: xs).length) (hR : Rests L (r :: xs)) :
    Calls Try.prog 37 #[.pointer (some ⟨M, 0, none⟩)] U fun e W' => e = .returned (verV r.head) ∧ ∃ ys, StV Kp B M ys W' ys ∧ Tw T B U W' ∧ HeapTo (ltR lessV) ys ys.length ∧ Rests (L.set r.place r.tail) ys ∧ ys.length ≤ xs.length + 1 := by
  have BL1 := alloc_below U (.cells #[.string ⟨#[]⟩, .int .i64 0, .int .i64 0, .int .i64 0, .int .i64 0, .int .i64 0, .string ⟨#[]⟩, .bool false] 33)
  have J2 : OwnT T B (fun (_ : Unit) W => Tw T B U W ∧ Box W U.heap.size #[.string ⟨#[]⟩, .int .i64 0, .int .i64 0, .int .i64 0, .int .i64 0, .int .i64 0, .string ⟨#[]⟩, .bool false] 33) := (ownT_tw U).and (OwnT.box hV _ _)
  have PO := Lib.hid (heapV_pop (heap_ver (Kp := Kp) (M := M) (pool := r :: xs) J2 hT ()) (ltR_ahead ver_ahead) xs r (U.alloc (.cells #[.string ⟨#[]⟩, .int .i64 0, .int .i64 0, .int .i64 0, .int .i64 0, .int .i64 0, .string ⟨#[]⟩, .bool false] 33)) ⟨St.later h BL1, Tw.of_below BL1, Box.new U _ _ _ rfl⟩ (by omega) hh)
  have hta := run_assert (P := Try.prog) Try.underlying81 (.pointer (some ⟨r.at_, 0, none⟩))
  have HR := Lib.hid hR
  have HL := Lib.hid hl
  have HSZ := Lib.hid (show M < U.heap.size from St.size h)
  unfold encRV at PO
  clear h hh hR hl BL1 J2
  obtain ⟨n, p, ⟨kk, bb, ee, ss, ⟨xx, yy⟩, uu, gg⟩, t⟩ := r
  simp only at *
  go_enter Try.func37, Try.ntmps37
  go_wp2_with fail
  refine PO.out.mono ?_
  rintro z w2 ⟨rfl, ys, ⟨hs2, ht2, hb2⟩, hp2, hh2⟩
  obtain ⟨hBn, s1, hbr, hrd⟩ := St.rests hs2 _ List.mem_cons_self
  obtain ⟨b, o, c, rfl, hbB, -, e⟩ := hrd.pos
  have q0 := hbr.cell 0 (.slice (some ⟨b, o, none⟩) (t.length + 1) c) rfl
  have g0 := hbr.frozen 0
  have e0 := e 0 (.string kk) rfl
  have e1 := e 1 (.int .i64 bb) rfl
  have e2 := e 2 (.int .i64 ee) rfl
  have e3 := e 3 (.int .i64 ss) rfl
  have e4 := e 4 (.int .i64 xx) rfl
  have e5 := e 5 (.int .i64 yy) rfl
  have e6 := e 6 (.string uu) rfl
  have e7 := e 7 (.bool gg) rfl
  simp only [Nat.add_zero] at e0
  obtain ⟨A2, c2, hcut, hrd2⟩ := hrd.tail (P := Try.prog) (t := 24) (e := 33) Try.underlying24 (fun w => by kernel_rfl)
  have HN := Lib.hid (show ∀ q ∈ ys, q.at_ ≠ n from fun q hq e => ((List.pairwise_cons.1 (HR.out.perm hp2).once).1 q hq).2 e.symm)
  have W3 := Lib.hid (St.retail (St.later hs2 (alloc_below w2 (.cells #[.string kk, .int .i64 bb, .int .i64 ee, .int .i64 ss, .int .i64 xx, .int .i64 yy, .string uu, .bool gg] 33))) (by decide) (by decide) (hbr.alloc _) hBn HN.out (.slice A2 t.length c2))
  have T3 := Lib.hid ((ownT_tw (T := T) (B := B) (β := Unit) U).set (s := ()) ((ownT_tw (T := T) (B := B) (β := Unit) U).alloc (s := ()) (.cells #[.string kk, .int .i64 bb, .int .i64 ee, .int .i64 ss, .int .i64 xx, .int .i64 yy, .string uu, .bool gg] 33) ht2) (hbr.alloc _) hBn hT.r 0 (.slice A2 t.length c2))
  have hneq : U.heap.size ≠ n := fun e => by
    have h4 : some (Obj.cells #[.string ⟨#[]⟩, .int .i64 0, .int .i64 0, .int .i64 0, .int .i64 0, .int .i64 0, .string ⟨#[]⟩, .bool false] 33 (0, 0)) = some (.cells _ 83 (0, 0)) := (show w2.heap[n]? = _ from e ▸ hb2).symm.trans hbr
    injection h4 with h4
    injection h4 with _ h4
    exact absurd h4 (by decide)
  have BZ := Lib.hid ((hb2.alloc (.cells #[.string kk, .int .i64 bb, .int .i64 ee, .int .i64 ss, .int .i64 xx, .int .i64 yy, .string uu, .bool gg] 33)).other ⟨n, 0, none⟩ (.slice A2 t.length c2) hneq)
  have BX := Lib.hid ((Box.new w2 #[.string kk, .int .i64 bb, .int .i64 ee, .int .i64 ss, .int .i64 xx, .int .i64 yy, .string uu, .bool gg] 33 _ rfl).other ⟨n, 0, none⟩ (.slice A2 t.length c2) (by have hlt : n < w2.heap.size := hbr.lt; simp only; omega))
  have PM := Lib.hid hp2
  have H2 := Lib.hid hh2
  have RD := Lib.hid ((hrd2.below ((alloc_below w2 (.cells #[.string kk, .int .i64 bb, .int .i64 ee, .int .i64 ss, .int .i64 xx, .int .i64 yy, .string uu, .bool gg] 33)).mono (by have hlt : n < w2.heap.size := hbr.lt; have hbn : B ≤ n := hBn; omega))).set hBn (.slice A2 t.length c2))
  have HBN := Lib.hid hBn
  have q1 := (hbr.alloc (.cells #[.string kk, .int .i64 bb, .int .i64 ee, .int .i64 ss, .int .i64 xx, .int .i64 yy, .string uu, .bool gg] 33)).cell 0 (.slice (some ⟨b, o, none⟩) (t.length + 1) c) rfl
  have g1 := (hbr.alloc (.cells #[.string kk, .int .i64 bb, .int .i64 ee, .int .i64 ss, .int .i64 xx, .int .i64 yy, .string uu, .bool gg] 33)).frozen 0
  clear hs2 ht2 hb2 hp2 hh2 hbr hrd e hrd2 hneq hbB hBn
  have PC := Lib.hid (show Calls Try.prog 44 #[.pointer (some ⟨M, 0, none⟩), .pointer (some ⟨n, 0, none⟩)] ((w2.alloc (.cells #[.string kk, .int .i64 bb, .int .i64 ee, .int .i64 ss, .int .i64 xx, .int .i64 yy, .string uu, .bool gg] 33)).setCell ⟨n, 0, none⟩ (.slice A2 t.length c2)) fun e w5 => (∃ v, e = .returned v) ∧
      ∃ zs, StV Kp B M zs w5 zs ∧ (Tw T B U w5 ∧ Box w5 U.heap.size #[.string ⟨#[]⟩, .int .i64 0, .int .i64 0, .int .i64 0, .int .i64 0, .int .i64 0, .string ⟨#[]⟩, .bool false] 33 ∧ Box w5 w2.heap.size #[.string kk, .int .i64 bb, .int .i64 ee, .int .i64 ss, .int .i64 xx, .int .i64 yy, .string uu, .bool gg] 33) ∧ HeapTo (ltR lessV) zs zs.length ∧ Rests (L.set p t) zs ∧ zs.length ≤ xs.length + 1 from by
    have hlen : ys.length = xs.length := by simpa using PM.out.length_eq
    have hpm := HR.out.perm PM.out
    cases t with
    | nil =>
      refine (put0_ver (M := M) n p A2 c2 _ W3.out.2).mono ?_
      rintro e w5 ⟨he, rfl⟩
      exact ⟨he, ys, W3.out.1, ⟨T3.out, BZ.out, BX.out⟩, H2.out, hpm.last rfl, by omega⟩
    | cons x t =>
      have J3 : OwnT T B (fun (_ : Unit) W => Tw T B U W ∧ Box W U.heap.size #[.string ⟨#[]⟩, .int .i64 0, .int .i64 0, .int .i64 0, .int .i64 0, .int .i64 0, .string ⟨#[]⟩, .bool false] 33 ∧ Box W w2.heap.size #[.string kk, .int .i64 bb, .int .i64 ee, .int .i64 ss, .int .i64 xx, .int .i64 yy, .string uu, .bool gg] 33) := (ownT_tw U).and ((OwnT.box hV _ _).and (OwnT.box hV _ _))
      have hst := W3.out.1.more (a := ⟨n, p, x, t⟩) HBN.out ⟨_, W3.out.2, RD.out⟩
      refine (put_ver (pool := ⟨n, p, x, t⟩ :: ys) J3 hT () ys ⟨n, p, x, t⟩ List.mem_cons_self (by have := HL.out; omega) _ hst ⟨T3.out, BZ.out, BX.out⟩ H2.out).mono ?_
      rintro e w5 ⟨he, zs, ⟨h1, h2⟩, h3, h4⟩
      exact ⟨he, zs, h1.self, h2, h4, (hpm.next rfl).perm h3, by rw [h3.length_eq, List.length_cons]; omega⟩)
  clear BZ BX RD W3 T3 HN H2 PM HBN
  go_wp2_with fail
  refine PC.out.mono ?_
  rintro z w5 ⟨⟨v5, rfl⟩, zs, hst, ⟨htw, hbz, hbx⟩, hhe, hre, hln⟩
  have R1 := Lib.hid hst
  have R2 := Lib.hid htw
  have R3 := Lib.hid hhe
  have R4 := Lib.hid hre
  have R5 := Lib.hid hln
  have BZ := Lib.hid hbz
  have z0 := hbz.cell 0 (.string ⟨#[]⟩) rfl
  have f0 := hbz.frozen 0
  have x0 := hbx.cell 0 (.string kk) rfl
  have z1 := hbz.cell 1 (.int .i64 0) rfl
  have f1 := hbz.frozen 1
  have x1 := hbx.cell 1 (.int .i64 bb) rfl
  have z2 := hbz.cell 2 (.int .i64 0) rfl
  have f2 := hbz.frozen 2
  have x2 := hbx.cell 2 (.int .i64 ee) rfl
  have z3 := hbz.cell 3 (.int .i64 0) rfl
  have f3 := hbz.frozen 3
  have x3 := hbx.cell 3 (.int .i64 ss) rfl
  have z4 := hbz.cell 4 (.int .i64 0) rfl
  have f4 := hbz.frozen 4
  have x4 := hbx.cell 4 (.int .i64 xx) rfl
  have z5 := hbz.cell 5 (.int .i64 0) rfl
  have f5 := hbz.frozen 5
  have x5 := hbx.cell 5 (.int .i64 yy) rfl
  have z6 := hbz.cell 6 (.string ⟨#[]⟩) rfl
  have f6 := hbz.frozen 6
  have x6 := hbx.cell 6 (.string uu) rfl
  have z7 := hbz.cell 7 (.bool false) rfl
  have f7 := hbz.frozen 7
  have x7 := hbx.cell 7 (.bool gg) rfl
  clear hst htw hbz hbx hhe hre hln q0 q1 g0 g1
  go_wp2_with fail
  have BF := box_put8 (b0 := .string kk) (b1 := .int .i64 bb) (b2 := .int .i64 ee) (b3 := .int .i64 ss) (b4 := .int .i64 xx) (b5 := .int .i64 yy) (b6 := .string uu) (b7 := .bool gg) BZ.out
  have GW := grown_put8 w5 U.heap.size (.string kk) (.int .i64 bb) (.int .i64 ee) (.int .i64 ss) (.int .i64 xx) (.int .i64 yy) (.string uu) (.bool gg)
  have ST := Lib.hid (show StV Kp B M zs _ zs from St.turn (Y := ((((((((w5.setCell ⟨U.heap.size, 0, none⟩ (.string kk)).setCell ⟨U.heap.size, 1, none⟩ (.int .i64 bb)).setCell ⟨U.heap.size, 2, none⟩ (.int .i64 ee)).setCell ⟨U.heap.size, 3, none⟩ (.int .i64 ss)).setCell ⟨U.heap.size, 4, none⟩ (.int .i64 xx)).setCell ⟨U.heap.size, 5, none⟩ (.int .i64 yy)).setCell ⟨U.heap.size, 6, none⟩ (.string uu)).setCell ⟨U.heap.size, 7, none⟩ (.bool gg))) R1.out (fun k cs t f hk ht => (GW.block k (Array.getElem?_eq_some_iff.1 hk).1 fun e => by
      cases e
      rw [show w5.heap[U.heap.size]? = _ from BZ.out] at hk
      cases hk
      rcases ht with e | e | e <;> exact absurd e (by decide)).trans hk)
    (fun k _ hk => GW.block k (by have := R2.out.size; have := HSZ.out; have := St.low R1.out; omega) fun e => by cases e; have := HSZ.out; have := St.low R1.out; omega))
  generalize ((((((((w5.setCell ⟨U.heap.size, 0, none⟩ (.string kk)).setCell ⟨U.heap.size, 1, none⟩ (.int .i64 bb)).setCell ⟨U.heap.size, 2, none⟩ (.int .i64 ee)).setCell ⟨U.heap.size, 3, none⟩ (.int .i64 ss)).setCell ⟨U.heap.size, 4, none⟩ (.int .i64 xx)).setCell ⟨U.heap.size, 5, none⟩ (.int .i64 yy)).setCell ⟨U.heap.size, 6, none⟩ (.string uu)).setCell ⟨U.heap.size, 7, none⟩ (.bool gg)) = W6 at BF GW ST ⊢
  have c0 := BF.cell 0 (.string kk) rfl
  have c1 := BF.cell 1 (.int .i64 bb) rfl
  have c2 := BF.cell 2 (.int .i64 ee) rfl
  have c3 := BF.cell 3 (.int .i64 ss) rfl
  have c4 := BF.cell 4 (.int .i64 xx) rfl
  have c5 := BF.cell 5 (.int .i64 yy) rfl
  have c6 := BF.cell 6 (.string uu) rfl
  have c7 := BF.cell 7 (.bool gg) rfl
  refine bodyPost_ret (v := verV ⟨kk, bb, ee, ss, (xx, yy), uu, gg⟩) ?_ rfl ⟨rfl, zs, ST.out, R2.out.grown GW (fun r e => by cases e; exact .inl (Nat.le_refl _)), R3.out, R4.out, R5.out⟩
  rw [results_cell1 (Try.results37)]
  unfold verV
  go_simp
end
end Go.Proofs.Ytnioiojafnkmhaa
