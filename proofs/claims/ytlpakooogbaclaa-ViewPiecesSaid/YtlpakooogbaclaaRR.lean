/- Layer 4, plain facts: spans, pieces, and what the document tells of them. -/
import Derived.Test.YtlpakooogbaclaaSb
import Derived.Test.YtlpakooogbaclaaPa
import Derived.Test.YtlpakooogbaclaaRows
import Derived.Test.YtlpakooogbaclaaBA
import Derived.Test.YtlpakooogbaclaaVV
import Derived.Test.YtlpakooogbaclaaOB
import Derived.Test.YtlpakooogbaclaaBE
import Derived.Test.YtlpakooogbaclaaOA
import Derived.WalkKit
import Derived.Laws.StructEq
import Derived.Deep.Slices
import Derived.Deep.Fields
import Derived.Deep.Strs
import Derived.ChangeSame
import Derived.ChangeArms
import Derived.Lib.SmallJoins
namespace Go.Proofs.Ytlpakooogbaclaa
open Go.RowKit
set_option linter.unusedVariables false


end Go.Proofs.Ytlpakooogbaclaa
/- Layer 6: spans that may be, by the document and by the project (out of s05/XEa). -/
namespace Go.Proofs.Ytlpakooogbaclaa
open Go.RowKit
set_option linter.unusedVariables false




end Go.Proofs.Ytlpakooogbaclaa
/- Layer 6: the document's reader of chapter 2, whose index is anywhere, with an error or without: a number, what is left. Written by gen_ra.py. -/
namespace Go.Proofs.Ytlpakooogbaclaa
open Go.RowKit
set_option linter.unusedVariables false

/-- p is the document's reader, in block g, of the bytes m, at q, with the error e. -/
structure RdQ (w : World) (g : Nat) (p : Value) (m : List UInt8) (q : Nat) (e : Int) : Prop where
  ptr : p = .pointer (some ⟨g, 0, none⟩)
  lt : g < w.heap.size
  at' : w.cell? ⟨g, 1, none⟩ = some (.int .i64 q)
  err : w.cell? ⟨g, 2, none⟩ = some (.int .i64 e)
  frz1 : w.frozen? ⟨g, 1, none⟩ = false
  frz2 : w.frozen? ⟨g, 2, none⟩ = false
  le : q ≤ m.length
  left : ∃ sl, w.cell? ⟨g, 0, none⟩ = some sl ∧ RdB w g sl m

end Go.Proofs.Ytlpakooogbaclaa
/- Layer 6: the document's reader of chapter 2 at any index: a text. -/
namespace Go.Proofs.Ytlpakooogbaclaa
open Go.RowKit
set_option linter.unusedVariables false

end Go.Proofs.Ytlpakooogbaclaa
/- Layer 6: versions: which may be, cut to few bytes, their bytes, by the document. -/
namespace Go.Proofs.Ytlpakooogbaclaa
open Go.RowKit
set_option linter.unusedVariables false

structure Ver where
  key : ByteArray
  b : Int
  e : Int
  s : Int
  sp : Sp
  val : ByteArray
  gone : Bool
def verV (v : Ver) : Value := .agg #[.string v.key, .int .i64 v.b, .int .i64 v.e, .int .i64 v.s, .int .i64 v.sp.1, .int .i64 v.sp.2, .string v.val, .bool v.gone]
def rangeV (v : Ver) : Bool := decide (0 ≤ v.b) && decide (v.b ≤ 15) && decide (1 ≤ v.e) && decide (v.e ≤ 10000) && decide (1 ≤ v.s) && decide (v.s ≤ 100000)
def mayV (v : Ver) : Bool := decide ((Ord.splitOf v.key.data.toList).2.2 = 0) && mayB v.sp && decide (v.val.size ≤ 200) && !(v.gone && !decide (v.val = ⟨#[]⟩)) && rangeV v
def cutV (v : Ver) : Ver := { v with key := if 110 < v.key.size then v.key.extract 0 110 else v.key, val := if 210 < v.val.size then v.val.extract 0 210 else v.val }

theorem not_empty {u : ByteArray} (h : ¬ u = ⟨#[]⟩) : u.toList.isEmpty = false := by
  rw [ByteArray.toList_eq]
  obtain ⟨⟨l⟩⟩ := u
  cases l with
  | nil => exact absurd rfl h
  | cons x l => rfl

set_option maxHeartbeats 2000000 in
theorem ref6_cut (v : Ver) (w : World) :
    Calls Try.prog 29 #[verV v] w fun e w' => e = .returned (verV (cutV v)) ∧ Below w.heap.size w w' := by
  obtain ⟨k, b, e, s, ⟨x, y⟩, u, g⟩ := v
  unfold verV cutV
  simp only
  go_enter Try.func29, Try.ntmps29
  go_wp2_with fail
  all_goals
    first
      | refine bodyPost_ret (v := .agg #[.string (k.extract 0 110), .int .i64 b, .int .i64 e, .int .i64 s, .int .i64 x, .int .i64 y, .string (u.extract 0 210), .bool g]) ?_ rfl ⟨rfl, (alloc_below w _).trans ((alloc_below _ _).mono (by simp))⟩
      | refine bodyPost_ret (v := .agg #[.string (k.extract 0 110), .int .i64 b, .int .i64 e, .int .i64 s, .int .i64 x, .int .i64 y, .string u, .bool g]) ?_ rfl ⟨rfl, (alloc_below w _).trans ((alloc_below _ _).mono (by simp))⟩
      | refine bodyPost_ret (v := .agg #[.string k, .int .i64 b, .int .i64 e, .int .i64 s, .int .i64 x, .int .i64 y, .string (u.extract 0 210), .bool g]) ?_ rfl ⟨rfl, (alloc_below w _).trans ((alloc_below _ _).mono (by simp))⟩
      | refine bodyPost_ret (v := .agg #[.string k, .int .i64 b, .int .i64 e, .int .i64 s, .int .i64 x, .int .i64 y, .string u, .bool g]) ?_ rfl ⟨rfl, (alloc_below w _).trans ((alloc_below _ _).mono (by simp))⟩
    rw [results_cell1 rfl]
    go_simp

set_option maxHeartbeats 4000000 in
theorem ref6_may (v : Ver) (w : World) (hk : v.key.size ≤ 1000000) :
    Calls Try.prog 69 #[verV v] w fun e w' => e = .returned (.bool (mayV v)) ∧ Below w.heap.size w w' := by
  have M1 := Lib.hid (fun w => Ord.ref_split v.key w hk)
  have M2 := Lib.hid (fun w => ref_may v.sp w)
  have hh := Lib.hid (show mayV v = (decide ((Ord.splitOf v.key.data.toList).2.2 = 0) && mayB v.sp && decide (v.val.size ≤ 200) && !(v.gone && !decide (v.val = ⟨#[]⟩)) && rangeV v) from rfl)
  have hr := Lib.hid (show rangeV v = (decide (0 ≤ v.b) && decide (v.b ≤ 15) && decide (1 ≤ v.e) && decide (v.e ≤ 10000) && decide (1 ≤ v.s) && decide (v.s ≤ 100000)) from rfl)
  generalize mayV v = res at *
  generalize rangeV v = rg at *
  generalize mayB v.sp = ms at *
  generalize Ord.splitOf v.key.data.toList = sl at *
  obtain ⟨s1, s2, s3⟩ := sl
  obtain ⟨k, b, e, s, ⟨x, y⟩, u, g⟩ := v
  unfold verV
  unfold spV at M2
  simp only at *
  have B := Lib.hid (Box.new w #[.string k, .int .i64 b, .int .i64 e, .int .i64 s, .int .i64 x, .int .i64 y, .string u, .bool g] 50 _ rfl)
  have G := Lib.hid (alloc_below w (.cells #[.string k, .int .i64 b, .int .i64 e, .int .i64 s, .int .i64 x, .int .i64 y, .string u, .bool g] 50))
  go_enter Try.func69, Try.ntmps69
  go_wp2_with fail
  generalize w.alloc (.cells #[.string k, .int .i64 b, .int .i64 e, .int .i64 s, .int .i64 x, .int .i64 y, .string u, .bool g] 50) = w0 at *
  refine (M1.out _).mono ?_
  rintro z w1 ⟨rfl, hb1⟩
  have B := Lib.hid (B.out.later hb1)
  have G := Lib.hid (G.out.trans (hb1.mono G.out.size))
  clear hb1
  have c4 := B.out.cell 4 (.int .i64 x) rfl
  have c5 := B.out.cell 5 (.int .i64 y) rfl
  go_wp2_with fail
  refine (M2.out _).mono ?_
  rintro z w2 ⟨rfl, hb2⟩
  have B := Lib.hid (B.out.later hb2)
  have G := Lib.hid (G.out.trans (hb2.mono G.out.size))
  clear hb2 c4 c5
  have c1 := B.out.cell 1 (.int .i64 b) rfl
  have c2 := B.out.cell 2 (.int .i64 e) rfl
  have c3 := B.out.cell 3 (.int .i64 s) rfl
  have c6 := B.out.cell 6 (.string u) rfl
  have c7 := B.out.cell 7 (.bool g) rfl
  have hno : ∀ q, (s3 ≠ 0 ∨ ms = false ∨ 200 < u.size ∨ (g = true ∧ u ≠ ⟨#[]⟩)) → q = false → res = q := fun q h hq => by
    rw [hq, hh.out]
    rcases h with h | h | h | ⟨h1, h2⟩
    · simp [h]
    · simp [h]
    · rw [show decide (u.size ≤ 200) = false from by simp; omega]; simp
    · simp [h1, h2]
  have hyes : s3 = 0 → ms = true → u.size ≤ 200 → (g = true → u = ⟨#[]⟩) → res = rg := fun h1 h2 h3 h4 => by
    rw [hh.out, h1, h2]
    rw [show decide (u.size ≤ 200) = true from by simpa using h3]
    cases g
    · simp
    · simp [h4 rfl]
  have HN := Lib.hid hno
  have HY := Lib.hid hyes
  clear hno hyes hh
  by_cases z1 : s3 = 0
  · cases ms
    · have hres := Lib.hid (HN.out false (.inr (.inl rfl)) rfl)
      go_wp2_with fail
      go_ret
      exact ⟨ret_bool hres.out.symm, G.out⟩
    · by_cases z2 : 200 < u.size
      · have hres := Lib.hid (HN.out false (.inr (.inr (.inl z2))) rfl)
        go_wp2_with fail
        go_ret
        exact ⟨ret_bool hres.out.symm, G.out⟩
      · cases hg : g
        · have hres := Lib.hid (show res = rg from HY.out z1 rfl (by omega) (by simp [hg]))
          subst hg
          clear HN HY
          go_wp2_with fail
          all_goals go_ret
          all_goals exact ⟨ret_bool (by rw [hres.out, hr.out]; simp [*] <;> omega), G.out⟩
        · subst hg
          by_cases hu : u = ⟨#[]⟩
          · have hres := Lib.hid (show res = rg from HY.out z1 rfl (by omega) (fun _ => hu))
            clear HN HY
            subst hu
            go_wp2_with fail
            all_goals go_ret
            all_goals exact ⟨ret_bool (by rw [hres.out, hr.out]; simp [*] <;> omega), G.out⟩
          · have hres := Lib.hid (HN.out false (.inr (.inr (.inr ⟨rfl, hu⟩))) rfl)
            have hue := not_empty hu
            go_wp2_with fail
            go_ret
            exact ⟨ret_bool hres.out.symm, G.out⟩
  · have hres := Lib.hid (HN.out false (.inl z1) rfl)
    go_wp2_with fail
    go_ret
    exact ⟨ret_bool hres.out.symm, G.out⟩
end Go.Proofs.Ytlpakooogbaclaa
/- Layer 6: a version's bytes, by the document. -/
namespace Go.Proofs.Ytlpakooogbaclaa
open Go.RowKit
set_option linter.unusedVariables false

end Go.Proofs.Ytlpakooogbaclaa
/- Layer 6: lists of versions: are they the same, their bytes, by the document. -/
namespace Go.Proofs.Ytlpakooogbaclaa
open Go.RowKit
set_option linter.unusedVariables false

def verL : Lay Ver := ⟨8, fun v => [.string v.key, .int .i64 v.b, .int .i64 v.e, .int .i64 v.s, .int .i64 v.sp.1, .int .i64 v.sp.2, .string v.val, .bool v.gone], fun _ => rfl, fun x u hu => by simp at hu; rcases hu with rfl | rfl | rfl | rfl | rfl | rfl | rfl | rfl <;> rfl, by decide⟩
abbrev RdVr (w : World) (B : Nat) (v : Value) (l : List Ver) : Prop := RdX verL w B v l
theorem RdVr.here {w : World} {B : Nat} {A : Option Addr} {n c : Nat} {l : List Ver} (h : RdVr w B (.slice A n c) l) (k : Nat) (hk : k < l.length) : ∃ b o, A = some ⟨b, o, none⟩ ∧ b < B ∧
    w.cell? ⟨b, o + k * 8, none⟩ = some (.string l[k].key) ∧ w.cell? ⟨b, o + k * 8 + 1, none⟩ = some (.int .i64 l[k].b) ∧ w.cell? ⟨b, o + k * 8 + 2, none⟩ = some (.int .i64 l[k].e) ∧ w.cell? ⟨b, o + k * 8 + 3, none⟩ = some (.int .i64 l[k].s) ∧
    w.cell? ⟨b, o + k * 8 + 4, none⟩ = some (.int .i64 l[k].sp.1) ∧ w.cell? ⟨b, o + k * 8 + 5, none⟩ = some (.int .i64 l[k].sp.2) ∧ w.cell? ⟨b, o + k * 8 + 6, none⟩ = some (.string l[k].val) ∧ w.cell? ⟨b, o + k * 8 + 7, none⟩ = some (.bool l[k].gone) := by
  obtain ⟨b, o, rfl, hb, hc⟩ := h.at k hk
  exact ⟨b, o, rfl, hb, hc 0 _ rfl, hc 1 _ rfl, hc 2 _ rfl, hc 3 _ rfl, hc 4 _ rfl, hc 5 _ rfl, hc 6 _ rfl, hc 7 _ rfl⟩
theorem bytes_list6 (a b : ByteArray) : (a.toList = b.toList) ↔ a = b := by
  constructor
  · intro e
    rw [ByteArray.toList_eq, ByteArray.toList_eq] at e
    obtain ⟨⟨x⟩⟩ := a
    obtain ⟨⟨y⟩⟩ := b
    simp at e
    subst e
    rfl
  · intro e; rw [e]
theorem ver_neq_same (W : World) (a : Ver) : (binOp .neq 50 (verV a) (verV a)).run Try.prog W = .ok (.bool false) W := by
  unfold verV
  go_simp
theorem ver_neq_diff (W : World) (a b : Ver) (h : a ≠ b) : (binOp .neq 50 (verV a) (verV b)).run Try.prog W = .ok (.bool true) W := by
  obtain ⟨k1, b1, e1, s1, ⟨x1, y1⟩, u1, g1⟩ := a
  obtain ⟨k2, b2, e2, s2, ⟨x2, y2⟩, u2, g2⟩ := b
  unfold verV
  have h1 := bytes_list6 k1 k2
  have h2 := bytes_list6 u1 u2
  go_simp
  intro a1 a2 a3 a4 a5 a6 a7 a8
  subst a1 a2 a3 a4 a5 a6 a7 a8
  exact h rfl

set_option maxHeartbeats 4000000 in
theorem ref6_same (va vb : Value) (l m : List Ver) (w : World) (ha : RdVr w w.heap.size va l) (hb : RdVr w w.heap.size vb m) :
    Calls Try.prog 11 #[va, vb] w fun e w' => ∃ r : Bool, e = .returned (.bool r) ∧ (r = true ↔ l = m) ∧ Below w.heap.size w w' := by
  have HA := Lib.hid ha
  have HB := Lib.hid hb
  obtain ⟨A, ca, rfl, hla, hca, -⟩ := ha
  obtain ⟨B, cb, rfl, hlb, hcb, -⟩ := hb
  by_cases hlen : l.length = m.length
  · have z0 : ((l.length : Int) != (m.length : Int)) = false := by simp [bne, hlen]
    have HL := Lib.hid hlen
    go_enter Try.func11, Try.ntmps11
    clear hlen
    go_wp2_with fail
    go_loopw [5] (fun i wr => ∃ k : Nat, i = .int .i64 k ∧ k ≤ l.length ∧ l.take k = m.take k ∧ Below w.heap.size w wr) (fun i _ => l.length - (intOf i).toNat)
    case atStart => exact ⟨0, rfl, Nat.zero_le _, rfl, Below.refl _ _⟩
    case round =>
      obtain ⟨k, rfl, hk, ht, hbw⟩ := hrel
      have G := Lib.hid hbw
      have T := Lib.hid ht
      clear hbw ht
      by_cases hlt : k < l.length
      · have hltm : k < m.length := by have := HL.out; omega
        obtain ⟨ba, oa, rfl, hba, ca0, ca1, ca2, ca3, ca4, ca5, ca6, ca7⟩ := RdVr.here (HA.out.below G.out) k hlt
        obtain ⟨bb, ob, rfl, hbb, cb0, cb1, cb2, cb3, cb4, cb5, cb6, cb7⟩ := RdVr.here (HB.out.below G.out) k hltm
        have hs1 : l.take (k + 1) = l.take k ++ [l[k]] := List.take_succ_eq_append_getElem hlt
        have hs2 : m.take (k + 1) = m.take k ++ [m[k]] := List.take_succ_eq_append_getElem hltm
        have S1 := Lib.hid hs1
        have S2 := Lib.hid hs2
        have NE := Lib.hid (show l[k] ≠ m[k] → l ≠ m from fun h e => h (by subst e; rfl))
        clear hs1 hs2
        generalize l[k] = p at *
        generalize m[k] = q at *
        by_cases hpq : p = q
        · subst hpq
          have hne := fun W => ver_neq_same W p
          unfold verV at hne
          go_wp2_with fail
          go_quiet (fail)
          go_wp2_with fail
          go_roundw
          case rel => exact ⟨k + 1, by go_num, by omega, by rw [S1.out, S2.out, T.out], G.out.drewN _⟩
          case measure => simp [intOf]; omega
        · have hne := fun W => ver_neq_diff W p q hpq
          unfold verV at hne
          have LM := Lib.hid (NE.out hpq)
          clear hpq
          go_wp2_with fail
          go_quiet (fail)
          go_wp2_with fail
          go_ret
          exact ⟨_, rfl, ⟨(fun h => by cases h), fun h => absurd h LM.out⟩, G.out.drewN _⟩
      · have LM := Lib.hid (show l = m from by
          have h1 : l.take k = l := List.take_of_length_le (by omega)
          have h2 : m.take k = m := List.take_of_length_le (by have := HL.out; omega)
          rw [← h1, T.out, h2])
        go_wp2_with fail
        go_ret
        exact ⟨_, rfl, ⟨fun _ => LM.out, fun _ => rfl⟩, G.out⟩
  · have z0 : ((l.length : Int) != (m.length : Int)) = true := by simp [bne]; omega
    have LM := Lib.hid (show l ≠ m from fun e => hlen (by rw [e]))
    clear hlen
    go_enter Try.func11, Try.ntmps11
    go_wp2_with fail
    go_ret
    exact ⟨_, rfl, ⟨(fun h => by cases h), fun h => absurd h LM.out⟩, Below.refl _ _⟩

end Go.Proofs.Ytlpakooogbaclaa
/- Layer 6: a version read, by the document. -/
namespace Go.Proofs.Ytlpakooogbaclaa
open Go.RowKit
set_option linter.unusedVariables false

def zeroV : Ver := ⟨⟨#[]⟩, 0, 0, 0, (0, 0), ⟨#[]⟩, false⟩
theorem RdQ.below {w w' : World} {g q B : Nat} {p : Value} {m : List UInt8} {e : Int} (h : RdQ w g p m q e) (hb : Below B w w') (hB : g < B) : RdQ w' g p m q e := by
  obtain ⟨h1, h2, h3, h4, h5, h6, hq, sl, h7, h8⟩ := h
  exact ⟨h1, Nat.lt_of_lt_of_le h2 hb.size, (hb.cell (p := ⟨g, 1, none⟩) hB).trans h3, (hb.cell (p := ⟨g, 2, none⟩) hB).trans h4, (hb.frozen (p := ⟨g, 1, none⟩) hB).trans h5, (hb.frozen (p := ⟨g, 2, none⟩) hB).trans h6, hq, sl, (hb.cell (p := ⟨g, 0, none⟩) hB).trans h7, h8.below (hb.mono (Nat.le_of_lt hB))⟩

end Go.Proofs.Ytlpakooogbaclaa
/- Layer 6: which versions may be, by the project. -/
namespace Go.Proofs.Ytlpakooogbaclaa
open Go.RowKit
set_option linter.unusedVariables false





end Go.Proofs.Ytlpakooogbaclaa
/- Layer 6: plain facts: a version as it is read of bytes, one after the other; the document's way and the project's are the same; what is written is read. -/
namespace Go.Proofs.Ytlpakooogbaclaa
open Go.RowKit
set_option linter.unusedVariables false

/-- Where the project's reader is, and its error, when k numbers have been read. -/
def sN (l : List UInt8) (e : Int) : Nat → List UInt8 × Int
  | 0 => (l, e)
  | k + 1 => (stepN (sN l e k).1 (sN l e k).2).2
def nN (l : List UInt8) (e : Int) (k : Nat) : Int := ((stepN (sN l e k).1 (sN l e k).2).1 : Nat)
def keyL (l : List UInt8) (e : Int) : List UInt8 × List UInt8 × Int := stepT (sN l e 6).1 (sN l e 6).2 100
def valL (l : List UInt8) (e : Int) : List UInt8 × List UInt8 × Int := stepT (keyL l e).2.1 (keyL l e).2.2 200
def rawL (l : List UInt8) (e : Int) : Ver := ⟨⟨(keyL l e).1.toArray⟩, nN l e 0, nN l e 1, nN l e 2, (nN l e 3, nN l e 3 + nN l e 4), ⟨(valL l e).1.toArray⟩, (nN l e 5 == 1)⟩
def takeL (l : List UInt8) (e : Int) : Ver × Int := if (valL l e).2.2 ≠ 0 then (zeroV, (valL l e).2.2) else if mayV (rawL l e) = true ∧ nN l e 5 ≤ 1 then (rawL l e, 0) else (zeroV, 2)

theorem take_zero (l : List UInt8) (e : Int) (h : (takeL l e).2 ≠ 0) : (takeL l e).1 = zeroV := by
  unfold takeL at h ⊢
  split
  · rfl
  · rename_i h1
    rw [if_neg h1] at h
    split
    · rename_i h2
      rw [if_pos h2] at h
      exact absurd rfl h
    · rfl

end Go.Proofs.Ytlpakooogbaclaa
/- Layer 6: a version's bytes, by the project. -/
namespace Go.Proofs.Ytlpakooogbaclaa
open Go.RowKit
set_option linter.unusedVariables false

end Go.Proofs.Ytlpakooogbaclaa
/- Layer 6: a version read, by the project. -/
namespace Go.Proofs.Ytlpakooogbaclaa
open Go.RowKit
set_option linter.unusedVariables false

theorem RdR.below {w w' : World} {base g B : Nat} {p : Value} {l : List UInt8} {e : Int} (h : RdR w base g p l e) (hb : Below B w w') (hB : g < B) : RdR w' base g p l e := by
  obtain ⟨h1, h2, h3, h4, h5, h6, sl, h7, h8, h9⟩ := h
  exact ⟨h1, Nat.lt_of_lt_of_le h2 hb.size, h3, (hb.cell (p := ⟨g, 1, none⟩) hB).trans h4, (hb.frozen (p := ⟨g, 0, none⟩) hB).trans h5, (hb.frozen (p := ⟨g, 1, none⟩) hB).trans h6, sl, (hb.cell (p := ⟨g, 0, none⟩) hB).trans h7, h8.below (hb.mono (Nat.le_of_lt hB)), h9⟩

end Go.Proofs.Ytlpakooogbaclaa
/- Layer 6: versions' bytes, by the project. -/
namespace Go.Proofs.Ytlpakooogbaclaa
open Go.RowKit
set_option linter.unusedVariables false

end Go.Proofs.Ytlpakooogbaclaa
/- Layer 6: plain facts on the order of versions. -/
namespace Go.Proofs.Ytlpakooogbaclaa
open Go.RowKit
set_option linter.unusedVariables false

/-- c tells an order: of each two, and of three. -/
structure Tells {α : Type} (c : α → α → Int) : Prop where
  anti : ∀ a b, c b a = - c a b
  trans : ∀ a b d, c a b ≤ 0 → c b d ≤ 0 → c a d ≤ 0
theorem Tells.refl {α : Type} {c : α → α → Int} (h : Tells c) (a : α) : c a a = 0 := by have := h.anti a a; omega
def lex (x y : Int) : Int := if x ≠ 0 then x else y
theorem Tells.lex {α : Type} {c d : α → α → Int} (h : Tells c) (k : Tells d) : Tells fun a b => lex (c a b) (d a b) := by
  refine ⟨fun a b => ?_, fun a b e h1 h2 => ?_⟩
  · simp only [Go.Proofs.Ytlpakooogbaclaa.lex]
    rw [h.anti a b, k.anti a b]
    by_cases h0 : c a b = 0
    · simp [h0]
    · rw [if_pos (by omega), if_pos h0]
  · simp only [Go.Proofs.Ytlpakooogbaclaa.lex] at h1 h2 ⊢
    have t1 := h.trans a b e
    have t2 := h.trans b e a
    have t3 := h.trans e a b
    have a1 := h.anti a b
    have a2 := h.anti b e
    have a3 := h.anti a e
    have t4 := k.trans a b e
    split at h1 <;> split at h2 <;> split <;> omega

def cmpV (a b : Ver) : Int := lex (Ord.cmpStr a.key.toList b.key.toList) (lex (Ord.cmpInt a.b b.b) (lex (Ord.cmpInt a.e b.e) (lex (Ord.cmpInt a.s b.s) (Ord.cmpInt a.sp.1 b.sp.1))))
theorem bytes_listR (a b : ByteArray) : (a.toList = b.toList) ↔ a = b := by
  constructor
  · intro e
    rw [ByteArray.toList_eq, ByteArray.toList_eq] at e
    obtain ⟨⟨x⟩⟩ := a
    obtain ⟨⟨y⟩⟩ := b
    simp at e
    subst e
    rfl
  · intro e; rw [e]

def lessV (a b : Ver) : Bool := if a.key ≠ b.key then Op.bytesLess a.key.toList b.key.toList else if a.b ≠ b.b then decide (a.b < b.b) else if a.e ≠ b.e then decide (a.e < b.e) else if a.s ≠ b.s then decide (a.s < b.s) else decide (a.sp.1 < b.sp.1)
def firstN (l : List Int) : Int := l.foldr lex 0
theorem firstN_five (a b c d e : Int) : firstN [a, b, c, d, e] = lex a (lex b (lex c (lex d e))) := by
  simp only [firstN, List.foldr]
  have : lex e 0 = e := by unfold lex; split <;> omega
  rw [this]
end Go.Proofs.Ytlpakooogbaclaa
/- Layer 6: the order of versions, by the project and by the document. -/
namespace Go.Proofs.Ytlpakooogbaclaa
open Go.RowKit
set_option linter.unusedVariables false



set_option maxHeartbeats 4000000 in
theorem ref6_less (a b : Ver) (w : World) :
    Calls Try.prog 54 #[verV a, verV b] w fun e w' => e = .returned (.bool (lessV a b)) ∧ Below w.heap.size w w' := by
  obtain ⟨k1, b1, e1, s1, ⟨x1, y1⟩, u1, g1⟩ := a
  obtain ⟨k2, b2, e2, s2, ⟨x2, y2⟩, u2, g2⟩ := b
  unfold verV lessV
  simp only
  obtain ⟨res, hres⟩ : ∃ res : Bool, res = (if k1 ≠ k2 then Op.bytesLess k1.toList k2.toList else if b1 ≠ b2 then decide (b1 < b2) else if e1 ≠ e2 then decide (e1 < e2) else if s1 ≠ s2 then decide (s1 < s2) else decide (x1 < x2)) := ⟨_, rfl⟩
  rw [← hres]
  have G := Lib.hid ((alloc_below w (.cells #[.string k1, .int .i64 b1, .int .i64 e1, .int .i64 s1, .int .i64 x1, .int .i64 y1, .string u1, .bool g1] 50)).trans ((alloc_below _ (.cells #[.string k2, .int .i64 b2, .int .i64 e2, .int .i64 s2, .int .i64 x2, .int .i64 y2, .string u2, .bool g2] 50)).mono (by simp)))
  by_cases hk : k1 = k2
  · rw [if_neg (fun h => h hk)] at hres
    by_cases hb : b1 = b2
    · rw [if_neg (fun h => h hb)] at hres
      by_cases he : e1 = e2
      · rw [if_neg (fun h => h he)] at hres
        by_cases hs : s1 = s2
        · rw [if_neg (fun h => h hs)] at hres
          subst hk hb he hs
          have HR := Lib.hid hres
          clear hres
          go_enter Try.func54, Try.ntmps54
          go_wp2
          all_goals go_ret
          all_goals exact ⟨ret_bool (by rw [HR.out]), G.out⟩
        · rw [if_pos hs] at hres
          subst hk hb he
          have hne : (s1 != s2) = true := by simpa [bne] using hs
          have HR := Lib.hid hres
          clear hres hs
          go_enter Try.func54, Try.ntmps54
          go_wp2
          all_goals go_ret
          all_goals exact ⟨ret_bool (by rw [HR.out]), G.out⟩
      · rw [if_pos he] at hres
        subst hk hb
        have hne : (e1 != e2) = true := by simpa [bne] using he
        have HR := Lib.hid hres
        clear hres he
        go_enter Try.func54, Try.ntmps54
        go_wp2
        all_goals go_ret
        all_goals exact ⟨ret_bool (by rw [HR.out]), G.out⟩
    · rw [if_pos hb] at hres
      subst hk
      have hne : (b1 != b2) = true := by simpa [bne] using hb
      have HR := Lib.hid hres
      clear hres hb
      go_enter Try.func54, Try.ntmps54
      go_wp2
      all_goals go_ret
      all_goals exact ⟨ret_bool (by rw [HR.out]), G.out⟩
  · rw [if_pos hk] at hres
    have hne : (k1.toList == k2.toList) = false := by rw [beq_eq_false_iff_ne]; exact fun e => hk ((bytes_listR _ _).1 e)
    have HR := Lib.hid hres
    clear hres hk
    go_enter Try.func54, Try.ntmps54
    go_wp2
    all_goals go_ret
    all_goals exact ⟨ret_bool (by rw [HR.out]), G.out⟩
end Go.Proofs.Ytlpakooogbaclaa
/- Layer 6: the document's example; the first 500 bytes. -/
namespace Go.Proofs.Ytlpakooogbaclaa
open Go.RowKit
set_option linter.unusedVariables false

end Go.Proofs.Ytlpakooogbaclaa
/- Layer 6: arguments that are versions, slices of versions. -/
namespace Go.Proofs.Ytlpakooogbaclaa
open Go.RowKit Go.ChangeShapes Go.WideShapes Go.Deep
set_option linter.unusedVariables false

/-- A version as an argument may be. -/
structure OkVer (v : Ver) : Prop where
  key : v.key.size ≤ 9223372036854775807
  val : v.val.size ≤ 9223372036854775807
  b : -9223372036854775808 ≤ v.b ∧ v.b ≤ 9223372036854775807
  e : -9223372036854775808 ≤ v.e ∧ v.e ≤ 9223372036854775807
  s : -9223372036854775808 ≤ v.s ∧ v.s ≤ 9223372036854775807
  x : -9223372036854775808 ≤ v.sp.1 ∧ v.sp.1 ≤ 9223372036854775807
  y : -9223372036854775808 ≤ v.sp.2 ∧ v.sp.2 ≤ 9223372036854775807

section
variable {H : Type} {enc : TypeId × Value → H} {w : World} {base : Nat} {spare : Nat → Bool} {held : Bool}
theorem cells_ver : Try.prog.cellsOf 50 = 8 := by kernel_rfl
theorem cells_stamp : Try.prog.cellsOf 29 = 3 := by kernel_rfl
theorem cells_spR : Try.prog.cellsOf 46 = 2 := by kernel_rfl
theorem cells_iR : Try.prog.cellsOf 3 = 1 := by kernel_rfl
theorem cells_sR : Try.prog.cellsOf 9 = 1 := by kernel_rfl
theorem cells_bR : Try.prog.cellsOf 4 = 1 := by kernel_rfl
theorem list8 {α : Type} {l : List α} (h : l.length = 8) : ∃ a b c d e f g i, l = [a, b, c, d, e, f, g, i] := by
  match l, h with
  | [a, b, c, d, e, f, g, i], _ => exact ⟨a, b, c, d, e, f, g, i, rfl⟩
theorem trod_struct5 {P : Program} {t : TypeId} {f0 f1 f2 f3 f4 : Field} {fuel : Nat} {cs : List Value} {x : DataW H × List MemPlace} (ht : P.underlying t = some (.struct #[f0, f1, f2, f3, f4])) (h : DataW.trod enc P w base spare held fuel t cs = some x) :
    ∃ y0 y1 y2 y3 y4 n, cs.length = P.cellsOf t ∧ DataW.trod enc P w base spare held n f0.type ((cs.drop f0.offset).take (P.cellsOf f0.type)) = some y0 ∧
      DataW.trod enc P w base spare held n f1.type ((cs.drop f1.offset).take (P.cellsOf f1.type)) = some y1 ∧ DataW.trod enc P w base spare held n f2.type ((cs.drop f2.offset).take (P.cellsOf f2.type)) = some y2 ∧
      DataW.trod enc P w base spare held n f3.type ((cs.drop f3.offset).take (P.cellsOf f3.type)) = some y3 ∧ DataW.trod enc P w base spare held n f4.type ((cs.drop f4.offset).take (P.cellsOf f4.type)) = some y4 := by
  obtain ⟨xs, n, _, rfl, hl, hlen, hf⟩ := DataW.trod_struct ht h
  match xs, hlen with
  | [y0, y1, y2, y3, y4], _ => exact ⟨y0, y1, y2, y3, y4, n, hl, by simpa using hf 0 f0 rfl, by simpa using hf 1 f1 rfl, by simpa using hf 2 f2 rfl, by simpa using hf 3 f3 rfl, by simpa using hf 4 f4 rfl⟩
set_option maxRecDepth 100000 in
theorem trod_stamp {fuel : Nat} {cs : List Value} {x : DataW H × List MemPlace} (h : DataW.trod enc Try.prog w base spare held fuel 29 cs = some x) : ∃ b e s : Int, cs = [.int .i64 b, .int .i64 e, .int .i64 s] ∧ (-9223372036854775808 ≤ b ∧ b ≤ 9223372036854775807) ∧ (-9223372036854775808 ≤ e ∧ e ≤ 9223372036854775807) ∧ (-9223372036854775808 ≤ s ∧ s ≤ 9223372036854775807) := by
  obtain ⟨y0, y1, y2, n, -, hl, h0, h1, h2⟩ := trod_struct3 Try.underlying29 h
  rw [cells_stamp] at hl
  match cs, hl with
  | [c0, c1, c2], _ =>
    simp only [cells_iR, List.drop_zero, List.take_succ_cons, List.take_zero, List.drop_succ_cons] at h0 h1 h2
    obtain ⟨a, e0, -, w0⟩ := DataW.trod_int Try.underlying3 h0
    obtain ⟨b, e1, -, w1⟩ := DataW.trod_int Try.underlying3 h1
    obtain ⟨c, e2, -, w2⟩ := DataW.trod_int Try.underlying3 h2
    cases e0
    cases e1
    cases e2
    exact ⟨a, b, c, rfl, wf_int w0, wf_int w1, wf_int w2⟩
set_option maxRecDepth 100000 in
theorem trod_spR {fuel : Nat} {cs : List Value} {x : DataW H × List MemPlace} (h : DataW.trod enc Try.prog w base spare held fuel 46 cs = some x) : ∃ a b : Int, cs = [.int .i64 a, .int .i64 b] ∧ (-9223372036854775808 ≤ a ∧ a ≤ 9223372036854775807) ∧ (-9223372036854775808 ≤ b ∧ b ≤ 9223372036854775807) := by
  obtain ⟨y0, y1, n, -, hl, h0, h1⟩ := trod_struct2 Try.underlying46 h
  rw [cells_spR] at hl
  match cs, hl with
  | [c0, c1], _ =>
    simp only [cells_iR, List.drop_zero, List.take_succ_cons, List.take_zero, List.drop_succ_cons] at h0 h1
    obtain ⟨a, e0, -, w0⟩ := DataW.trod_int Try.underlying3 h0
    obtain ⟨b, e1, -, w1⟩ := DataW.trod_int Try.underlying3 h1
    cases e0
    cases e1
    exact ⟨a, b, rfl, wf_int w0, wf_int w1⟩
set_option maxRecDepth 100000 in
theorem trod_ver {fuel : Nat} {cs : List Value} {x : DataW H × List MemPlace} (h : DataW.trod enc Try.prog w base spare held fuel 50 cs = some x) : ∃ v : Ver, cs = verL.enc v ∧ OkVer v := by
  obtain ⟨y0, y1, y2, y3, y4, n, hl, h0, h1, h2, h3, h4⟩ := trod_struct5 Try.underlying50 h
  rw [cells_ver] at hl
  obtain ⟨c0, c1, c2, c3, c4, c5, c6, c7, rfl⟩ := list8 hl
  simp only [cells_sR, cells_stamp, cells_spR, cells_bR, List.drop_zero, List.take_succ_cons, List.take_zero, List.drop_succ_cons] at h0 h1 h2 h3 h4
  obtain ⟨k, e0, -, w0⟩ := DataW.trod_string Try.underlying9 h0
  obtain ⟨b, e, s, e1, w1, w2, w3⟩ := trod_stamp h1
  obtain ⟨a, c, e2, w4, w5⟩ := trod_spR h2
  obtain ⟨u, e3, -, w6⟩ := DataW.trod_string Try.underlying9 h3
  obtain ⟨g, e4, -⟩ := DataW.trod_bool Try.underlying4 h4
  cases e0
  cases e1
  cases e2
  cases e3
  cases e4
  simp only [maxLen] at w0 w6
  exact ⟨⟨k, b, e, s, (a, c), u, g⟩, rfl, ⟨by omega, by omega, w1, w2, w3, w4, w5⟩⟩
end

section
variable {H : Type} {enc : TypeId × Value → H} {W : World} {v : Value} {d : DataW H} {p : List MemPlace} {r : Reach} {b0 : Nat}
set_option maxRecDepth 100000 in
theorem open_vers (hval : Value.okWide Try.prog W r b0 22 v) (h : DataW.Trod enc Try.prog W 0 (fun _ => true) true 22 v d p) (hlt : ∀ x ∈ p, x.block < W.heap.size) :
    ∃ l : List Ver, RdVr W W.heap.size v l ∧ ∀ x ∈ l, OkVer x := by
  obtain ⟨a0, len, cap, rfl⟩ := okWide_slice Try.underlying22 hval
  obtain ⟨fuel, hf⟩ := h
  rcases open_slice Try.underlying22 hf with ⟨hcs, hx⟩ | ⟨a, len', cap', m, n, D, Pl, hcs, _, hl, hm, hmm, hx, hi⟩
  · simp [Value.cells] at hcs
    obtain ⟨rfl, rfl, rfl⟩ := hcs
    exact ⟨[], RdX.nil _ _, by simp⟩
  · simp [Value.cells] at hcs
    obtain ⟨rfl, rfl, rfl⟩ := hcs
    simp only [Prod.mk.injEq] at hx
    obtain ⟨rfl, rfl⟩ := hx
    simp only [if_true] at hmm
    subst hmm
    have hel : ∀ i, i < m → ∃ x : Ver, (∀ (j : Nat) (u : Value), (verL.enc x)[j]? = some u → W.cell? (a.add (i * 8 + j)) = some u) ∧ OkVer x := by
      intro i him
      obtain ⟨cs', hc, ht⟩ := hi i him
      rw [cells_ver] at hc
      obtain ⟨x, rfl, h1⟩ := trod_ver ht
      obtain ⟨_, _, hat⟩ := World.cells?_some hc
      refine ⟨x, fun j u hj => ?_, h1⟩
      have hjl : j < 8 := by
        have h2 : j < (verL.enc x).length := (List.getElem?_eq_some_iff.1 hj).1
        exact h2
      have h3 := hat j hjl
      rw [Go.Deep.add_add] at h3
      rw [h3, hj]
    let f : Nat → Ver := fun i => if h : i < m then (hel i h).choose else ⟨⟨#[]⟩, 0, 0, 0, (0, 0), ⟨#[]⟩, false⟩
    have hfs : ∀ i, i < m → (∀ (j : Nat) (u : Value), (verL.enc (f i))[j]? = some u → W.cell? (a.add (i * 8 + j)) = some u) ∧ OkVer (f i) := by
      intro i h
      have := (hel i h).choose_spec
      simp only [f, dif_pos h]
      exact this
    refine ⟨(List.range len).map f, ⟨some a, m, by simp, by simp; omega, by simpa [maxLen] using hm, fun hp => ?_⟩, fun x hx => ?_⟩
    · have hp : 0 < len := by simpa using hp
      obtain ⟨b, off, spot⟩ := a
      have hspot : spot = none := by simpa [Addr.add] using World.cell?_spot ((hfs 0 (by omega)).1 0 _ rfl)
      subst hspot
      refine ⟨b, off, rfl, hlt (.cell b off) (by
        rw [cells_ver]
        exact List.mem_append_left _ (MemPlace.mem_row.2 ⟨0, by omega, by simp⟩)), fun k x hk j u hj => ?_⟩
      rw [List.getElem?_map] at hk
      obtain ⟨i, hki, rfl⟩ := Option.map_eq_some_iff.1 hk
      obtain ⟨hkl, hki⟩ := List.getElem?_eq_some_iff.1 hki
      simp at hkl hki
      subst hki
      have q0 := (hfs k (by omega)).1 j u hj
      simp only [addr_plain] at q0
      rw [Nat.add_assoc]
      exact q0
    · obtain ⟨i, hi2, rfl⟩ := List.mem_map.1 hx
      exact (hfs i (by have := List.mem_range.1 hi2; omega)).2
end
end Go.Proofs.Ytlpakooogbaclaa
/- Layer 6: what the laws call: a version cut, two versions compared. -/
namespace Go.Proofs.Ytlpakooogbaclaa
open Go.RowKit
set_option linter.unusedVariables false

end Go.Proofs.Ytlpakooogbaclaa
