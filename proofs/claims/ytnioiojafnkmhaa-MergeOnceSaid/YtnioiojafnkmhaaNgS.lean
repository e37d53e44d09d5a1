/- Layer 10, the project's: lists as one, told one by one (texts). -/
import Derived.Test.YtnioiojafnkmhaaNfS
import Derived.RangeFuncBound
import Derived.RangeFuncLeaves
import Derived.Shelf.Abstract
import Derived.Shelf.RegionOpen
import Derived.OwnWalkIn
import Derived.TacticsInMore
import Derived.LoopNIn
import Derived.LoopIn
import Derived.Sort.QuietIn
import Derived.Deep.LoopGhost
namespace Go.Proofs.Ytnioiojafnkmhaa
open Go.RowKit Go.Shelf
set_option linter.unusedVariables false
attribute [local go_sem] Oper.semAt_some

theorem run_merged_str (A : Option Addr) (n c : Nat) (w : World) :
    Calls Try.prog 41 #[cmpS, .slice A n c] w fun e w' => e = .returned (.func (.func 50) #[] #[.pointer (some ⟨w.heap.size, 0, none⟩), .pointer (some ⟨w.heap.size + 1, 0, none⟩)]) ∧
      w' = (w.alloc (.cells #[cmpS] 58)).alloc (.cells #[.slice A n c] 42) := by
  unfold cmpS
  go_enter Try.func41, Try.ntmps41
  go_wp2_with fail
  go_ret
  exact ⟨rfl, rfl⟩

/-- What holds between two rounds: what has been told, what is left, and where it lies; n is how much is left. -/
def RelS (Kp : Nat → Prop) (ls : List (List ByteArray)) (J : List ByteArray → World → Prop) (B n : Nat) (wr : World) : Prop :=
  ∃ (pre : List ByteArray) (LL : List (List ByteArray)) (ys : List (Rst ByteArray)), LL.flatten.length = n ∧ pre ++ sortR strLt LL.flatten = sortR strLt ls.flatten ∧ (∀ l ∈ LL, Asc strLt l) ∧ StS Kp B B ys wr ys ∧ HeapTo (ltR strLt) ys ys.length ∧ Rests LL ys ∧ ys.length ≤ 1000 ∧ J pre wr ∧ B ≤ wr.heap.size

section
variable {T : TypeId → Bool} {Kp : Nat → Prop}
set_option maxHeartbeats 4000000 in
set_option maxRecDepth 100000 in
theorem tells_str (hT : FreeS T) (Z : Prop) (n₀ : Nat) (va : Value) (ls : List (List ByteArray)) (s1 s2 : Nat) (w : World) (h1 : Boxed w s1 58 cmpS) (h2 : Boxed w s2 42 va) (ha : RdPP strL Kp w.heap.size w va ls) (hs : ∀ l ∈ ls, Asc strLt l) (hl : ls.flatten.length ≤ 1000) :
    Tells10 Try.prog Z T Kp n₀ 50 #[.pointer (some ⟨s1, 0, none⟩), .pointer (some ⟨s2, 0, none⟩)] (fun v : ByteArray => #[.string v])
      (fun xs => xs = sortR strLt ls.flatten) (fun pre => ∃ post, pre ++ post = sortR strLt ls.flatten) 1000 w := fun L J Jx W hW hJ hJx hY h0 => by
  have BE := Lib.hid (begin_str hT va ls W ((ha.below hW).more hW.size) hl)
  have b1 := Boxed.cell (show Boxed W s1 _ _ from (hW.block s1 h1.lt).trans h1)
  have b2 := Boxed.cell (show Boxed W s2 _ _ from (hW.block s2 h2.lt).trans h2)
  have HY := Lib.hid hY
  have HJ := Lib.hid hJ
  have H0 := Lib.hid h0
  have HS := Lib.hid hs
  have HLL := Lib.hid hl
  obtain ⟨A, ca, rfl, -⟩ := ha.form
  clear hY hJ hJx h0 hW h1 h2 ha hs hl
  unfold cmpS at *
  refine (callsIn_wide (n := 4)).1 ?_
  refine callsIn_of_wp Try.func50 rfl trivial ?_ rfl
  simp only [Try.ntmps50, List.size_toArray, List.length_cons, List.length_nil, Nat.reduceAdd, Nat.reduceSub, Array.replicate_succ, Array.replicate_zero, List.push_toArray, List.append_toArray, List.nil_append, List.cons_append]
  gi_wp2_with fail
  refine ⟨trivial, (callsIn_wide.2 BE.out).mono ?_⟩
  rintro e w1 ⟨ys, rfl, hst, htw, hhe, hre, hln⟩
  have R0 := Lib.hid (show ∃ n, RelS Kp ls J W.heap.size n w1 from ⟨_, [], ls, ys, rfl, rfl, HS.out, hst, hhe, hre, hln, HJ.out _ _ _ H0.out htw, htw.size⟩)
  clear hst htw hhe hre hln b1 b2
  gi_wp2_with fail
  gi_loopw [] (fun wr => ∃ n, RelS Kp ls J W.heap.size n wr) (fun wr => leastOf fun n => RelS Kp ls J W.heap.size n wr)
  case atStart => exact R0.out
  case round =>
    have LS := Lib.hid (leastOf_spec hrel)
    clear R0 hrel
    rename World => wo
    obtain ⟨⟨pre, LL, ys, hn, hpre, has, hst, hhe, hre, hln, hj, hB⟩, hmin⟩ := LS.out
    have R1 := Lib.hid hpre
    have R2 := Lib.hid hj
    have R3 := Lib.hid hn
    have RM := Lib.hid hmin
    have HB := Lib.hid hB
    have LN := Lib.hid (len_str (T := T) () (ownT_tw (T := T) (β := Unit) wo) ys wo hst (Tw.refl _ _ _))
    cases ys with
    | nil =>
      have HE := Lib.hid (show pre = sortR strLt ls.flatten from by
        have h1 := R1.out
        rw [hre.empty] at h1
        simpa [sortR] using h1)
      rw [List.length_nil] at LN
      clear hpre hj hn hmin hB has hst hhe hre hln R1 LS R3 RM HB
      gi_wp2_with fail
      refine ⟨trivial, (callsIn_wide.2 LN.out).mono ?_⟩
      rintro e w2 ⟨rfl, -, htw2⟩
      have J2 := Lib.hid (HJ.out pre wo w2 R2.out htw2)
      clear htw2 LN R2
      gi_wp2_with fail
      refine ⟨trivial, ?_⟩
      gi_wp2_with fail
      refine ⟨fun f h => (by cases h), ?_⟩
      gi_wp2_with fail
      refine bodyPost_end (v := .tuple #[]) (results_none rfl _ _ _) rfl ?_
      exact ⟨⟨_, rfl⟩, .inl ⟨_, HE.out, J2.out⟩⟩
    | cons r xs =>
      have hxl : xs.length ≤ 999 := by simpa using hln
      have R4 := Lib.hid has
      have R5 := Lib.hid hhe
      have R6 := Lib.hid hre
      have NX := Lib.hid (fun U h => next_str hT (Kp := Kp) (B := W.heap.size) (M := W.heap.size) LL r xs (by omega) U h hhe hre)
      have hpos : decide ((0 : Int) < (((r :: xs).length : Nat) : Int)) = true := by simp
      have hposn : decide (0 < (r :: xs).length) = true := by simp
      have HL2 := Lib.hid hxl
      clear hpre hj hn hmin hB has hst hhe hre hln hxl LS
      generalize hnn : (r :: xs).length = nn at *
      have NN := Lib.hid hnn
      clear hnn
      gi_wp2_with fail
      refine ⟨trivial, (callsIn_wide.2 LN.out).mono ?_⟩
      rintro e w2 ⟨rfl, hst2, htw2⟩
      have S2 := Lib.hid hst2
      have T2 := Lib.hid htw2
      clear hst2 htw2 LN
      gi_wp2_with fail
      refine ⟨trivial, (callsIn_wide.2 (NX.out w2 S2.out)).mono ?_⟩
      rintro e w3 ⟨rfl, zs, hst3, htw3, hhe3, hre3, hln3⟩
      have HRT := Lib.hid (R6.out.root str_ahead R4.out (by rw [NN.out]; exact R5.out))
      have hple : pre.length < 1000 := by
        have h1 := congrArg List.length R1.out
        rw [HRT.out, List.length_append, List.length_cons, sortR_len, sortR_len] at h1
        have := HLL.out
        omega
      have hk := (List.getElem?_eq_some_iff.1 (R6.out.here r List.mem_cons_self)).1
      have he := R6.out.here r List.mem_cons_self
      have HAS := Lib.hid (set_asc R4.out he)
      have HPR := Lib.hid (show (pre ++ [r.head]) ++ sortR strLt (LL.set r.place r.tail).flatten = sortR strLt ls.flatten from by rw [← R1.out, HRT.out]; simp)
      have HLE := Lib.hid (show (LL.set r.place r.tail).flatten.length < LL.flatten.length from by
        have h1 := congrArg List.length HRT.out
        rw [List.length_cons, sortR_len, sortR_len] at h1
        omega)
      have S3 := Lib.hid hst3
      have Z4 := Lib.hid hhe3
      have Z5 := Lib.hid hre3
      have Z6 := Lib.hid (show zs.length ≤ 1000 from by have := HL2.out; omega)
      have HB3 := Lib.hid (show W.heap.size ≤ w3.heap.size from Nat.le_trans HB.out (T2.out.trans htw3).size)
      obtain ⟨fn, tmps, assign, body, hy, hR⟩ := HY.out pre r.head w3 (HJ.out pre wo w3 R2.out (T2.out.trans htw3)) hple HB3.out
      clear hst3 htw3 hhe3 hre3 hln3 hple hk he NX S2 T2 R1 R2 R4 R5 R6 hpos hposn
      gi_wp2_with fail
      refine RoundIn.mono (round_wide _ hR) ?_
      clear hy hR
      rintro e w4 ⟨(⟨rfl, hj4⟩ | ⟨hz, rfl, hj4⟩), hk4⟩
      · have J4 := Lib.hid hj4
        have S4 := Lib.hid (S3.out.kept hk4 hT.m hT.p hT.r)
        have HB4 := Lib.hid (Nat.le_trans HB3.out hk4.size)
        clear hj4 hk4
        gi_wp2_with fail
        have RN := Lib.hid (show RelS Kp ls J W.heap.size (LL.set r.place r.tail).flatten.length w4 from ⟨pre ++ [r.head], _, zs, rfl, HPR.out, HAS.out, S4.out, Z4.out, Z5.out, Z6.out, J4.out, HB4.out⟩)
        go_roundw
        case rel => exact ⟨_, RN.out⟩
        case measure =>
          have h1 := (leastOf_spec (p := fun n => RelS Kp ls J W.heap.size n w4) ⟨_, RN.out⟩).2 _ RN.out
          have h2 := HLE.out
          have h3 := R3.out
          omega
      · have J4 := Lib.hid hj4
        have HZ := Lib.hid hz
        clear hj4 hk4
        gi_wp2_with fail
        refine bodyPost_end (v := .tuple #[]) (results_none rfl _ _ _) rfl ?_
        exact ⟨⟨_, rfl⟩, .inr ⟨_, ⟨_, HPR.out⟩, J4.out⟩⟩
end
end Go.Proofs.Ytnioiojafnkmhaa
