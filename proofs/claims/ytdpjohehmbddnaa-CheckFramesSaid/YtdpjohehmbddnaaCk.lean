/- Layer 3: the frames at the beginning, told one by one: the program's iterator. -/
import Derived.Test.YtdpjohehmbddnaaCj
import Derived.Test.YtdpjohehmbddnaaBnew
import Derived.RangeFuncBound
import Derived.RangeFuncLeaves
import Derived.Shelf.Abstract
import Derived.Shelf.RegionOpen
import Derived.OwnWalkIn
import Derived.TacticsInMore
import Derived.LoopNIn
import Derived.LoopIn
namespace Go.Proofs.Ytdpjohehmbddnaa
open Go.RowKit Go.Shelf
set_option linter.unusedVariables false
attribute [local go_sem] Oper.semAt_some

/-- A frame as it is told: a slice that reads so, below n₀. -/
def Fr (w : World) (n₀ : Nat) : Type := { p : Value × List UInt8 // RdB w n₀ p.1 p.2 ∧ 8 ≤ p.2.length ∧ p.2.length ≤ 1000000 }
def Fr.sum {w : World} {n₀ : Nat} (xs : List (Fr w n₀)) : Nat := (xs.map fun x => x.1.2.length).sum
def Fr.bodies {w : World} {n₀ : Nat} (xs : List (Fr w n₀)) : List (List UInt8) := xs.map fun x => x.1.2.drop 8

theorem RdB.back {w w' : World} {B : Nat} {v : Value} {l : List UInt8} (h : RdB w' B v l) (hb : Below B w w') : RdB w B v l := by
  obtain ⟨A, c, rfl, h1, h2, h3⟩ := h
  refine ⟨A, c, rfl, h1, h2, fun hp => ?_⟩
  obtain ⟨b, o, rfl, hB, hc⟩ := h3 hp
  exact ⟨b, o, rfl, hB, fun k p hk => (hb.cell (p := ⟨b, _, none⟩) hB).symm.trans (hc k p hk)⟩
theorem Fr.sum_snoc {w : World} {n₀ : Nat} (xs : List (Fr w n₀)) (x : Fr w n₀) : Fr.sum (xs ++ [x]) = Fr.sum xs + x.1.2.length := by simp [Fr.sum]
theorem Fr.bodies_snoc {w : World} {n₀ : Nat} (xs : List (Fr w n₀)) (x : Fr w n₀) : Fr.bodies (xs ++ [x]) = Fr.bodies xs ++ [x.1.2.drop 8] := by simp [Fr.bodies]
def slen : Value → Nat
  | .slice _ n _ => n
  | _ => 0

set_option maxRecDepth 100000 in
set_option maxHeartbeats 1000000 in
theorem frames_stops (n n₀ Bn : Nat) (v : Value) (l : List UInt8) (w : World) (hn : n₀ ≤ w.heap.size) (hc : w.cell? ⟨Bn, 0, none⟩ = some v) (hBn : Bn < w.heap.size) (hr : RdB w n₀ v l) (hl : l.length ≤ 1000000) :
    SeqStopsK Fence.wide n Try.prog 31 #[.pointer (some ⟨Bn, 0, none⟩)] (fun x : Fr w n₀ => #[x.1.1]) (Below n₀)
      (fun xs => frs l = (Fr.bodies xs, Fr.sum xs)) (fun _ => True) l.length w := fun L J Jx W hW hJ hJx hY h0 => by
  have hcW : W.cell? ⟨Bn, 0, none⟩ = some v := (hW.cell (p := ⟨Bn, 0, none⟩) hBn).trans hc
  have hbW : Below n₀ w W := hW.mono hn
  have R := Lib.hid hr
  have HY := Lib.hid hY
  have HJ := Lib.hid hJ
  have HJx := Lib.hid hJx
  have H0 := Lib.hid h0
  have G := Lib.hid hbW
  clear hY hJ hJx h0 hW hbW
  obtain ⟨A, c, rfl, -⟩ := hr
  refine callsIn_of_wp Try.func31 rfl trivial ?_ rfl
  simp only [Try.ntmps31, List.size_toArray, List.length_cons, List.length_nil, Nat.reduceAdd, Nat.reduceSub, Array.replicate_succ, Array.replicate_zero, List.push_toArray, List.append_toArray, List.nil_append, List.cons_append]
  gi_wp2
  gi_loopw [3] (fun x wr => ∃ (pre : List (Fr w n₀)) (k : Nat), RdB w n₀ x (l.drop k) ∧ k ≤ l.length ∧ pre.length ≤ k ∧ Fr.sum pre = k ∧ frs l = (Fr.bodies pre ++ (frs (l.drop k)).1, k + (frs (l.drop k)).2) ∧ J pre wr ∧ Below n₀ w wr) (fun x _ => slen x)
  case atStart => exact ⟨[], 0, R.out, Nat.zero_le _, Nat.zero_le _, rfl, by simp [Fr.bodies], H0.out, G.out⟩
  case round =>
    obtain ⟨pre, k, hrk, hk, hpk, hsum, hfr, hj, hb⟩ := hrel
    have PK := Lib.hid hpk
    have SM := Lib.hid hsum
    have HJP := Lib.hid hj
    have GB := Lib.hid hb
    have hlk : (l.drop k).length = l.length - k := List.length_drop ..
    have hdr : ∀ n, l.drop (k + n) = (l.drop k).drop n := fun n => by rw [List.drop_drop]
    generalize l.drop k = m at *
    have FR := Lib.hid hfr
    have RK := Lib.hid hrk
    have DR := Lib.hid hdr
    have LK := Lib.hid hlk
    obtain ⟨Ak, ck, rfl, -⟩ := hrk
    clear hpk hsum hfr hj hb hdr hlk
    gi_wp2_with fail
    refine ⟨trivial, fun h => (by cases h), (callsIn_wide.2 (chk_first_d _ _ m _ (RK.out.below GB.out) (by have := LK.out; omega))).mono ?_⟩
    rintro e w1 ⟨v1, rfl, hr1, q1, rfl⟩
    by_cases hw : whole m = true
    · have hm8 : 8 ≤ m.length ∧ 8 + dec4 m ≤ m.length := by unfold whole at hw; simpa using hw
      rw [hw] at hr1 ⊢
      simp only [if_true] at hr1
      have hfl : (m.take (8 + dec4 m)).length = 8 + dec4 m := by rw [List.length_take]; omega
      have R1 := Lib.hid hr1
      obtain ⟨A1, c1, rfl, -⟩ := hr1
      rw [hfl]
      gi_wp2_with fail
      rw [← hfl]
      refine ⟨trivial, fun h => (by cases h), (callsIn_wide.2 (chk_summed_d _ _ _ _ (R1.out.drewN q1) (by omega))).mono ?_⟩
      rintro e w2 ⟨rfl, q2, rfl⟩
      by_cases hs : summed (m.take (8 + dec4 m)) = true
      · have hfst := fst1_good hw hs
        have hfs := frs_ok m (by rw [hfst])
        rw [hfst] at hfs
        have hd8 := drop8_take m (dec4 m)
        rw [hs]
        simp only at hfs
        rw [← hd8] at hfs
        clear hd8 hfst hs hw
        have hdm : m.drop (8 + dec4 m) = l.drop (k + (8 + dec4 m)) := (DR.out _).symm
        rw [hdm] at hfs
        generalize m.take (8 + dec4 m) = f at *
        generalize dec4 m = d at *
        have FS := Lib.hid hfs
        clear hfs hdm
        obtain ⟨x, hx1, hx2⟩ : ∃ x : Fr w n₀, x.1.1 = .slice A1 f.length c1 ∧ x.1.2 = f := ⟨⟨(_, f), R1.out.back GB.out, by show 8 ≤ f.length; omega, by have := LK.out; show f.length ≤ 1000000; omega⟩, rfl, rfl⟩
        obtain ⟨A3, c3, hsl, hrs⟩ := sl_tail (RK.out) (8 + d) ((8 : Int) + (d : Int)) (by omega) (by omega)
        rw [← DR.out] at hrs
        have XB := Lib.hid (show Fr.bodies (pre ++ [x]) = Fr.bodies pre ++ [f.drop 8] from by rw [Fr.bodies_snoc, hx2])
        have XS := Lib.hid (show Fr.sum (pre ++ [x]) = k + (8 + d) from by rw [Fr.sum_snoc, hx2, SM.out, hfl])
        obtain ⟨fn, tmps, assign, body, hy, hR⟩ := HY.out pre x (wr.drewN (q1 + q2)) (HJ.out _ _ _ none HJP.out ⟨rfl, rfl, rfl, Nat.le_refl _, fun _ _ _ => rfl⟩ (fun _ e => by cases e)) (by have := PK.out; have := LK.out; omega)
        rw [hx1, hfl] at hy
        have RS := Lib.hid hrs
        clear hrs
        rw [hfl]
        gi_wp2_with fail
        refine ⟨fun h => (by cases h), hR.mono ?_⟩
        clear hy hR
        rintro e W3 (⟨rfl, hJ3, hk3⟩ | ⟨rfl, hJx3⟩)
        · have J3 := Lib.hid hJ3
          have K3 := Lib.hid (((GB.out.drewN (q1 + q2)).trans hk3))
          clear hJ3 hk3
          gi_wp2_with fail
          go_roundw
          case rel => exact ⟨pre ++ [x], k + (8 + d), RS.out, by have := LK.out; omega, by have := PK.out; simp; omega, XS.out, by rw [FR.out, FS.out, XB.out]; simp [Nat.add_assoc], J3.out, K3.out⟩
          case measure => simp [slen]; omega
        · have J3 := Lib.hid hJx3
          clear hJx3
          gi_wp2_with fail
          refine bodyPost_ret (results_none rfl _ _ _) rfl ?_
          exact ⟨⟨_, rfl⟩, .inr ⟨pre ++ [x], trivial, J3.out⟩⟩
      · have hs : summed (m.take (8 + dec4 m)) = false := by simpa using hs
        have hfs := frs_end m (by rw [fst1_bad hw hs]; simp)
        have FF := Lib.hid (show frs l = (Fr.bodies pre, Fr.sum pre) from by rw [FR.out, hfs, SM.out]; simp)
        have hJd := Lib.hid (HJ.out _ _ _ none HJP.out (show wr.grownBy (wr.drewN (q1 + q2)) none from ⟨rfl, rfl, rfl, Nat.le_refl _, fun _ _ _ => rfl⟩) (fun _ e => by cases e))
        rw [hs, hfl]
        clear hfs hs hw hm8
        gi_wp2_with fail
        refine ⟨fun _ h => (by cases h), ?_⟩
        gi_wp2_with fail
        refine bodyPost_ret (results_none rfl _ _ _) rfl ?_
        exact ⟨⟨_, rfl⟩, .inl ⟨pre, FF.out, hJd.out⟩⟩
    · have hw : whole m = false := by simpa using hw
      have hfs := frs_end m (by rw [fst1_out hw]; simp)
      have FF := Lib.hid (show frs l = (Fr.bodies pre, Fr.sum pre) from by rw [FR.out, hfs, SM.out]; simp)
      have hJd := Lib.hid (HJ.out _ _ _ none HJP.out (show wr.grownBy (wr.drewN q1) none from ⟨rfl, rfl, rfl, Nat.le_refl _, fun _ _ _ => rfl⟩) (fun _ e => by cases e))
      rw [hw] at hr1 ⊢
      clear hfs hw hr1
      gi_wp2_with fail
      refine ⟨trivial, ?_⟩
      gi_wp2_with fail
      refine ⟨fun _ h => (by cases h), ?_⟩
      gi_wp2_with fail
      refine bodyPost_ret (results_none rfl _ _ _) rfl ?_
      exact ⟨⟨_, rfl⟩, .inl ⟨pre, FF.out, hJd.out⟩⟩
end Go.Proofs.Ytdpjohehmbddnaa
