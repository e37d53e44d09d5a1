/- Layer 9: the document's example. -/
import Derived.Test.YtefjdmlmmoeoaaaTd
import Derived.Test.YtefjdmlmmoeoaaaUl
import Derived.Test.YtefjdmlmmoeoaaaWn
import Derived.Test.YtefjdmlmmoeoaaaWo
namespace Go.Proofs.Ytefjdmlmmoeoaaa
open Go.RowKit
set_option linter.unusedVariables false

def ex9V (key : ByteArray) (i : Nat) : Ver := ⟨key, 0, 1, 1 + (i : Int), (0, 1), ⟨#[]⟩, false⟩
def ex9 (key : ByteArray) (n : Nat) : List Ver := (List.range n).map (ex9V key)
theorem ex9_len (key : ByteArray) (n : Nat) : (ex9 key n).length = n := by simp [ex9]
theorem ex9_snoc (key : ByteArray) (n : Nat) : ex9 key (n + 1) = ex9 key n ++ [ex9V key n] := by unfold ex9; rw [List.range_succ, List.map_append]; rfl
theorem ex9_get (key : ByteArray) (n i : Nat) (h : i < n) : (ex9 key n).getD i zeroV = ex9V key i := by
  unfold ex9
  rw [List.getD_eq_getElem?_getD, List.getElem?_map, List.getElem?_range h]
  rfl
theorem ex9_may {k : ByteArray} (h : (Ord.splitOf k.data.toList).2.2 = 0) (i : Nat) (hi : i < 9) : mayV (ex9V k i) = true := by
  unfold mayV
  rw [show (Ord.splitOf (ex9V k i).key.data.toList).2.2 = 0 from h]
  have : i = 0 ∨ i = 1 ∨ i = 2 ∨ i = 3 ∨ i = 4 ∨ i = 5 ∨ i = 6 ∨ i = 7 ∨ i = 8 := by omega
  rcases this with rfl | rfl | rfl | rfl | rfl | rfl | rfl | rfl | rfl <;> rfl
theorem ex9_less (k : ByteArray) (i : Nat) : lessV (ex9V k i) (ex9V k (i + 1)) = true := by
  unfold lessV ex9V; simp; try omega
theorem ex9_ok {k : ByteArray} (h : (Ord.splitOf k.data.toList).2.2 = 0) : ∀ n, n ≤ 9 → okTo (ex9 k n) (ex9 k n).length = true
  | 0, _ => rfl
  | n + 1, hn => by
    rw [ex9_snoc]
    refine okTo_snoc (ex9_ok h n (by omega)) (ex9_may h n (by omega)) ?_
    rcases Nat.eq_zero_or_pos n with h0 | h0
    · left; rw [h0]; rfl
    · right
      obtain ⟨m, rfl⟩ : ∃ m, n = m + 1 := ⟨n - 1, by omega⟩
      rw [ex9_len, ex9_get _ _ _ (by omega)]
      exact ex9_less k m
theorem ex9_key (k : ByteArray) (n : Nat) : ∀ v ∈ ex9 k n, v.key = k ∧ v.b = 0 ∧ v.e = 1 := by
  intro v hv
  unfold ex9 at hv
  obtain ⟨i, -, rfl⟩ := List.mem_map.1 hv
  exact ⟨rfl, rfl, rfl⟩
theorem ex9_filter (k : ByteArray) (n : Nat) : ((ex9 k n).filter fun v => decide (v.key = k) && decide (v.b = 0) && decide (v.e ≤ 1)) = ex9 k n := by
  rw [List.filter_eq_self]
  intro v hv
  obtain ⟨h1, h2, h3⟩ := ex9_key k n v hv
  simp [h1, h2, h3]

set_option maxHeartbeats 4000000 in
set_option maxRecDepth 100000 in
theorem lives_any9 (w : World) : Calls Try.prog 16 #[] w fun e w' => e = .returned (.bool true) ∧ Below w.heap.size w w' := by
  have KY := Lib.hid (fun w => Ord.ref_key 0 ⟨#[107]⟩ w (by omega) (by omega) (by decide))
  rw [show (⟨(Ord.keyBytes 0 ⟨#[107]⟩).toArray⟩ : ByteArray) = k8 from rfl] at KY
  have hks := k8_size
  have h9 := ex9_ok k8_split 9 (Nat.le_refl _)
  have hlen := ex9_len k8 9
  have hkm : ∀ v ∈ ex9 k8 9, v.key.size ≤ 1000000 := fun v hv => by rw [(ex9_key k8 9 v hv).1]; omega
  have BU := Lib.hid (fun va w h => run_build va (ex9 k8 9) w h (by rw [hlen]; omega) hkm)
  rw [if_pos h9, if_pos h9] at BU
  have hle : (encRun (ex9 k8 9)).length ≤ 20000 := by
    have h := encRun_len h9 (by rw [hlen]; omega)
    have h2 : many8 (ex9 k8 9) = 2 := by unfold many8; rw [hlen]
    omega
  have OP := Lib.hid (fun va w h => run_open va (encRun (ex9 k8 9)) w h hle)
  have HYES := Lib.hid (show IsRun (encRun (ex9 k8 9)) (ex9 k8 9) from ⟨h9, rfl⟩)
  have HIN := Lib.hid (fun l (h : IsRun (encRun (ex9 k8 9)) l) => IsRun.inj h HYES.out (by omega))
  have LN := Lib.hid (fun p base w h => run_len p (ex9 k8 9) base w h (by rw [hlen]; omega))
  rw [hlen] at LN
  have LA := Lib.hid (fun p base w h => run_last p (ex9 k8 9) base k8 0 1 w h h9 (by rw [hlen]; omega))
  rw [ex9_filter] at LA
  rw [show lastV (ex9 k8 9) = ex9V k8 8 from by rw [ex9_snoc, lastV_snoc], show decide (ex9 k8 9 ≠ []) = true from by rw [decide_eq_true_iff]; intro h; rw [h] at hlen; cases hlen] at LA
  unfold verV ex9V at LA
  simp only at LA
  have H0 := Lib.hid (show ∀ (h : 0 < (ex9 k8 9).length), (ex9 k8 9)[0] = ex9V k8 0 from fun h => by rw [← getD_at h, ex9_get _ _ _ (by omega)])
  have HSN := Lib.hid (ex9_snoc k8)
  have HLN := Lib.hid (ex9_len k8)
  generalize encRun (ex9 k8 9) = bb at *
  have HLE := Lib.hid hle
  clear h9 hlen hkm hle hks
  have H0L := Lib.hid (show 0 < (ex9 k8 9).length from by rw [HLN.out]; omega)
  generalize k8 = key at *
  go_enter Try.func16, Try.ntmps16
  go_wp2_with fail
  go_loopw [1, 2] (fun x i wr => ∃ k : Nat, i = .int .i64 k ∧ k ≤ 9 ∧ OwnVr wr w.heap.size x (ex9 key k) ∧ Below w.heap.size w wr) (fun _ i _ => 9 - (intOf i).toNat)
  case atStart => exact ⟨0, rfl, Nat.zero_le _, OwnX.nil _ _, Below.refl _ _⟩
  case round =>
    obtain ⟨k, rfl, hk, ho, hb⟩ := hrel
    have O := Lib.hid ho
    have G := Lib.hid hb
    clear ho hb
    by_cases hlt : k < 9
    · have z1 : decide ((k : Int) < 9) = true := by simp; omega
      have hw1 : IntKind.i64.wrap (1 + (k : Int)) = 1 + (k : Int) := by rw [IntKind.wrap_i64]; omega
      have FS := Lib.hid (HSN.out k)
      unfold ex9V at FS
      have hal1 := Lib.hid (show (ex9 key k).length + 1 ≤ 1000000000 from by rw [HLN.out]; omega)
      generalize ex9 key k = acc at *
      go_wp2_with fail
      refine (KY.out _).mono ?_
      rintro z w1 ⟨rfl, hb⟩
      have hgz := G.out.size
      have O := Lib.hid (O.out.on hb)
      have G := Lib.hid (G.out.trans (hb.mono hgz))
      clear hb hgz
      have hsz := Lib.hid G.out.size
      go_wp2_with (at_builtin; refine wpl_appX rfl (.tmp 13) (.tmp 20) rfl Try.underlying22 ver_info rfl w.heap.size _ acc [(⟨key, 0, 1, 1 + (k : Int), (0, 1), ⟨#[]⟩, false⟩ : Ver)] _ _ _ rfl rfl rfl rfl O.out hsz.out hal1.out (by decide) ?_; intro v5 w5 ho5 hg5 hb5)
      have OZ := Lib.hid (show OwnVr w5 w.heap.size v5 (ex9 key (k + 1)) from by rw [FS.out]; exact ho5)
      have GZ := Lib.hid (G.out.trans hb5)
      clear ho5 hg5 hb5
      go_roundw
      case rel => exact ⟨k + 1, by go_num, by omega, OZ.out, GZ.out⟩
      case measure => simp [intOf]; omega
    · obtain rfl : k = 9 := by omega
      obtain ⟨A1, c1, e1, -⟩ := O.out.rd
      subst e1
      clear hk hlt
      have hln := HLN.out 9
      rw [hln]
      clear hln
      go_wp2_with fail
      refine (BU.out _ _ (by have := O.out.rd; rw [HLN.out] at this; exact this)).mono ?_
      rintro z w2 ⟨v2, rfl, ho2, hb2⟩
      have O := Lib.hid (O.out.on hb2)
      have G := Lib.hid (G.out.trans (hb2.mono G.out.size))
      have O2 := Lib.hid ho2
      obtain ⟨A2, c2, e2, -⟩ := own_cap ho2
      subst e2
      clear ho2 hb2
      go_wp2_with fail
      refine (OP.out _ _ O2.out.rd).mono ?_
      rintro z w3 ⟨p, e, rfl, hb3, hor⟩
      have O := Lib.hid (O.out.on hb3)
      have G := Lib.hid (G.out.trans (hb3.mono G.out.size))
      clear hb3
      rcases hor with ⟨l', rfl, hr, -, hat⟩ | ⟨-, -, hno⟩
      case inr => exact absurd HYES.out (hno _)
      obtain rfl := HIN.out _ hr
      have RA := Lib.hid hat
      obtain ⟨nr, vb, rfl, -⟩ := hat
      clear hr
      obtain ⟨b', o', eA, -, c0, -⟩ := RdVr.here O.out.rd 0 H0L.out
      subst eA
      rw [H0.out] at c0
      simp only [ex9V, Nat.zero_mul, Nat.add_zero] at c0
      go_wp2_with fail
      refine (LA.out _ _ _ RA.out).mono ?_
      rintro z w4 ⟨rfl, hb4⟩
      have RA := Lib.hid (RA.out.on hb4)
      have G := Lib.hid (G.out.trans (hb4.mono G.out.size))
      clear hb4 c0
      have G4 := Lib.hid (G.out.trans ((alloc_below w4 (.cells #[.string key, .int .i64 0, .int .i64 1, .int .i64 9, .int .i64 0, .int .i64 1, .string ⟨#[]⟩, .bool false] 42)).mono G.out.size))
      have RA := Lib.hid (RA.out.on (alloc_below w4 (.cells #[.string key, .int .i64 0, .int .i64 1, .int .i64 9, .int .i64 0, .int .i64 1, .string ⟨#[]⟩, .bool false] 42)))
      have BX := Lib.hid (Box.new w4 #[.string key, .int .i64 0, .int .i64 1, .int .i64 9, .int .i64 0, .int .i64 1, .string ⟨#[]⟩, .bool false] 42 _ rfl)
      go_wp2_with fail
      refine (LN.out _ _ _ RA.out).mono ?_
      rintro z w5 ⟨rfl, hb5⟩
      have BX := Lib.hid (BX.out.later hb5)
      have G := Lib.hid (G4.out.trans (hb5.mono G4.out.size))
      clear hb5
      have c3 := BX.out.cell 3 (.int .i64 9) rfl
      go_wp2_with fail
      go_ret
      exact ⟨rfl, G.out⟩
end Go.Proofs.Ytefjdmlmmoeoaaa
