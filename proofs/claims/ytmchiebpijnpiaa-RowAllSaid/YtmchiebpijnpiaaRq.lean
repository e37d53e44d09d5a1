/- Layer 6: the document's example; the first 500 bytes. -/
import Derived.Test.YtmchiebpijnpiaaRn
import Derived.Test.YtmchiebpijnpiaaOB
namespace Go.Proofs.Ytmchiebpijnpiaa
open Go.RowKit
set_option linter.unusedVariables false

def exKey : ByteArray := ⟨(Ord.keyBytes 0 ⟨#[97]⟩).toArray⟩
def exV : Ver := ⟨exKey, 0, 1, 2, (5, 7), ⟨#[120]⟩, false⟩
theorem ex_split : (Ord.splitOf (Ord.keyBytes 0 ⟨#[97]⟩)).2.2 = 0 := by
  have h : Ord.keyBytes 0 ⟨#[97]⟩ = Ord.encParts [⟨false, 0, ⟨#[]⟩⟩, ⟨true, 0, ⟨#[97]⟩⟩] := by simp [Ord.keyBytes, Ord.encParts]
  rw [h]
  unfold Ord.splitOf
  rw [Ord.rdAll_written _ (by intro p hp; simp at hp; rcases hp with rfl | rfl <;> simp)]
  rfl
theorem ex_may : mayV exV = true := by
  unfold mayV
  rw [show (Ord.splitOf exV.key.data.toList).2.2 = 0 from ex_split]
  decide
theorem ex_enc : ∃ t, encV exV = [0, 1, 2, 5, 2, 0] ++ t ∧ 0 < t.length := by
  refine ⟨encT exV.key ++ encT exV.val, ?_, ?_⟩
  · have h : encNs (numsV exV) = [0, 1, 2, 5, 2, 0] := by
      show encNs [0, 1, 2, 5, 2, 0] = _
      simp only [encNs, List.flatMap_cons, List.flatMap_nil]
      rw [show (0 : Int).toNat = 0 from rfl, show (1 : Int).toNat = 1 from rfl, show (2 : Int).toNat = 2 from rfl, show (5 : Int).toNat = 5 from rfl, encN_lt (by omega), encN_lt (by omega), encN_lt (by omega), encN_lt (by omega)]
      rfl
    unfold encV
    rw [h, List.append_assoc]
  · have := encN_pos exV.key.size
    unfold encT
    simp only [List.length_append]
    omega

/-- The first 500 bytes. -/
theorem few_any (v : Value) (l : List UInt8) (w : World) {B : Nat} (h : RdB w B v l) :
    Calls Try.prog 11 #[v] w fun e w' => ∃ v', e = .returned v' ∧ RdB w B v' (l.take 500) ∧ w = w' := by
  have H := Lib.hid h
  by_cases h1 : 500 < l.length
  · obtain ⟨A, c, h2, h3⟩ := sl_head h 500 500 rfl (by omega)
    have H3 := Lib.hid h3
    obtain ⟨A0, c0, rfl, -⟩ := h
    clear h3
    go_enter Try.func11, Try.ntmps11
    go_wp2
    go_ret
    exact ⟨_, rfl, H3.out, rfl⟩
  · have H3 := Lib.hid (show l.take 500 = l from List.take_of_length_le (by omega))
    obtain ⟨A0, c0, rfl, -⟩ := h
    go_enter Try.func11, Try.ntmps11
    go_wp2
    go_ret
    refine ⟨_, rfl, ?_, rfl⟩
    rw [H3.out]
    exact H.out

set_option maxHeartbeats 2000000 in
theorem lives_any (w : World) : Calls Try.prog 15 #[] w fun e w' => e = .returned (.bool true) ∧ Below w.heap.size w w' := by
  have KY := Lib.hid (fun w => Ord.ref_key 0 ⟨#[97]⟩ w (by omega) (by omega) (by decide))
  have hks : exKey.size ≤ 92 := may_key ex_may
  have WR := Lib.hid (fun w => row_write exV w (show exKey.size ≤ 1000000 from by omega))
  have MY := Lib.hid (fun w => row_may exV w (show exKey.size ≤ 1000000 from by omega))
  rw [ex_may] at WR MY
  simp only [if_true] at WR
  obtain ⟨t, het, htp⟩ := ex_enc
  have hlen : (encV exV).length ≤ 1300 := encV_len ex_may (show exKey.size ≤ 1000 from by omega)
  rw [het] at WR hlen
  unfold exV verV at WR MY
  rw [show (⟨(Ord.keyBytes 0 ⟨#[97]⟩).toArray⟩ : ByteArray) = exKey from rfl] at KY
  simp only at WR MY
  clear het hks
  generalize exKey = key at *
  go_enter Try.func15, Try.ntmps15
  go_wp2_with fail
  refine (KY.out _).mono ?_
  rintro z w1 ⟨rfl, hb1⟩
  have G := Lib.hid hb1
  clear hb1
  have BX := Lib.hid (Box.new w1 #[.string key, .int .i64 0, .int .i64 1, .int .i64 2, .int .i64 5, .int .i64 7, .string ⟨#[120]⟩, .bool false] 27 _ rfl)
  have G := Lib.hid (G.out.trans ((alloc_below w1 (.cells #[.string key, .int .i64 0, .int .i64 1, .int .i64 2, .int .i64 5, .int .i64 7, .string ⟨#[120]⟩, .bool false] 27)).mono G.out.size))
  go_wp2_with fail
  generalize w1.alloc (.cells #[.string key, .int .i64 0, .int .i64 1, .int .i64 2, .int .i64 5, .int .i64 7, .string ⟨#[120]⟩, .bool false] 27) = w2 at *
  refine (WR.out _).mono ?_
  rintro z w3 ⟨v3, rfl, ho3, hb3⟩
  have BX := Lib.hid (BX.out.later hb3)
  have G := Lib.hid (G.out.trans (hb3.mono G.out.size))
  obtain ⟨A6, c6', hsl, hr6⟩ := sl_head ho3.rd 6 6 rfl (by simp)
  have hcv := fun W (hW : RdB W w3.heap.size (.slice A6 6 c6') (([0, 1, 2, 5, 2, 0] ++ t).take 6)) => RdB.str hW
  have hcv := hcv w3 hr6
  rw [show (([0, 1, 2, 5, 2, 0] : List UInt8) ++ t).take 6 = [0, 1, 2, 5, 2, 0] from by simp] at hcv
  obtain ⟨A3, k3, e3, -⟩ := own_cap ho3
  subst e3
  rw [show (([0, 1, 2, 5, 2, 0] : List UInt8) ++ t).length = 6 + t.length from by simp; omega] at *
  have zl : decide ((6 : Int) < ((6 + t.length : Nat) : Int)) = true := by simp; omega
  have c0 := BX.out.cell 0 (.string key) rfl
  have c1 := BX.out.cell 1 (.int .i64 0) rfl
  have c2 := BX.out.cell 2 (.int .i64 1) rfl
  have c3 := BX.out.cell 3 (.int .i64 2) rfl
  have c4 := BX.out.cell 4 (.int .i64 5) rfl
  have c5 := BX.out.cell 5 (.int .i64 7) rfl
  have c6 := BX.out.cell 6 (.string ⟨#[120]⟩) rfl
  have c7 := BX.out.cell 7 (.bool false) rfl
  clear ho3 hb3 hr6
  generalize 6 + t.length = n at *
  go_wp2_with fail
  refine (MY.out _).mono ?_
  rintro z w4 ⟨rfl, hb4⟩
  have G := Lib.hid (G.out.trans (hb4.mono G.out.size))
  clear hb4
  go_wp2_with fail
  go_ret
  exact ⟨rfl, G.out⟩
end Go.Proofs.Ytmchiebpijnpiaa
