/- Layer 8: the document's example. -/
import Derived.Test.YtecomnklofceaaaUg
import Derived.Test.YtecomnklofceaaaRq
namespace Go.Proofs.Ytecomnklofceaaa
open Go.RowKit
set_option linter.unusedVariables false

theorem comN_self : ∀ a : List UInt8, comN a a = a.length
  | [] => rfl
  | x :: a => by rw [comN, if_pos rfl, comN_self a]; rfl
theorem com_self (a : ByteArray) : com a a = a.size := by unfold com; rw [comN_self]; simp

def k8 : ByteArray := ⟨(Ord.keyBytes 0 ⟨#[107]⟩).toArray⟩
theorem k8_split : (Ord.splitOf k8.data.toList).2.2 = 0 := by
  show (Ord.splitOf (Ord.keyBytes 0 ⟨#[107]⟩)).2.2 = 0
  have h : Ord.keyBytes 0 ⟨#[107]⟩ = Ord.encParts [⟨false, 0, ⟨#[]⟩⟩, ⟨true, 0, ⟨#[107]⟩⟩] := by simp [Ord.keyBytes, Ord.encParts]
  rw [h]
  unfold Ord.splitOf
  rw [Ord.rdAll_written _ (by intro p hp; simp at hp; rcases hp with rfl | rfl <;> simp)]
  rfl
theorem k8_size : 2 ≤ k8.size ∧ k8.size ≤ 92 := by
  constructor
  · decide
  · exact key_long (l := k8.data.toList) k8_split |> fun h => by simpa using h
theorem ex8_may {k : ByteArray} (h : (Ord.splitOf k.data.toList).2.2 = 0) (s : Int) (hs : s = 1 ∨ s = 2) : mayV ⟨k, 0, 1, s, (0, 1), ⟨#[]⟩, false⟩ = true := by
  unfold mayV
  rw [show (Ord.splitOf (Ver.key ⟨k, 0, 1, s, (0, 1), ⟨#[]⟩, false⟩).data.toList).2.2 = 0 from h]
  rcases hs with rfl | rfl <;> rfl
theorem ex8_blk {k : ByteArray} (h : (Ord.splitOf k.data.toList).2.2 = 0) : blkB [⟨k, 0, 1, 1, (0, 1), ⟨#[]⟩, false⟩, ⟨k, 0, 1, 2, (0, 1), ⟨#[]⟩, false⟩] = true := by
  have h1 := ex8_may h 1 (.inl rfl)
  have h2 := ex8_may h 2 (.inr rfl)
  have h3 : lessV ⟨k, 0, 1, 1, (0, 1), ⟨#[]⟩, false⟩ ⟨k, 0, 1, 2, (0, 1), ⟨#[]⟩, false⟩ = true := by unfold lessV; simp
  unfold blkB okTo
  simp [List.range_succ, okAt, h1, h2, h3]
theorem encN_one {n : Nat} (h : n < 128) : (encN n).length = 1 := by rw [encN_lt h]; rfl
theorem ex8_len {k : ByteArray} (hk : k.size ≤ 92) : (encBlk [⟨k, 0, 1, 1, (0, 1), ⟨#[]⟩, false⟩, ⟨k, 0, 1, 2, (0, 1), ⟨#[]⟩, false⟩]).length = k.size + 19 := by
  have e0 : com ⟨#[]⟩ k = 0 := by have := (com_le ⟨#[]⟩ k).1; have h : (ByteArray.mk #[]).size = 0 := rfl; omega
  have e1 : com k k = k.size := com_self k
  have hs0 : (ByteArray.mk #[]).size = 0 := rfl
  have hr0 : (restK ⟨#[]⟩ ⟨k, 0, 1, 1, (0, 1), ⟨#[]⟩, false⟩).size = k.size := by rw [restK_size]; show k.size - com ⟨#[]⟩ k = _; rw [e0]; rfl
  have hr1 : (restK k ⟨k, 0, 1, 2, (0, 1), ⟨#[]⟩, false⟩).size = 0 := by rw [restK_size]; show k.size - com k k = _; rw [e1]; omega
  have ht : ∀ s : ByteArray, s.size < 128 → (encT s).length = 1 + s.size := fun s h => by unfold encT; rw [List.length_append, encN_one h]; simp
  have hn1 : (encNs (numsV ⟨k, 0, 1, 1, (0, 1), ⟨#[]⟩, false⟩)).length = 6 := by
    show (encNs [0, 1, 1, 0, 1, 0]).length = 6
    simp only [encNs, List.flatMap_cons, List.flatMap_nil, List.length_append, List.length_nil]
    rw [show (0 : Int).toNat = 0 from rfl, show (1 : Int).toNat = 1 from rfl, encN_one (by omega), encN_one (by omega)]
  have hn2 : (encNs (numsV ⟨k, 0, 1, 2, (0, 1), ⟨#[]⟩, false⟩)).length = 6 := by
    show (encNs [0, 1, 2, 0, 1, 0]).length = 6
    simp only [encNs, List.flatMap_cons, List.flatMap_nil, List.length_append, List.length_nil]
    rw [show (0 : Int).toNat = 0 from rfl, show (1 : Int).toNat = 1 from rfl, show (2 : Int).toNat = 2 from rfl, encN_one (by omega), encN_one (by omega), encN_one (by omega)]
  have hA : (encT (restK ⟨#[]⟩ ⟨k, 0, 1, 1, (0, 1), ⟨#[]⟩, false⟩)).length = 1 + k.size := by rw [ht _ (by rw [hr0]; omega), hr0]
  have hB : (encT (restK k ⟨k, 0, 1, 2, (0, 1), ⟨#[]⟩, false⟩)).length = 1 := by rw [ht _ (by rw [hr1]; omega), hr1]
  have hC : (encT (⟨#[]⟩ : ByteArray)).length = 1 := by rw [ht _ (by rw [hs0]; omega), hs0]
  have hD : (encN (com ⟨#[]⟩ k)).length = 1 := by rw [e0]; exact encN_one (by omega)
  have hE : (encN (com k k)).length = 1 := by rw [e1]; exact encN_one (by omega)
  have hF : (encN (0 + 1 + 1)).length = 1 := encN_one (by omega)
  unfold encBlk
  simp only [encGo, encRest, List.length_append, List.length_cons, List.length_nil, hn1, hn2, hA, hB, hC, hD, hE, hF]
  omega

theorem rd_two8 (w : World) (key : ByteArray) : RdVr (w.alloc (.cells #[.string key, .int .i64 0, .int .i64 1, .int .i64 1, .int .i64 0, .int .i64 1, .string ⟨#[]⟩, .bool false, .string key, .int .i64 0, .int .i64 1, .int .i64 2, .int .i64 0, .int .i64 1, .string ⟨#[]⟩, .bool false] 39)) (w.alloc (.cells #[.string key, .int .i64 0, .int .i64 1, .int .i64 1, .int .i64 0, .int .i64 1, .string ⟨#[]⟩, .bool false, .string key, .int .i64 0, .int .i64 1, .int .i64 2, .int .i64 0, .int .i64 1, .string ⟨#[]⟩, .bool false] 39)).heap.size (.slice (some ⟨w.heap.size, 0, none⟩) 2 2) [⟨key, 0, 1, 1, (0, 1), ⟨#[]⟩, false⟩, ⟨key, 0, 1, 2, (0, 1), ⟨#[]⟩, false⟩] :=
  (OwnX.new (L := verL) (e := 39) w #[.string key, .int .i64 0, .int .i64 1, .int .i64 1, .int .i64 0, .int .i64 1, .string ⟨#[]⟩, .bool false, .string key, .int .i64 0, .int .i64 1, .int .i64 2, .int .i64 0, .int .i64 1, .string ⟨#[]⟩, .bool false] [⟨key, 0, 1, 1, (0, 1), ⟨#[]⟩, false⟩, ⟨key, 0, 1, 2, (0, 1), ⟨#[]⟩, false⟩] 2 rfl rfl (by simp)).rd

set_option maxHeartbeats 2000000 in
set_option maxRecDepth 100000 in
theorem lives_any8 (w : World) : Calls Try.prog 11 #[] w fun e w' => e = .returned (.bool true) ∧ Below w.heap.size w w' := by
  have KY := Lib.hid (fun w => Ord.ref_key 0 ⟨#[107]⟩ w (by omega) (by omega) (by decide))
  have hks := k8_size
  have hb := ex8_blk k8_split
  have hle := ex8_len hks.2
  rw [show (⟨(Ord.keyBytes 0 ⟨#[107]⟩).toArray⟩ : ByteArray) = k8 from rfl] at KY
  have WR := Lib.hid (fun va w ha => blk_write va [⟨k8, 0, 1, 1, (0, 1), ⟨#[]⟩, false⟩, ⟨k8, 0, 1, 2, (0, 1), ⟨#[]⟩, false⟩] w ha (by intro v hv; simp at hv; rcases hv with rfl | rfl <;> exact Nat.le_trans hks.2 (by omega)))
  have hrd := blkRd_enc hb
  rw [if_pos hb, if_pos hb] at WR
  have RD := Lib.hid (fun v w h => blk_read v (encBlk [⟨k8, 0, 1, 1, (0, 1), ⟨#[]⟩, false⟩, ⟨k8, 0, 1, 2, (0, 1), ⟨#[]⟩, false⟩]) w h (by omega))
  rw [hrd] at RD
  simp only at RD
  clear hb hrd
  have HLE := Lib.hid hle
  clear hle
  generalize encBlk [⟨k8, 0, 1, 1, (0, 1), ⟨#[]⟩, false⟩, ⟨k8, 0, 1, 2, (0, 1), ⟨#[]⟩, false⟩] = bb at *
  generalize k8 = key at *
  go_enter Try.func11, Try.ntmps11
  go_wp2_with fail
  refine (KY.out _).mono ?_
  rintro z w1 ⟨rfl, hb1⟩
  have G := Lib.hid hb1
  clear hb1
  go_wp2_with fail
  have G := Lib.hid (G.out.trans (((alloc_below w1 (.cells #[.string key, .int .i64 0, .int .i64 1, .int .i64 1, .int .i64 0, .int .i64 1, .string ⟨#[]⟩, .bool false] 39)).alloc (by simp) (.cells #[.string key, .int .i64 0, .int .i64 1, .int .i64 2, .int .i64 0, .int .i64 1, .string ⟨#[]⟩, .bool false] 39)).mono G.out.size))
  have BW := Lib.hid (Box.new (w1.alloc (.cells #[.string key, .int .i64 0, .int .i64 1, .int .i64 1, .int .i64 0, .int .i64 1, .string ⟨#[]⟩, .bool false] 39)) #[.string key, .int .i64 0, .int .i64 1, .int .i64 2, .int .i64 0, .int .i64 1, .string ⟨#[]⟩, .bool false] 39 (w1.heap.size + 1) (by simp))
  generalize hw2 : (w1.alloc (.cells #[.string key, .int .i64 0, .int .i64 1, .int .i64 1, .int .i64 0, .int .i64 1, .string ⟨#[]⟩, .bool false] 39)).alloc (.cells #[.string key, .int .i64 0, .int .i64 1, .int .i64 2, .int .i64 0, .int .i64 1, .string ⟨#[]⟩, .bool false] 39) = w2 at *
  have hs2 : w1.heap.size + 1 + 1 = w2.heap.size := by rw [← hw2]; simp
  rw [hs2]
  have RL := Lib.hid (rd_two8 w2 key)
  have G := Lib.hid (G.out.trans ((alloc_below w2 (.cells #[.string key, .int .i64 0, .int .i64 1, .int .i64 1, .int .i64 0, .int .i64 1, .string ⟨#[]⟩, .bool false, .string key, .int .i64 0, .int .i64 1, .int .i64 2, .int .i64 0, .int .i64 1, .string ⟨#[]⟩, .bool false] 39)).mono G.out.size))
  have BW := Lib.hid (BW.out.alloc (.cells #[.string key, .int .i64 0, .int .i64 1, .int .i64 1, .int .i64 0, .int .i64 1, .string ⟨#[]⟩, .bool false, .string key, .int .i64 0, .int .i64 1, .int .i64 2, .int .i64 0, .int .i64 1, .string ⟨#[]⟩, .bool false] 39))
  generalize w1.heap.size + 1 = n2 at *
  clear hw2
  generalize w2.alloc (.cells #[.string key, .int .i64 0, .int .i64 1, .int .i64 1, .int .i64 0, .int .i64 1, .string ⟨#[]⟩, .bool false, .string key, .int .i64 0, .int .i64 1, .int .i64 2, .int .i64 0, .int .i64 1, .string ⟨#[]⟩, .bool false] 39) = w3 at *
  refine (WR.out _ _ RL.out).mono ?_
  rintro z w4 ⟨v4, rfl, ho4, hb4⟩
  have G := Lib.hid (G.out.trans (hb4.mono G.out.size))
  have BW := Lib.hid (BW.out.later hb4)
  have O4 := Lib.hid ho4.rd
  obtain ⟨A4, c4, e4, -⟩ := own_cap ho4
  subst e4
  clear ho4 hb4
  go_wp2_with fail
  refine (RD.out _ _ O4.out).mono ?_
  rintro z w5 ⟨v5, rfl, ho5, hb5⟩
  have G := Lib.hid (G.out.trans (hb5.mono G.out.size))
  have BW := Lib.hid (BW.out.later hb5)
  obtain ⟨g5, c5, e5, hg5, hgl5⟩ := OwnX.pos ho5 (by simp)
  subst e5
  obtain ⟨b, o, e6, hbb, d0, d1, d2, d3, d4, d5, d6, d7⟩ := RdVr.here ho5.rd 1 (by simp)
  injection e6 with e6
  injection e6 with e6 e7
  subst e6 e7
  simp only [List.getElem_cons_succ, List.getElem_cons_zero] at d0 d1 d2 d3 d4 d5 d6 d7
  have c0 := BW.out.cell 0 (.string key) rfl
  have c1 := BW.out.cell 1 (.int .i64 0) rfl
  have c2 := BW.out.cell 2 (.int .i64 1) rfl
  have c3 := BW.out.cell 3 (.int .i64 2) rfl
  have c4 := BW.out.cell 4 (.int .i64 0) rfl
  have c5 := BW.out.cell 5 (.int .i64 1) rfl
  have c6 := BW.out.cell 6 (.string ⟨#[]⟩) rfl
  have c7 := BW.out.cell 7 (.bool false) rfl
  have hle := HLE.out
  have hk1 : (key.size : Int) ≤ 92 := by omega
  have hk2 : (2 : Int) ≤ (key.size : Int) := by omega
  clear ho5 hb5 hle
  generalize bb.length = nb at *
  go_wp2_with fail
  go_quiet (fail)
  have G := Lib.hid (G.out.drewN nq)
  go_wp2_with fail
  go_ret
  exact ⟨ret_bool (by rw [decide_eq_true_eq]; have := HLE.out; omega), G.out⟩
end Go.Proofs.Ytecomnklofceaaa
