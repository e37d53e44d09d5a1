/- Layer 8: plain facts: a block as it is read of bytes: the document's way and the project's are the same; what is written is read. -/
import Derived.Test.YtefjdmlmmoeoaaaTe
import Derived.Test.YtefjdmlmmoeoaaaRR
namespace Go.Proofs.Ytefjdmlmmoeoaaa
open Go.RowKit
set_option linter.unusedVariables false

/-- One version read: how much of the key ahead, the rest of its key, its numbers, its value, and where the reader is then. -/
def itC (x : List UInt8 × Int) : Nat := (stepN x.1 x.2).1
def itR (x : List UInt8 × Int) : List UInt8 × List UInt8 × Int := stepT (stepN x.1 x.2).2.1 (stepN x.1 x.2).2.2 200
def itS (x : List UInt8 × Int) (k : Nat) : List UInt8 × Int := sN (itR x).2.1 (itR x).2.2 k
def itN (x : List UInt8 × Int) (k : Nat) : Int := nN (itR x).2.1 (itR x).2.2 k
def itT (x : List UInt8 × Int) : List UInt8 × List UInt8 × Int := stepT (itS x 6).1 (itS x 6).2 200
def itK (key : ByteArray) (x : List UInt8 × Int) : ByteArray := key.extract 0 (min (itC x) key.size) ++ ⟨(itR x).1.toArray⟩
def itV (key : ByteArray) (x : List UInt8 × Int) : Ver := ⟨itK key x, itN x 0, itN x 1, itN x 2, (itN x 3, itN x 3 + itN x 4), ⟨(itT x).1.toArray⟩, (itN x 5 == 1)⟩
/-- So many versions read. -/
def bS (x : List UInt8 × Int) : Nat → List UInt8 × Int
  | 0 => x
  | k + 1 => (itT (bS x k)).2
def bKey (x : List UInt8 × Int) : Nat → ByteArray
  | 0 => ⟨#[]⟩
  | k + 1 => itK (bKey x k) (bS x k)
def bOut (x : List UInt8 × Int) : Nat → List Ver
  | 0 => []
  | k + 1 => bOut x k ++ [itV (bKey x k) (bS x k)]
def bFine (x : List UInt8 × Int) : Nat → Bool
  | 0 => true
  | k + 1 => bFine x k && decide (itC (bS x k) ≤ (bKey x k).size) && decide (itN (bS x k) 5 ≤ 1)

theorem stepT_len (l : List UInt8) (e most : Int) : (stepT l e most).1.length + (stepT l e most).2.1.length ≤ l.length := by
  have := (step_suf l e).length_le
  unfold stepT
  split
  · simp only [List.length_nil]; omega
  · split
    · simp
    · split
      · simp
      · simp only [List.length_take, List.length_drop]; omega
theorem itR_len (x : List UInt8 × Int) : (itR x).1.length + (itR x).2.1.length ≤ x.1.length := by
  have h1 := stepT_len (stepN x.1 x.2).2.1 (stepN x.1 x.2).2.2 200
  have h2 := (step_suf x.1 x.2).length_le
  unfold itR; omega
theorem itS_len (x : List UInt8 × Int) (k : Nat) : (itS x k).1.length ≤ (itR x).2.1.length := (sN_suf _ _ k).length_le
theorem itT_len (x : List UInt8 × Int) : (itT x).1.length + (itT x).2.1.length ≤ (itS x 6).1.length := stepT_len _ _ _
theorem it_len (x : List UInt8 × Int) : (itR x).1.length + (itT x).2.1.length ≤ x.1.length := by
  have := itR_len x; have := itS_len x 6; have := itT_len x; omega
theorem itK_size (key : ByteArray) (x : List UInt8 × Int) : (itK key x).size ≤ key.size + (itR x).1.length := by
  unfold itK
  rw [ByteArray.size_append, ByteArray.size_extract]
  have : (ByteArray.mk (itR x).1.toArray).size = (itR x).1.length := by simp [ByteArray.size]
  omega
theorem bKey_size (x : List UInt8 × Int) (k : Nat) : (bKey x k).size + (bS x k).1.length ≤ x.1.length := by
  induction k with
  | zero => show (ByteArray.mk #[]).size + x.1.length ≤ x.1.length; have : (ByteArray.mk #[]).size = 0 := rfl; omega
  | succ k ih =>
    have h1 := itK_size (bKey x k) (bS x k)
    have h2 := it_len (bS x k)
    show (itK (bKey x k) (bS x k)).size + (itT (bS x k)).2.1.length ≤ _
    omega
theorem bS_len (x : List UInt8 × Int) (k : Nat) : (bS x k).1.length ≤ x.1.length := by have := bKey_size x k; omega
theorem bOut_key (x : List UInt8 × Int) (k : Nat) : ∀ v ∈ bOut x k, v.key.size ≤ x.1.length := by
  induction k with
  | zero => intro v hv; cases hv
  | succ k ih =>
    intro v hv
    rcases List.mem_append.1 hv with hv | hv
    · exact ih v hv
    · simp only [List.mem_singleton] at hv
      subst hv
      have := bKey_size x (k + 1)
      show (itK (bKey x k) (bS x k)).size ≤ _
      have h : bKey x (k + 1) = itK (bKey x k) (bS x k) := rfl
      rw [h] at this; omega
theorem step_stick {l : List UInt8} {e : Int} (h : e ≠ 0) : stepN l e = (0, l, e) := by unfold stepN; rw [if_pos h]
theorem text_stick {l : List UInt8} {e most : Int} (h : e ≠ 0) : stepT l e most = ([], l, e) := by unfold stepT; rw [step_stick h]; simp [h]
theorem sN_stick {l : List UInt8} {e : Int} (h : e ≠ 0) (k : Nat) : sN l e k = (l, e) := by
  induction k with
  | zero => rfl
  | succ k ih => rw [sN, ih, step_stick h]
theorem it_stick {x : List UInt8 × Int} (h : x.2 ≠ 0) : (itT x).2.2 = x.2 := by
  have h1 : itR x = ([], x.1, x.2) := by unfold itR; rw [step_stick h, text_stick h]
  have h2 : itS x 6 = (x.1, x.2) := by unfold itS; rw [h1, sN_stick h]
  unfold itT; rw [h2, text_stick h]
theorem it_good {x : List UInt8 × Int} (h : (itT x).2.2 = 0) : x.2 = 0 ∧ (itT x).2.1.length < x.1.length := by
  have h0 : x.2 = 0 := by
    by_cases h0 : x.2 = 0
    · exact h0
    · rw [it_stick h0] at h; exact h
  refine ⟨h0, ?_⟩
  have h1 : (itS x 6).2 = 0 := step_err _ _ (text_err _ _ _ h)
  have h2 : (itR x).2.2 = 0 := sN_err _ _ 6 h1
  have h3 : (stepN x.1 x.2).2.2 = 0 := step_err _ _ (text_err _ _ _ h2)
  have h4 := step_less _ _ h3
  have h5 := itS_len x 6
  have h6 := itT_len x
  have h7 := stepT_len (stepN x.1 x.2).2.1 (stepN x.1 x.2).2.2 200
  have h8 : (itR x).2.1.length ≤ (stepN x.1 x.2).2.1.length := by unfold itR; omega
  omega
theorem bS_err {x : List UInt8 × Int} {k : Nat} (h : (bS x k).2 ≠ 0) (d : Nat) : (bS x (k + d)).2 = (bS x k).2 := by
  induction d with
  | zero => rfl
  | succ d ih =>
    show (itT (bS x (k + d))).2.2 = _
    rw [it_stick (by rw [ih]; exact h), ih]
theorem bS_end {x : List UInt8 × Int} {k n : Nat} (h : (bS x k).2 ≠ 0) (hk : k ≤ n) : (bS x n).2 = (bS x k).2 := by
  have := bS_err h (n - k)
  rwa [show k + (n - k) = n from by omega] at this
theorem bS_less {x : List UInt8 × Int} (k : Nat) (h : (bS x k).2 = 0) : (bS x k).1.length + k ≤ x.1.length := by
  induction k with
  | zero => exact Nat.le_refl _
  | succ k ih =>
    have h1 := it_good (x := bS x k) h
    have h2 := ih h1.1
    show (itT (bS x k)).2.1.length + (k + 1) ≤ _
    omega
theorem bOut_len (x : List UInt8 × Int) (k : Nat) : (bOut x k).length = k := by
  induction k with
  | zero => rfl
  | succ k ih => rw [bOut, List.length_append, ih]; rfl
theorem bOut_take {x : List UInt8 × Int} {k n : Nat} (h : k ≤ n) : (bOut x n).take k = bOut x k := by
  induction n with
  | zero => have : k = 0 := by omega
            subst this; rfl
  | succ n ih =>
    by_cases hk : k ≤ n
    · rw [bOut, List.take_append_of_le_length (by rw [bOut_len]; exact hk), ih hk]
    · have : k = n + 1 := by omega
      subst this
      exact List.take_of_length_le (by rw [bOut_len]; exact Nat.le_refl _)

theorem ba_ext {a b : ByteArray} (h : a.data.toList = b.data.toList) : a = b := by
  obtain ⟨⟨x⟩⟩ := a
  obtain ⟨⟨y⟩⟩ := b
  simp at h
  subst h
  rfl
theorem key_join (key k : ByteArray) (h : com key k ≤ key.size) : key.extract 0 (min (com key k) key.size) ++ ⟨(k.extract (com key k) k.size).data.toList.toArray⟩ = k := by
  rw [Nat.min_eq_left h]
  apply ba_ext
  have ht : key.data.toList.take (com key k) = k.data.toList.take (com key k) := comN_take _ _
  have h1 := (com_le key k).2
  have hl : k.data.toList.length = k.size := by simp
  have hd : (k.extract (com key k) k.size).data.toList = k.data.toList.drop (com key k) := by
    rw [ByteArray.data_extract, Array.toList_extract, List.extract_eq_take_drop, List.take_of_length_le (by rw [List.length_drop]; omega)]
  have hp : (key.extract 0 (com key k)).data.toList = key.data.toList.take (com key k) := by
    rw [ByteArray.data_extract, Array.toList_extract, List.extract_eq_take_drop, List.drop_zero, Nat.sub_zero]
  rw [ByteArray.data_append, Array.toList_append, hp, hd, ht, List.take_append_drop]

/-- What was written is read: one version. -/
theorem item_enc (key : ByteArray) (v : Ver) (r : List UInt8) (hm : mayV v = true) : itC (encRest key v ++ r, 0) = com key v.key ∧ (itT (encRest key v ++ r, 0)).2 = (r, 0) ∧ itV key (encRest key v ++ r, 0) = v ∧ itN (encRest key v ++ r, 0) 5 ≤ 1 := by
  have hk := may_key hm
  have hv := (mayV_iff hm).2.2.1
  have hbd := numsV_bd hm
  have hsp := mayB_iff.1 (mayV_iff hm).2.1
  have hc := com_le key v.key
  have hrs := restK_size key v
  have hj := key_join key v.key hc.1
  have hX : encRest key v ++ r = encN (com key v.key) ++ (encT (restK key v) ++ (encNs (numsV v) ++ (encT v.val ++ r))) := by
    unfold encRest; simp only [List.append_assoc]
  rw [hX]
  have t0 := step_enc (com key v.key) (encT (restK key v) ++ (encNs (numsV v) ++ (encT v.val ++ r))) (by omega)
  have tr := text_enc (restK key v) (encNs (numsV v) ++ (encT v.val ++ r)) 200 (by omega) (by omega)
  have tu := text_enc v.val r 200 (by omega) (by omega)
  generalize encN (com key v.key) ++ (encT (restK key v) ++ (encNs (numsV v) ++ (encT v.val ++ r))) = L at *
  have hR : itR (L, 0) = ((restK key v).data.toList, encNs (numsV v) ++ (encT v.val ++ r), 0) := by unfold itR; rw [t0]; exact tr
  have hC : itC (L, 0) = com key v.key := by unfold itC; rw [t0]
  have hK : itK key (L, 0) = v.key := by unfold itK; rw [hR, hC]; exact hj
  obtain ⟨kk, b, e, s, ⟨x, y⟩, u, g⟩ := v
  simp only at hk hv hsp tu hK
  have hn : ∀ n ∈ [b, e, s, x, y - x, if g = true then (1 : Int) else 0], n.toNat < 4611686018427387904 ∧ (n.toNat : Int) = n := fun n hn => by
    have := hbd n hn
    omega
  have n0 := hn b (by simp)
  have n1 := hn e (by simp)
  have n2 := hn s (by simp)
  have n3 := hn x (by simp)
  have n4 := hn (y - x) (by simp)
  have n5 := hn (if g = true then (1 : Int) else 0) (by simp)
  have hY : encNs (numsV ⟨kk, b, e, s, (x, y), u, g⟩) ++ (encT u ++ r) = encN b.toNat ++ (encN e.toNat ++ (encN s.toNat ++ (encN x.toNat ++ (encN (y - x).toNat ++ (encN (if g = true then (1 : Int) else 0).toNat ++ (encT u ++ r)))))) := by
    simp [encNs, numsV]
  rw [hY] at hR
  clear hn hbd hY hX
  have q5 := step_enc (if g = true then (1 : Int) else 0).toNat (encT u ++ r) n5.1
  have q4 := step_enc (y - x).toNat (encN (if g = true then (1 : Int) else 0).toNat ++ (encT u ++ r)) n4.1
  have q3 := step_enc x.toNat (encN (y - x).toNat ++ (encN (if g = true then (1 : Int) else 0).toNat ++ (encT u ++ r))) n3.1
  have q2 := step_enc s.toNat (encN x.toNat ++ (encN (y - x).toNat ++ (encN (if g = true then (1 : Int) else 0).toNat ++ (encT u ++ r)))) n2.1
  have q1 := step_enc e.toNat (encN s.toNat ++ (encN x.toNat ++ (encN (y - x).toNat ++ (encN (if g = true then (1 : Int) else 0).toNat ++ (encT u ++ r))))) n1.1
  have q0 := step_enc b.toNat (encN e.toNat ++ (encN s.toNat ++ (encN x.toNat ++ (encN (y - x).toNat ++ (encN (if g = true then (1 : Int) else 0).toNat ++ (encT u ++ r)))))) n0.1
  generalize encN b.toNat ++ (encN e.toNat ++ (encN s.toNat ++ (encN x.toNat ++ (encN (y - x).toNat ++ (encN (if g = true then (1 : Int) else 0).toNat ++ (encT u ++ r)))))) = l0 at *
  generalize encN e.toNat ++ (encN s.toNat ++ (encN x.toNat ++ (encN (y - x).toNat ++ (encN (if g = true then (1 : Int) else 0).toNat ++ (encT u ++ r))))) = l1 at *
  generalize encN s.toNat ++ (encN x.toNat ++ (encN (y - x).toNat ++ (encN (if g = true then (1 : Int) else 0).toNat ++ (encT u ++ r)))) = l2 at *
  generalize encN x.toNat ++ (encN (y - x).toNat ++ (encN (if g = true then (1 : Int) else 0).toNat ++ (encT u ++ r))) = l3 at *
  generalize encN (y - x).toNat ++ (encN (if g = true then (1 : Int) else 0).toNat ++ (encT u ++ r)) = l4 at *
  generalize encN (if g = true then (1 : Int) else 0).toNat ++ (encT u ++ r) = l5 at *
  generalize encT u ++ r = l6 at *
  have s0 : sN l0 0 0 = (l0, 0) := rfl
  have s1 : sN l0 0 1 = (l1, 0) := by rw [sN, s0, q0]
  have s2 : sN l0 0 2 = (l2, 0) := by rw [sN, s1, q1]
  have s3 : sN l0 0 3 = (l3, 0) := by rw [sN, s2, q2]
  have s4 : sN l0 0 4 = (l4, 0) := by rw [sN, s3, q3]
  have s5 : sN l0 0 5 = (l5, 0) := by rw [sN, s4, q4]
  have s6 : sN l0 0 6 = (l6, 0) := by rw [sN, s5, q5]
  have hS : itS (L, 0) 6 = (l6, 0) := by unfold itS; rw [hR]; exact s6
  have hT : itT (L, 0) = (u.data.toList, r, 0) := by unfold itT; rw [hS]; exact tu
  have e0 : itN (L, 0) 0 = b := by unfold itN; rw [hR]; unfold nN; rw [s0, q0]; exact n0.2
  have e1 : itN (L, 0) 1 = e := by unfold itN; rw [hR]; unfold nN; rw [s1, q1]; exact n1.2
  have e2 : itN (L, 0) 2 = s := by unfold itN; rw [hR]; unfold nN; rw [s2, q2]; exact n2.2
  have e3 : itN (L, 0) 3 = x := by unfold itN; rw [hR]; unfold nN; rw [s3, q3]; exact n3.2
  have e4 : itN (L, 0) 4 = y - x := by unfold itN; rw [hR]; unfold nN; rw [s4, q4]; exact n4.2
  have e5 : itN (L, 0) 5 = if g = true then 1 else 0 := by unfold itN; rw [hR]; unfold nN; rw [s5, q5]; exact n5.2
  refine ⟨hC, by rw [hT], ?_, by rw [e5]; split <;> omega⟩
  unfold itV
  rw [hK, hT, e0, e1, e2, e3, e4, e5]
  have h1 : x + (y - x) = y := by omega
  have h2 : ((if g = true then (1 : Int) else 0) == 1) = g := by cases g <;> rfl
  rw [h1, h2]

/-- What was written is read: all of them. -/
theorem run_enc (l : List Ver) (r : List UInt8) (h : ∀ v ∈ l, mayV v = true) (k : Nat) (hk : k ≤ l.length) :
    bS (encGo ⟨#[]⟩ l ++ r, 0) k = (encGo (lastKey ⟨#[]⟩ (l.take k)) (l.drop k) ++ r, 0) ∧ bKey (encGo ⟨#[]⟩ l ++ r, 0) k = lastKey ⟨#[]⟩ (l.take k) ∧ bOut (encGo ⟨#[]⟩ l ++ r, 0) k = l.take k ∧ bFine (encGo ⟨#[]⟩ l ++ r, 0) k = true := by
  induction k with
  | zero => exact ⟨by simp [bS, lastKey], rfl, by simp [bOut], rfl⟩
  | succ k ih =>
    obtain ⟨h1, h2, h3, h4⟩ := ih (by omega)
    have hlt : k < l.length := by omega
    have hd : l.drop k = l[k] :: l.drop (k + 1) := List.drop_eq_getElem_cons hlt
    have ht : l.take (k + 1) = l.take k ++ [l[k]] := List.take_succ_eq_append_getElem hlt
    have hm := h l[k] (List.getElem_mem hlt)
    obtain ⟨i1, i2, i3, i4⟩ := item_enc (lastKey ⟨#[]⟩ (l.take k)) l[k] (encGo l[k].key (l.drop (k + 1)) ++ r) hm
    have hx : encGo (lastKey ⟨#[]⟩ (l.take k)) (l.drop k) ++ r = encRest (lastKey ⟨#[]⟩ (l.take k)) l[k] ++ (encGo l[k].key (l.drop (k + 1)) ++ r) := by
      rw [hd, encGo, List.append_assoc]
    have hl : lastKey ⟨#[]⟩ (l.take (k + 1)) = l[k].key := by rw [ht, lastKey_snoc]
    rw [hx] at h1
    refine ⟨?_, ?_, ?_, ?_⟩
    · rw [bS, h1, i2, hl]
    · rw [bKey, h1, h2, hl]
      have := congrArg Ver.key i3
      exact this
    · rw [bOut, h1, h2, h3, i3, ht]
    · rw [bFine, h1, h2, h4, i1]
      have := (com_le (lastKey ⟨#[]⟩ (l.take k)) l[k].key).1
      simp [this, i4]

def blkE (b : List UInt8) : Int := (bS (stepN b 0).2 (stepN b 0).1).2
def blkO (b : List UInt8) : List Ver := bOut (stepN b 0).2 (stepN b 0).1
def blkF (b : List UInt8) : Bool := bFine (stepN b 0).2 (stepN b 0).1
/-- The document's answer. -/
def blkRd (b : List UInt8) : List Ver × Int := if blkE b ≠ 0 then ([], blkE b) else if (blkF b = true ∧ blkB (blkO b) = true) ∧ encBlk (blkO b) = b then (blkO b, 0) else ([], 2)
/-- The project's. -/
def blkPr (b : List UInt8) : List Ver × Int := if blkE b ≠ 0 then ([], blkE b) else if blkB ((blkO b).take 8) = true ∧ encBlk ((blkO b).take 8) = b then ((blkO b).take 8, 0) else ([], 2)
theorem blkB_len {l : List Ver} (h : blkB l = true) : 1 ≤ l.length ∧ l.length ≤ 8 ∧ okTo l l.length = true := by
  unfold blkB at h
  simp only [Bool.and_eq_true, decide_eq_true_eq] at h
  exact ⟨h.1.2, h.2, h.1.1⟩
theorem blk_enc {l : List Ver} (h : blkB l = true) : blkE (encBlk l) = 0 ∧ blkO (encBlk l) = l ∧ blkF (encBlk l) = true := by
  obtain ⟨h1, h2, h3⟩ := blkB_len h
  have hs : stepN (encBlk l) 0 = (l.length, encGo ⟨#[]⟩ l, 0) := step_enc _ _ (by omega)
  obtain ⟨r1, r2, r3, r4⟩ := run_enc l [] (blk_may h3) l.length (Nat.le_refl _)
  rw [List.append_nil] at r1 r2 r3 r4
  unfold blkE blkO blkF
  rw [hs]
  refine ⟨?_, ?_, r4⟩
  · show (bS (encGo ⟨#[]⟩ l, 0) l.length).2 = 0
    rw [r1]
  · show bOut (encGo ⟨#[]⟩ l, 0) l.length = l
    rw [r3, List.take_length]
theorem blkPr_eq (b : List UInt8) : blkPr b = blkRd b := by
  by_cases he : blkE b = 0
  · have l1 : blkPr b = if blkB ((blkO b).take 8) = true ∧ encBlk ((blkO b).take 8) = b then ((blkO b).take 8, 0) else ([], 2) := if_neg (fun h => h he)
    have l2 : blkRd b = if (blkF b = true ∧ blkB (blkO b) = true) ∧ encBlk (blkO b) = b then (blkO b, 0) else ([], 2) := if_neg (fun h => h he)
    rw [l1, l2]
    by_cases h : blkB ((blkO b).take 8) = true ∧ encBlk ((blkO b).take 8) = b
    · rw [if_pos h]
      obtain ⟨h1, h2⟩ := h
      have hb := blk_enc h1
      rw [h2] at hb
      obtain ⟨-, hb2, hb3⟩ := hb
      rw [← hb2] at h1 h2
      rw [← hb2, if_pos ⟨⟨hb3, h1⟩, h2⟩]
    · rw [if_neg h]
      have h' : ¬ ((blkF b = true ∧ blkB (blkO b) = true) ∧ encBlk (blkO b) = b) := by
        rintro ⟨⟨h1, h2⟩, h3⟩
        have hl := (blkB_len h2).2.1
        rw [List.take_of_length_le hl] at h
        exact h ⟨h2, h3⟩
      rw [if_neg h']
  · have l1 : blkPr b = ([], blkE b) := if_pos he
    have l2 : blkRd b = ([], blkE b) := if_pos he
    rw [l1, l2]
theorem blkRd_enc {l : List Ver} (h : blkB l = true) : blkRd (encBlk l) = (l, 0) := by
  obtain ⟨h1, h2, h3⟩ := blk_enc h
  unfold blkRd
  rw [h2, if_neg (by simp [h1]), if_pos ⟨⟨h3, h⟩, rfl⟩]
end Go.Proofs.Ytefjdmlmmoeoaaa
