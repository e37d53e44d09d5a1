/- Layer 9: runs: plain facts: a run's blocks, its bytes, and that they are read as they were put. -/
import Derived.Test.YtefjdmlmmoeoaaaTg
import Derived.Test.YtefjdmlmmoeoaaaUj
import Derived.Test.YtefjdmlmmoeoaaaCF
namespace Go.Proofs.Ytefjdmlmmoeoaaa
open Go.RowKit
set_option linter.unusedVariables false

/-- How many blocks. -/
def many8 (l : List Ver) : Nat := (l.length + 7) / 8
def blocksB (l : List Ver) : List (List UInt8) := (pcs8 l).map encBlk
def keysR (l : List Ver) : List ByteArray := (pcs8 l).map fun p => (p.getD 0 zeroV).key
def encFen (l : List Ver) : List UInt8 := encN (many8 l) ++ encTs (keysR l)
def encFoot (l : List Ver) : List UInt8 := encN l.length ++ encN (many8 l) ++ encN (frms (blocksB l)).length
/-- A run's bytes. -/
def encRun (l : List Ver) : List UInt8 := frms (blocksB l) ++ frm (encFen l) ++ frm (encFoot l)

theorem pcs8_len (l : List Ver) : (pcs8 l).length = many8 l := by simp [pcs8, many8]
theorem pcs8_at (l : List Ver) (k : Nat) (h : k < (pcs8 l).length) : (pcs8 l)[k] = pc8 l k := by simp [pcs8]
theorem blocksB_len (l : List Ver) : (blocksB l).length = many8 l := by simp [blocksB, pcs8_len]
theorem keysR_len (l : List Ver) : (keysR l).length = many8 l := by simp [keysR, pcs8_len]
theorem many8_lt {l : List Ver} {k : Nat} (h : k < many8 l) : 8 * k < l.length := by unfold many8 at h; omega
theorem lt_many8 {l : List Ver} {k : Nat} (h : 8 * k < l.length) : k < many8 l := by unfold many8; omega
theorem pcs8_join_go (l : List Ver) (k : Nat) (h : k ≤ many8 l) : ((List.range k).map (pc8 l)).flatten = l.take (8 * k) := by
  induction k with
  | zero => simp
  | succ k ih =>
    rw [List.range_succ, List.map_append, List.flatten_append, ih (by omega)]
    simp only [List.map_cons, List.map_nil, List.flatten_cons, List.flatten_nil, List.append_nil]
    unfold pc8
    rw [show 8 * (k + 1) = 8 * k + 8 from by omega, List.take_add]
theorem pcs8_join (l : List Ver) : (pcs8 l).flatten = l := by
  have := pcs8_join_go l (many8 l) (Nat.le_refl _)
  unfold pcs8
  rw [show (l.length + 7) / 8 = many8 l from rfl, this]
  exact List.take_of_length_le (by unfold many8; omega)

/-- A piece's first one, and the others. -/
theorem pc8_get (l : List Ver) (k j : Nat) (hj : j < 8) : (pc8 l k).getD j zeroV = l.getD (8 * k + j) zeroV := by
  unfold pc8
  rw [List.getD_eq_getElem?_getD, List.getD_eq_getElem?_getD, List.getElem?_take, if_pos hj, List.getElem?_drop]
theorem okAt_pc (l : List Ver) (k j : Nat) (hj : j < 8) (h : 0 < j) : okAt (pc8 l k) j = okAt l (8 * k + j) := by
  unfold okAt
  rw [pc8_get l k j hj, pc8_get l k (j - 1) (by omega), decide_eq_false (show ¬ j = 0 from by omega), decide_eq_false (show ¬ 8 * k + j = 0 from by omega), show 8 * k + (j - 1) = 8 * k + j - 1 from by omega]
theorem okAt_pc0 (l : List Ver) (k : Nat) : okAt l (8 * k) = (okAt (pc8 l k) 0 && (decide (k = 0) || lessV (l.getD (8 * k - 1) zeroV) (l.getD (8 * k) zeroV))) := by
  unfold okAt
  rw [pc8_get l k 0 (by omega)]
  rw [show 8 * k + 0 = 8 * k from rfl, decide_eq_true (show 0 = 0 from rfl), Bool.true_or, Bool.and_true]
  by_cases h : k = 0
  · subst h; simp
  · rw [decide_eq_false h, decide_eq_false (show ¬ 8 * k = 0 from by omega)]
/-- The boundary ahead of piece k. -/
def bndB (l : List Ver) (k : Nat) : Bool := decide (k = 0) || lessV (l.getD (8 * k - 1) zeroV) (l.getD (8 * k) zeroV)
theorem okTo_pc (l : List Ver) (k m : Nat) (h1 : 1 ≤ m) (h8 : m ≤ 8) : okTo l (8 * k + m) = (okTo l (8 * k) && bndB l k && okTo (pc8 l k) m) := by
  induction m with
  | zero => omega
  | succ m ih =>
    rcases Nat.eq_zero_or_pos m with h0 | h0
    · subst h0
      rw [okTo_succ, okTo_succ, show okTo (pc8 l k) 0 = true from rfl, okAt_pc0, Bool.true_and]
      unfold bndB
      cases okTo l (8 * k) <;> cases okAt (pc8 l k) 0 <;> simp
    · rw [show 8 * k + (m + 1) = (8 * k + m) + 1 from by omega, okTo_succ, ih h0 (by omega), okTo_succ, okAt_pc l k m (by omega) h0, Bool.and_assoc]
/-- One block more. -/
theorem okTo_step (l : List Ver) (k : Nat) (h : k < many8 l) : okTo l (min (8 * (k + 1)) l.length) = (okTo l (8 * k) && (blkB (pc8 l k) && bndB l k)) := by
  have hl := many8_lt h
  have hp := pc8_len l k
  have hm : min (8 * (k + 1)) l.length = 8 * k + (pc8 l k).length := by omega
  rw [hm, okTo_pc l k _ (by omega) (by omega)]
  unfold blkB
  rw [decide_eq_true (show 1 ≤ (pc8 l k).length from by omega), decide_eq_true (show (pc8 l k).length ≤ 8 from by omega), Bool.and_true, Bool.and_true, Bool.and_assoc]
  cases bndB l k <;> simp
theorem okTo_le {l : List Ver} {n k : Nat} (h : okTo l n = true) (hk : k ≤ n) : okTo l k = true := by
  unfold okTo at *
  rw [List.all_eq_true] at *
  intro i hi
  exact h i (by rw [List.mem_range] at *; omega)
theorem blk_of_run {l : List Ver} (h : okTo l l.length = true) {k : Nat} (hk : k < many8 l) : blkB (pc8 l k) = true := by
  have h1 := okTo_le h (show min (8 * (k + 1)) l.length ≤ l.length from Nat.min_le_right _ _)
  rw [okTo_step l k hk] at h1
  simp only [Bool.and_eq_true] at h1
  exact h1.2.1

/-- How long they are. -/
theorem encBlk_len {l : List Ver} (h : blkB l = true) : (encBlk l).length ≤ 3300 := by
  obtain ⟨h1, h2, h3⟩ := blkB_len h
  have h4 := encGo_len l ⟨#[]⟩ (blk_may h3)
  have h5 := encN_nine l.length (by omega)
  unfold encBlk; rw [List.length_append]; omega
theorem blocksB_mem {l : List Ver} (h : okTo l l.length = true) : ∀ b ∈ blocksB l, b.length ≤ 3300 := by
  intro b hb
  unfold blocksB at hb
  obtain ⟨p, hp, rfl⟩ := List.mem_map.1 hb
  obtain ⟨k, hk, rfl⟩ := List.mem_iff_getElem.1 hp
  rw [pcs8_at]
  exact encBlk_len (blk_of_run h (by rwa [pcs8_len] at hk))
theorem blocks_len {l : List Ver} (h : okTo l l.length = true) : (frms (blocksB l)).length ≤ many8 l * 3308 := by
  have := frms_length (m := 3300) (blocksB_mem h)
  rwa [blocksB_len] at this
theorem frms_ge (ls : List (List UInt8)) : 8 * ls.length ≤ (frms ls).length := by
  induction ls with
  | nil => simp
  | cons p ls ih => rw [frms_cons, List.length_append, frm_length, List.length_cons]; omega
theorem keysR_mem {l : List Ver} (h : okTo l l.length = true) : ∀ s ∈ keysR l, s.size ≤ 92 := by
  intro s hs
  unfold keysR at hs
  obtain ⟨p, hp, rfl⟩ := List.mem_map.1 hs
  obtain ⟨k, hk, rfl⟩ := List.mem_iff_getElem.1 hp
  rw [pcs8_at]
  obtain ⟨h1, h2, h3⟩ := blkB_len (blk_of_run h (by rwa [pcs8_len] at hk))
  rw [getD_at (by omega)]
  exact may_key (blk_may h3 _ (List.getElem_mem _))
theorem encTs_len9 (ts : List ByteArray) (m : Nat) (h : ∀ s ∈ ts, s.size ≤ m) (hm : m ≤ 1000000) : (encTs ts).length ≤ ts.length * (m + 9) := by
  induction ts with
  | nil => simp [encTs]
  | cons s ts ih =>
    have h1 := ih (fun x hx => h x (by simp [hx]))
    have h2 := h s (by simp)
    have h3 := encT_len s (by omega)
    have h4 : encTs (s :: ts) = encT s ++ encTs ts := rfl
    rw [h4, List.length_append, List.length_cons, Nat.succ_mul]
    omega
theorem encFen_len {l : List Ver} (h : okTo l l.length = true) (hl : l.length ≤ 1000000) : (encFen l).length ≤ 9 + many8 l * 101 := by
  have h1 := encTs_len9 (keysR l) 92 (keysR_mem h) (by omega)
  rw [keysR_len] at h1
  have h2 : many8 l ≤ 1000000 := by unfold many8; omega
  have h3 := encN_nine (many8 l) (by omega)
  unfold encFen
  rw [List.length_append]; omega
theorem encFoot_len {l : List Ver} (h : okTo l l.length = true) (hl : l.length ≤ 1000000) : (encFoot l).length ≤ 27 := by
  have h0 := blocks_len h
  have h2 : many8 l ≤ 1000000 := by unfold many8; omega
  have h3 := encN_nine (many8 l) (by omega)
  have h4 := encN_nine l.length (by omega)
  have h5 := encN_nine (frms (blocksB l)).length (by omega)
  unfold encFoot
  rw [List.length_append, List.length_append]; omega
theorem encRun_eq (l : List Ver) : encRun l = frms (blocksB l ++ [encFen l, encFoot l]) := by
  unfold encRun frms
  rw [List.flatMap_append]
  simp [List.append_assoc]
theorem encRun_len {l : List Ver} (h : okTo l l.length = true) (hl : l.length ≤ 1000000) : (encRun l).length ≤ 60 + many8 l * 3409 := by
  have h1 := blocks_len h
  have h2 := encFen_len h hl
  have h3 := encFoot_len h hl
  unfold encRun
  rw [List.length_append, List.length_append, frm_length, frm_length]
  omega

theorem fst1_nil : (fst1 []).2.2 ≠ 0 := by unfold fst1; rw [if_pos (.inl (by simp))]; decide
/-- A run's frames. -/
theorem frs_run {l : List Ver} (h : okTo l l.length = true) (hl : l.length ≤ 1000000) : frs (encRun l) = (blocksB l ++ [encFen l, encFoot l], (encRun l).length) := by
  have h1 := blocksB_mem h
  have h2 := encFen_len h hl
  have h3 := encFoot_len h hl
  have h4 : many8 l ≤ 1000000 := by unfold many8; omega
  have := frs_frms (blocksB l ++ [encFen l, encFoot l]) [] (by
    intro x hx
    rcases List.mem_append.1 hx with hx | hx
    · have := h1 x hx; omega
    · simp only [List.mem_cons, List.not_mem_nil, or_false] at hx
      rcases hx with rfl | rfl <;> omega) fst1_nil
  rw [List.append_nil] at this
  rw [encRun_eq]
  exact this
/-- Frame k of a run's, if it is no fence and no foot. -/
theorem run_frame {l : List Ver} (h : okTo l l.length = true) (k : Nat) (hk : k < many8 l) : (blocksB l)[k]? = some (encBlk (pc8 l k)) ∧ blkRd (encBlk (pc8 l k)) = (pc8 l k, 0) := by
  refine ⟨?_, blkRd_enc (blk_of_run h hk)⟩
  unfold blocksB
  rw [List.getElem?_map, List.getElem?_eq_getElem (by rwa [pcs8_len]), pcs8_at]
  rfl

/-- A run's versions, of its bytes. -/
def IsRun (b : List UInt8) (l : List Ver) : Prop := okTo l l.length = true ∧ encRun l = b
theorem IsRun.len {b : List UInt8} {l : List Ver} (h : IsRun b l) : l.length ≤ b.length := by
  have h1 := frms_ge (blocksB l)
  rw [blocksB_len] at h1
  have h2 : many8 l = (l.length + 7) / 8 := rfl
  rw [← h.2]
  unfold encRun
  rw [List.length_append, List.length_append]
  omega
theorem IsRun.frames {b : List UInt8} {l : List Ver} (h : IsRun b l) (hb : b.length ≤ 1000000) : (frs b).2 = b.length ∧ (frs b).1.length = many8 l + 2 ∧ ∀ k, k < many8 l → ∃ f, (frs b).1[k]? = some f ∧ blkRd f = (pc8 l k, 0) := by
  have hl := h.len
  obtain ⟨h1, rfl⟩ := h
  rw [frs_run h1 (by omega)]
  refine ⟨rfl, by simp [blocksB_len], fun k hk => ?_⟩
  obtain ⟨h2, h3⟩ := run_frame h1 k hk
  exact ⟨_, by rw [List.getElem?_append_left (by rw [blocksB_len]; exact hk)]; exact h2, h3⟩
theorem IsRun.inj {b : List UInt8} {l m : List Ver} (h : IsRun b l) (k : IsRun b m) (hb : b.length ≤ 1000000) : l = m := by
  obtain ⟨-, h1, h2⟩ := h.frames hb
  obtain ⟨-, k1, k2⟩ := k.frames hb
  have he : many8 l = many8 m := by omega
  rw [← pcs8_join l, ← pcs8_join m]
  congr 1
  unfold pcs8
  rw [show (l.length + 7) / 8 = many8 l from rfl, show (m.length + 7) / 8 = many8 m from rfl, he]
  refine List.map_congr_left fun i hi => ?_
  rw [List.mem_range] at hi
  obtain ⟨f, e1, e2⟩ := h2 i (by omega)
  obtain ⟨f', e3, e4⟩ := k2 i hi
  rw [e1] at e3
  injection e3 with e3
  subst e3
  rw [e2] at e4
  injection e4
/-- What has been read when k frames are read. -/
theorem IsRun.read {b : List UInt8} {l : List Ver} (k : Nat) (hk : k ≤ many8 l) : ((List.range k).map (pc8 l)).flatten = l.take (8 * k) := pcs8_join_go l k hk
end Go.Proofs.Ytefjdmlmmoeoaaa
