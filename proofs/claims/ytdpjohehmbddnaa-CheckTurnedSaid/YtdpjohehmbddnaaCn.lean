/- Layer 3: plain facts on frames: that they are read as they were put; that one that ends too soon is none; that one of which a byte is another one has not its sum. -/
import Derived.Test.YtdpjohehmbddnaaCi
namespace Go.Proofs.Ytdpjohehmbddnaa
open Go.RowKit
set_option linter.unusedVariables false

/-- A frame with some sum in its head, and what stands behind. -/
theorem fst1_gen (p r : List UInt8) (s : Nat) (hp : p.length < 4294967296) (hs : s < 4294967296) :
    fst1 (enc4 p.length ++ enc4 s ++ p ++ r) = if crcN p ≠ s then ([], 8 + p.length, 4) else (p, 8 + p.length, 0) := by
  have e1 : enc4 p.length ++ enc4 s ++ p ++ r = enc4 p.length ++ (enc4 s ++ (p ++ r)) := by simp
  have hl : (enc4 p.length ++ (enc4 s ++ (p ++ r))).length = 8 + (p.length + r.length) := by
    simp only [List.length_append, enc4_length]; omega
  have hd : dec4 (enc4 p.length ++ (enc4 s ++ (p ++ r))) = p.length := dec4_enc4 _ _ hp
  have h4 : (enc4 p.length ++ (enc4 s ++ (p ++ r))).drop 4 = enc4 s ++ (p ++ r) := List.drop_left' (enc4_length _)
  have h8 : (enc4 p.length ++ (enc4 s ++ (p ++ r))).drop 8 = p ++ r := by
    rw [← List.append_assoc]; exact List.drop_left' (by simp [enc4_length])
  unfold fst1
  rw [e1, hl, hd, h4, h8, dec4_enc4 _ _ hs, if_neg (by omega), List.take_left' rfl]
theorem fst1_frm (p r : List UInt8) (hp : p.length < 4294967296) : fst1 (frm p ++ r) = (p, 8 + p.length, 0) := by
  unfold frm
  rw [fst1_gen p r _ hp (crcN_lt p), if_neg (by simp)]
theorem one1_frm (p : List UInt8) (hp : p.length < 4294967296) : one1 (frm p) = (p, 0) := by
  have h := fst1_frm p [] hp
  rw [List.append_nil] at h
  unfold one1
  rw [h, frm_length]
  simp [Nat.add_comm]
/-- One that has another sum. -/
theorem one1_bad (p : List UInt8) (s : Nat) (hp : p.length < 4294967296) (hs : s < 4294967296) (hne : crcN p ≠ s) : one1 (enc4 p.length ++ enc4 s ++ p) = ([], 4) := by
  have h := fst1_gen p [] s hp hs
  rw [List.append_nil, if_pos hne] at h
  have hl : (enc4 p.length ++ enc4 s ++ p).length = 8 + p.length := by simp only [List.length_append, enc4_length]
  unfold one1
  rw [h, hl]
  simp
/-- One that ends too soon. -/
theorem fst1_short (q : List UInt8) (c : Nat) (hq : q.length < 4294967296) (hc : c < (frm q).length) : (fst1 ((frm q).take c)).2.2 ≠ 0 := by
  have hl : ((frm q).take c).length = c := by rw [List.length_take]; omega
  rw [frm_length] at hc
  unfold fst1
  rw [hl, if_pos]
  · decide
  · by_cases h8 : c < 8
    · exact .inl h8
    · right
      have h1 := dec4_take ((frm q).take c) (by omega)
      rw [List.take_take, Nat.min_eq_left (by omega), dec4_take (frm q) (by rw [frm_length]; omega)] at h1
      have h2 : dec4 (frm q) = q.length := by
        have := dec4_enc4 q.length (enc4 (crcN q) ++ q) hq
        unfold frm
        rw [List.append_assoc]; exact this
      omega
theorem frms_cons (p : List UInt8) (ls : List (List UInt8)) : frms (p :: ls) = frm p ++ frms ls := rfl
/-- Frames are read as they were put, up to whatever stands behind that is none. -/
theorem frs_frms (ls : List (List UInt8)) (r : List UInt8) (hl : ∀ l ∈ ls, l.length < 4294967296) (hr : (fst1 r).2.2 ≠ 0) : frs (frms ls ++ r) = (ls, (frms ls).length) := by
  induction ls with
  | nil => exact frs_end r hr
  | cons p ls ih =>
    have h1 := fst1_frm p (frms ls ++ r) (hl p (by simp))
    have h2 : frms (p :: ls) ++ r = frm p ++ (frms ls ++ r) := by rw [frms_cons, List.append_assoc]
    rw [h2, frs_ok _ (by rw [h1]), h1]
    have h3 : (frm p ++ (frms ls ++ r)).drop (8 + p.length) = frms ls ++ r := List.drop_left' (by rw [frm_length]; omega)
    simp only [h3]
    rw [ih (fun l h => hl l (by simp [h])), frms_cons, List.length_append, frm_length]
    simp [Nat.add_comm]

/-- With one byte another one. -/
theorem crcN_set (p : List UInt8) (j : Nat) (d : UInt8) (hj : j < p.length) (hne : d ≠ p[j]) : crcN (p.set j d) ≠ crcN p := by
  have e1 : p.set j d = p.take j ++ d :: p.drop (j + 1) := List.set_eq_take_append_cons_drop.trans (by rw [if_pos hj])
  have e2 : p = p.take j ++ p[j] :: p.drop (j + 1) := by
    have := List.take_append_drop j p
    rw [List.drop_eq_getElem_cons hj] at this
    exact this.symm
  intro h
  rw [e1] at h
  have h2 : crcN (p.take j ++ d :: p.drop (j + 1)) = crcN (p.take j ++ p[j] :: p.drop (j + 1)) := by rw [h, ← e2]
  exact hne (crcN_turned _ _ _ _ h2)
end Go.Proofs.Ytdpjohehmbddnaa
