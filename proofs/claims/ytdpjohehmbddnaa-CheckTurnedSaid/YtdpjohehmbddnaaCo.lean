/- Layer 3: plain facts on a frame of which a byte is turned. -/
import Derived.Test.YtdpjohehmbddnaaCn
namespace Go.Proofs.Ytdpjohehmbddnaa
open Go.RowKit
set_option linter.unusedVariables false

theorem OwnB.pos {w : World} {base : Nat} {v : Value} {l : List UInt8} (h : OwnB w base v l) (hp : 0 < l.length) : ∃ g c, v = .slice (some ⟨g, 0, none⟩) l.length c ∧ base ≤ g ∧ g < w.heap.size := by
  rcases h.2 with ⟨_, h0⟩ | ⟨g, cap, _, rfl, hb, hg, _⟩
  · omega
  · exact ⟨g, cap, rfl, hb, (Array.getElem?_eq_some_iff.1 hg).1⟩
theorem frm_at (q : List UInt8) (j : Nat) (hj : j < q.length) : (frm q)[8 + j]'(by rw [frm_length]; omega) = q[j] := by
  unfold frm
  rw [List.getElem_append_right (by simp [enc4_length])]
  congr 1
  simp [enc4_length]
theorem frm_set (q : List UInt8) (j : Nat) (d : UInt8) : (frm q).set (8 + j) d = enc4 q.length ++ enc4 (crcN q) ++ q.set j d := by
  unfold frm
  rw [List.set_append_right _ _ (by simp [enc4_length])]
  congr 2
  simp [enc4_length]
theorem xor_u8 (c d : UInt8) : bits .xor .u8 (c.toNat : Int) (d.toNat : Int) = (((c ^^^ d).toNat : Nat) : Int) := by
  rw [u8_xor_nat _ _ c.toNat_lt d.toNat_lt, UInt8.toNat_xor]
theorem xor_ne (c d : UInt8) (h : d ≠ 0) : c ^^^ d ≠ c := by
  intro e
  apply h
  have : c ^^^ (c ^^^ d) = c ^^^ c := by rw [e]
  simpa [← UInt8.xor_assoc] using this
theorem turned_bad (q : List UInt8) (j : Nat) (d : UInt8) (hj : j < q.length) (hq : q.length < 4294967296) (hd : d ≠ 0) : one1 ((frm q).set (8 + j) (q[j] ^^^ d)) = ([], 4) := by
  rw [frm_set]
  have h1 : (q.set j (q[j] ^^^ d)).length = q.length := List.length_set
  have := one1_bad (q.set j (q[j] ^^^ d)) (crcN q) (by omega) (crcN_lt q) (crcN_set q j _ hj (xor_ne _ _ hd))
  rw [h1] at this
  exact this
theorem turned_same (q : List UInt8) (j : Nat) (hj : j < q.length) (hq : q.length < 4294967296) : one1 ((frm q).set (8 + j) (q[j] ^^^ 0)) = (q, 0) := by
  have h1 : q[j] ^^^ (0 : UInt8) = q[j] := by simp
  rw [h1, frm_set, List.set_getElem_self]
  exact one1_frm q hq
end Go.Proofs.Ytdpjohehmbddnaa
