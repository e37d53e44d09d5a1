/- Layer 3: the program's frames, put; one frame alone, read. -/
import Derived.Test.YtdpjohehmbddnaaCh
import Derived.Test.YtdpjohehmbddnaaCe
namespace Go.Proofs.Ytdpjohehmbddnaa
open Go.RowKit
set_option linter.unusedVariables false

def frms (ls : List (List UInt8)) : List UInt8 := ls.flatMap frm
theorem frms_snoc (ls : List (List UInt8)) (l : List UInt8) : frms (ls ++ [l]) = frms ls ++ frm l := by simp [frms]
theorem frms_one (l : List UInt8) : frms [l] = frm l := by simp [frms]
/-- One slice of bytes, in a literal. -/
theorem bb_one (w : World) (v : Value) (l : List UInt8) (h : RdB w w.heap.size v l) :
    RdBB (w.alloc (.cells #[v] 22)) (w.alloc (.cells #[v] 22)).heap.size (.slice (some ⟨w.heap.size, 0, none⟩) 1 1) [l] :=
  ⟨[v], RdV.lit w _ _ [v] 1 _ rfl rfl (by simp) (by simp), rfl, fun i u m h1 h2 => by
    match i with
    | 0 => simp at h1 h2; subst h1 h2; exact h.on (alloc_below w _)
    | i + 1 => simp at h1⟩
theorem frms_length {ls : List (List UInt8)} {m : Nat} (h : ∀ l ∈ ls, l.length ≤ m) : (frms ls).length ≤ ls.length * (m + 8) := by
  induction ls with
  | nil => simp [frms]
  | cons l ls ih =>
    have h1 := ih (fun x hx => h x (by simp [hx]))
    have h2 := h l (by simp)
    have h3 : frms (l :: ls) = frm l ++ frms ls := rfl
    rw [h3, List.length_append, frm_length, List.length_cons, Nat.succ_mul]
    omega

set_option maxHeartbeats 1000000 in
theorem chk_frame (v : Value) (ls : List (List UInt8)) (w : World) (h : RdBB w w.heap.size v ls) (hl : ls.length ≤ 1000) (hm : ∀ l ∈ ls, l.length ≤ 1000000) :
    Calls Try.prog 13 #[v] w fun e w' => ∃ v', e = .returned v' ∧ OwnB w' w.heap.size v' (frms ls) ∧ Below w.heap.size w w' := by
  have H := Lib.hid h
  have HM := Lib.hid hm
  obtain ⟨A, c, rfl, hlc, hc, -⟩ := h.form
  clear h hm
  go_enter Try.func13, Try.ntmps13
  go_wp2
  go_loopw [3, 8] (fun x i wr => ∃ k : Nat, i = .int .i64 k ∧ k ≤ ls.length ∧ OwnB wr w.heap.size x (frms (ls.take k)) ∧ Below w.heap.size w wr) (fun _ i _ => ls.length - (intOf i).toNat)
  case atStart => exact ⟨0, rfl, by omega, by simpa [frms] using OwnB.nil w w.heap.size, Below.refl _ _⟩
  case round =>
    obtain ⟨k, rfl, hk, ho, hb⟩ := hrel
    have O := Lib.hid ho
    have G := Lib.hid hb
    clear ho hb
    by_cases hlt : k < ls.length
    · obtain ⟨A', c', e1, -, -, hA⟩ := (H.out.below G.out).form
      obtain ⟨ba, oa, ua, rfl, hba, ca1, ra⟩ := hA k hlt
      cases e1
      have hs1 : ls.take (k + 1) = ls.take k ++ [ls[k]] := List.take_succ_eq_append_getElem hlt
      have hlen := frms_length (ls := ls.take k) (m := 1000000) (fun x hx => HM.out x (List.mem_of_mem_take hx))
      rw [List.length_take, Nat.min_eq_left hk] at hlen
      have hlm := HM.out ls[k] (List.getElem_mem hlt)
      have S1 := Lib.hid (show frms (ls.take (k + 1)) = frms (ls.take k) ++ frm ls[k] from by rw [hs1, frms_snoc])
      clear hA hs1
      generalize frms (ls.take k) = L at *
      generalize ls[k] = p at *
      have hL : L.length ≤ 2000000000 := by omega
      clear hlen
      have R := Lib.hid ra
      obtain ⟨Au, cu, rfl, -⟩ := ra
      have hcr := crcN_lt p
      have hF := Lib.hid (show frm p = enc4 p.length ++ enc4 (crcN p) ++ p from rfl)
      go_wp2_with fail
      refine (put_word _ _ L p.length _ O.out G.out.size (by omega) (by omega)).mono ?_
      rintro e w1 ⟨v1, rfl, ho1, hb1⟩
      have O1 := Lib.hid ho1
      have R1 := Lib.hid (R.out.below hb1)
      have G1 := Lib.hid (G.out.trans hb1)
      clear ho1 hb1
      go_wp2_with fail
      refine (chk_sum _ _ p _ R1.out).mono ?_
      rintro e w2 ⟨rfl, rfl⟩
      generalize crcN p = n at *
      go_wp2_with fail
      refine (put_word _ _ (L ++ enc4 p.length) n _ O1.out G1.out.size (by simp [enc4]; omega) (by omega)).mono ?_
      rintro e w3 ⟨v3, rfl, ho3, hb3⟩
      have O3 := Lib.hid ho3
      have R3 := Lib.hid (R1.out.below hb3)
      have G3 := Lib.hid (G1.out.trans hb3)
      clear ho3 hb3
      go_wp2_with (at_builtin; refine wpl_app_bytes_b rfl (.tmp 20) (.tmp 21) rfl w.heap.size _ _ _ (L ++ enc4 p.length ++ enc4 n) p rfl rfl O3.out R3.out ?_ ?_ ?_; rotate_left 2; intro v4 w4 ho4 hb4)
      · go_roundw
        case rel => exact ⟨k + 1, by go_num, by omega, by rw [S1.out, hF.out]; simpa [List.append_assoc] using ho4, G3.out.trans hb4⟩
        case measure => simp [intOf]; omega
      · exact G3.out.size
      · simp [enc4]; omega
    · have hke := Lib.hid (show ls.take k = ls from List.take_of_length_le (by omega))
      have O1 := Lib.hid (show OwnB wr w.heap.size u3 (frms ls) from by have := O.out; rw [hke.out] at this; exact this)
      clear O hke
      go_wp2
      go_ret
      exact ⟨_, rfl, O1.out, G.out⟩
end Go.Proofs.Ytdpjohehmbddnaa
