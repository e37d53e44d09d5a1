/- Layer 14: the versions of a key, by the document. -/
import Derived.Test.YtlpakooogbaclaaGf
namespace Go.Proofs.Ytlpakooogbaclaa
open Go.RowKit
set_option linter.unusedVariables false

theorem takeV_snoc (l : List Ver) (k : Nat) (h : k < l.length) : l.take (k + 1) = l.take k ++ [l[k]] := by rw [List.take_succ_eq_append_getElem h]
theorem flt_true {F : Ver → Bool} (l : List Ver) (k : Nat) (h : k < l.length) (hF : F l[k] = true) : (l.take (k + 1)).filter F = (l.take k).filter F ++ [l[k]] := by
  rw [takeV_snoc l k h, List.filter_append, List.filter_cons_of_pos (by simpa using hF)]; rfl
theorem flt_false {F : Ver → Bool} (l : List Ver) (k : Nat) (h : k < l.length) (hF : F l[k] = false) : (l.take (k + 1)).filter F = (l.take k).filter F := by
  rw [takeV_snoc l k h, List.filter_append, List.filter_cons_of_neg (by simp [hF])]; simp
theorem flt_len (F : Ver → Bool) (l : List Ver) (k : Nat) : ((l.take k).filter F).length ≤ l.length := Nat.le_trans (List.length_filter_le _ _) (by rw [List.length_take]; omega)
theorem str_eqT {a b : ByteArray} (h : a = b) : (a.toList == b.toList) = true := by subst h; simp
theorem str_eqF {a b : ByteArray} (h : ¬ a = b) : (a.toList == b.toList) = false := by
  rw [beq_eq_false_iff_ne]
  intro e
  rw [ByteArray.toList_eq, ByteArray.toList_eq] at e
  obtain ⟨⟨a⟩⟩ := a
  obtain ⟨⟨b⟩⟩ := b
  exact h (by simpa using e)

set_option maxHeartbeats 4000000 in
set_option maxRecDepth 100000 in
theorem ref14_of (va : Value) (l : List Ver) (key : ByteArray) (w : World) (ha : RdVr w w.heap.size va l) (hl : l.length ≤ 20000) :
    Calls Try.prog 50 #[va, .string key] w fun e w' => ∃ v', e = .returned v' ∧ OwnX verL 50 w' w.heap.size v' (l.filter fun v => decide (v.key = key)) ∧ Below w.heap.size w w' := by
  have HA := Lib.hid ha
  obtain ⟨A, ca, rfl, hla, hca, -⟩ := ha
  obtain ⟨F, hF⟩ : ∃ F : Ver → Bool, (fun v : Ver => decide (v.key = key)) = F := ⟨_, rfl⟩
  have HFF := Lib.hid (show ∀ v, F v = decide (v.key = key) from fun v => by rw [← hF])
  rw [hF]
  clear hF
  go_enter Try.func50, Try.ntmps50
  go_wp2_with fail
  go_loopw [5, 6] (fun x i wr => ∃ k : Nat, i = .int .i64 k ∧ k ≤ l.length ∧ OwnX verL 50 wr w.heap.size x ((l.take k).filter F) ∧ Below w.heap.size w wr) (fun _ i _ => l.length - (intOf i).toNat)
  case atStart => exact ⟨0, rfl, Nat.zero_le _, OwnX.nil _ _, Below.refl _ _⟩
  case round =>
    obtain ⟨k, rfl, hk, ho, hb⟩ := hrel
    have hTl := flt_len F l k
    have HTE := Lib.hid (show k = l.length → (l.take k).filter F = l.filter F from fun h => by rw [List.take_of_length_le (by omega)])
    have HTT := Lib.hid (fun h h2 => flt_true (F := F) l k h h2)
    have HTF := Lib.hid (fun h h2 => flt_false (F := F) l k h h2)
    generalize (l.take k).filter F = TK at *
    have O := Lib.hid ho
    have G := Lib.hid hb
    obtain ⟨OA, oc, eo, -⟩ := ho.rd
    subst eo
    clear ho hb
    by_cases hlt : k < l.length
    · have z1 : decide ((k : Int) < (l.length : Int)) = true := by simp; omega
      obtain ⟨b, o, rfl, hbb, c0, c1, c2, c3, c4, c5, c6, c7⟩ := RdVr.here (HA.out.below G.out) k hlt
      have TT := Lib.hid (HTT.out hlt)
      have TF := Lib.hid (HTF.out hlt)
      have FV := Lib.hid (HFF.out l[k])
      generalize l[k] = p at *
      obtain ⟨kk, bb, ee, ss, ⟨xx, yy⟩, uu, gg⟩ := p
      simp only at c0 c1 c2 c3 c4 c5 c6 c7
      have hal1 := Lib.hid (show TK.length + 1 ≤ 1000000000 from by omega)
      have hsz := Lib.hid G.out.size
      by_cases hq : kk = key
      · have zq := str_eqT hq
        have TT := Lib.hid (TT.out (by rw [FV.out]; simpa using hq))
        clear hq hTl
        go_wp2_with (at_builtin; refine wpl_appX rfl (.tmp 20) (.tmp 25) rfl Try.underlying22 ver_info rfl w.heap.size _ TK [(⟨kk, bb, ee, ss, (xx, yy), uu, gg⟩ : Ver)] _ _ _ rfl rfl rfl rfl O.out hsz.out hal1.out (by decide) ?_; intro v5 w5 ho5 hg5 hb5)
        have OZ := Lib.hid (show OwnX verL 50 w5 w.heap.size v5 ((l.take (k + 1)).filter F) from by rw [TT.out]; exact ho5)
        have GZ := Lib.hid (G.out.trans hb5)
        clear ho5 hg5 hb5
        go_roundw
        case rel => exact ⟨k + 1, by go_num, by omega, OZ.out, GZ.out⟩
        case measure => simp [intOf]; omega
      · have zq := str_eqF hq
        have TF := Lib.hid (TF.out (by rw [FV.out]; simpa using hq))
        clear hq hTl
        go_wp2_with fail
        go_roundw
        case rel => exact ⟨k + 1, by go_num, by omega, by rw [TF.out]; exact O.out, G.out⟩
        case measure => simp [intOf]; omega
    · obtain rfl : k = l.length := by omega
      have HE := Lib.hid (HTE.out rfl)
      clear hTl
      go_wp2_with fail
      go_ret
      exact ⟨_, rfl, by rw [← HE.out]; exact O.out, G.out⟩

end Go.Proofs.Ytlpakooogbaclaa
