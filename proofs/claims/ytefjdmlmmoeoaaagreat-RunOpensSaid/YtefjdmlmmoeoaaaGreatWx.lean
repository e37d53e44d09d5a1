/- Layer 9: a run opened, by the document. -/
import Derived.Test.YtefjdmlmmoeoaaaGreatWf
import Derived.Test.YtefjdmlmmoeoaaaGreatWb
import Derived.Test.YtefjdmlmmoeoaaaGreatWc
import Derived.Test.YtefjdmlmmoeoaaaGreatCA
import Derived.Test.YtefjdmlmmoeoaaaGreatTh
import Derived.Test.YtefjdmlmmoeoaaaGreatBE
namespace Go.Proofs.YtefjdmlmmoeoaaaGreat
open Go.RowKit
set_option linter.unusedVariables false

set_option maxHeartbeats 8000000 in
set_option maxRecDepth 100000 in
theorem ref9_open (va : Value) (b : List UInt8) (w : World) (ha : RdB w w.heap.size va b) (hb : b.length ≤ 2000) :
    Calls Tryz.prog 5 #[va] w fun r w' => ∃ v' L f, r = .returned (.tuple #[v', .bool f]) ∧ OwnVr w' w.heap.size v' L ∧ Below w.heap.size w w' ∧ ((f = true ∧ IsRun b L) ∨ (f = false ∧ ∀ l, ¬ IsRun b l)) := by
  have HB := Lib.hid ha
  have HFR := Lib.hid (fun l (h : IsRun b l) => h.frames (by omega))
  obtain ⟨hm8, hml⟩ := frs_many b
  have HML := Lib.hid hml
  have CF := Lib.hid (fun v w h => ref_frames v b w h (by omega))
  obtain ⟨A, c, rfl, -⟩ := ha
  clear hml
  generalize (frs b).1 = F at *
  generalize (frs b).2 = N at *
  go_enter Tryz.func5, Tryz.ntmps5
  go_wp2_with fail
  refine (CF.out _ _ HB.out).mono ?_
  rintro z w1 ⟨v1, rfl, ho1, hb1⟩
  have O1 := Lib.hid ho1
  have HB := Lib.hid (HB.out.on hb1)
  have G := Lib.hid hb1
  obtain ⟨A1, c1, e1, -⟩ := ho1.form
  subst e1
  have hFl : F.length ≤ 2500 := by omega
  clear ho1 hb1 hm8
  by_cases hN : N = b.length
  case neg =>
    have q1 : ((N : Int) != (b.length : Int)) = true := by simpa [bne] using (show ¬ (N : Int) = (b.length : Int) from by omega)
    have q2 : (N != b.length) = true := by simpa [bne] using hN
    have HNO := Lib.hid (show ∀ l, ¬ IsRun b l from fun l h => hN (HFR.out l h).1)
    clear hN
    go_wp2_with fail
    go_ret2
    exact ⟨_, [], false, rfl, OwnX.nil _ _, G.out, .inr ⟨rfl, HNO.out⟩⟩
  have q1 : ((N : Int) != (b.length : Int)) = false := by simp [bne, hN]
  have q2 : (N != b.length) = false := by simp [bne, hN]
  by_cases h2 : F.length < 2
  case pos =>
    have q3 : decide ((F.length : Int) < 2) = true := by simp; omega
    have q4 : decide (F.length < 2) = true := by simpa using h2
    have HNO := Lib.hid (show ∀ l, ¬ IsRun b l from fun l h => by have := (HFR.out l h).2.1; omega)
    clear hN h2
    go_wp2_with fail
    go_ret2
    exact ⟨_, [], false, rfl, OwnX.nil _ _, G.out, .inr ⟨rfl, HNO.out⟩⟩
  obtain ⟨n, hn⟩ : ∃ n, F.length = n + 2 := ⟨F.length - 2, by omega⟩
  have q3 : decide ((F.length : Int) < 2) = false := by rw [decide_eq_false_iff_not]; omega
  have q4 : decide (F.length < 2) = false := by rw [decide_eq_false_iff_not]; omega
  have HFN := Lib.hid hn
  have hn1 : n ≤ 2500 := by omega
  have hw1 := Lib.hid G.out.size
  clear hN h2 hn
  go_wp2_with fail
  go_loopw [6, 7] (fun x i wr => ∃ (k : Nat) (out : List Ver), i = .int .i64 k ∧ k ≤ n ∧ OwnVr wr w1.heap.size x out ∧ out.length ≤ 8 * k ∧ (∀ v ∈ out, mayV v = true) ∧ (∀ l, IsRun b l → out = l.take (8 * k)) ∧ Below w1.heap.size w1 wr) (fun _ i _ => n - (intOf i).toNat)
  case atStart => exact ⟨0, [], rfl, Nat.zero_le _, OwnX.nil _ _, by simp, by simp, by simp, Below.refl _ _⟩
  case round =>
    obtain ⟨k, out, rfl, hk, ho, hol, hok, hir, hb1w⟩ := hrel
    rename World => wo
    have O := Lib.hid ho
    have GB := Lib.hid hb1w
    have HB := Lib.hid (HB.out.on hb1w)
    have G := Lib.hid (G.out.trans (hb1w.mono G.out.size))
    have OKS := Lib.hid hok
    have HIR := Lib.hid hir
    obtain ⟨Ax, cx, ex, -⟩ := ho.rd
    subst ex
    clear ho hb1w hok hir
    have hw2 : IntKind.i64.wrap ((k : Int) + 2) = (k : Int) + 2 := by rw [IntKind.wrap_i64]; omega
    by_cases hlt : k < n
    · have zl : decide ((k : Int) + 2 < (F.length : Int)) = true := by have := HFN.out; simp; omega
      have hkF : k < F.length := by have := HFN.out; omega
      have zl2 : decide (k < F.length) = true := by simpa using hkF
      have zl3 : decide ((k : Int) < (F.length : Int)) = true := by simp; omega
      obtain ⟨A', c', e1, -, -, hA⟩ := (O1.out.below GB.out).form
      obtain ⟨ba, oa, ua, rfl, hba, ca1, ra⟩ := hA k hkF
      cases e1
      have hfl := HML.out _ (List.getElem_mem hkF)
      have HF := Lib.hid (show F[k]? = some F[k] from List.getElem?_eq_getElem hkF)
      generalize F[k] = f at *
      have R := Lib.hid (ra.more GB.out.size)
      obtain ⟨Au, cu, eu, -⟩ := ra
      subst eu
      have BR := Lib.hid (fun v w h => ref8_read v f w h (by omega))
      have HSN := Lib.hid (show ∀ l, IsRun b l → (blkRd f).2 = 0 ∧ out ++ (blkRd f).1 = l.take (8 * (k + 1)) from fun l h => by
        obtain ⟨-, h2, h3⟩ := HFR.out l h
        have := HFN.out
        obtain ⟨f', e1, e2⟩ := h3 k (by omega)
        rw [HF.out] at e1
        injection e1 with e1
        subst e1
        rw [e2, HIR.out l h]
        refine ⟨rfl, ?_⟩
        show l.take (8 * k) ++ (l.drop (8 * k)).take 8 = _
        rw [show 8 * (k + 1) = 8 * k + 8 from by omega, List.take_add])
      have HGD := Lib.hid (fun h => blkB_len (blkRd_good (f := f) h))
      clear hA hba
      generalize (blkRd f).1 = pc at *
      generalize (blkRd f).2 = E at *
      go_wp2_with fail
      refine (BR.out _ _ R.out).mono ?_
      rintro z w2 ⟨v2, rfl, ho2, hb2⟩
      have O2 := Lib.hid (O.out.on hb2)
      have G := Lib.hid (G.out.trans (hb2.mono G.out.size))
      have GB2 := Lib.hid (GB.out.trans (hb2.mono GB.out.size))
      have P2 := Lib.hid ho2.rd
      obtain ⟨A2', c2', e2, -⟩ := ho2.rd
      subst e2
      clear ho2 hb2
      by_cases he : E = 0
      · subst he
        obtain ⟨g1, g2, g3⟩ := HGD.out rfl
        have HMK := Lib.hid (show ∀ v ∈ out ++ pc, mayV v = true from fun v hv => by
          rcases List.mem_append.1 hv with hv | hv
          · exact OKS.out v hv
          · exact blk_may g3 v hv)
        have hal := Lib.hid (show out.length + pc.length ≤ 1000000000 from by omega)
        clear g3
        go_wp2_with (at_builtin; refine wpl_appX_rd rfl (.tmp 42) (.tmp 43) rfl Tryz.underlying27 ver_info rfl w1.heap.size _ _ _ out pc rfl rfl O2.out P2.out GB2.out.size hal.out (by decide) ?_; intro v9 w9 ho9 hg9 hb9)
        have OZ := Lib.hid ho9
        have BZ := Lib.hid (GB2.out.trans hb9)
        clear ho9 hg9 hb9
        go_roundw
        case rel => exact ⟨k + 1, out ++ pc, by go_num, hlt, OZ.out, by rw [List.length_append]; omega, HMK.out, fun l h => (HSN.out l h).2, BZ.out⟩
        case measure => simp [intOf]; omega
      · have hne : (E != 0) = true := by simpa [bne] using he
        have HNO := Lib.hid (show ∀ l, ¬ IsRun b l from fun l h => he (HSN.out l h).1)
        clear he
        go_wp2_with fail
        go_ret2
        exact ⟨_, [], false, rfl, OwnX.nil _ _, G.out, .inr ⟨rfl, HNO.out⟩⟩
    · have hke : k = n := by omega
      have zl : decide ((k : Int) + 2 < (F.length : Int)) = false := by have := HFN.out; rw [decide_eq_false_iff_not]; omega
      have hoL : out.length ≤ 20000 := by omega
      have HEND := Lib.hid (show ∀ l, IsRun b l → out = l from fun l h => by
        have h2 := (HFR.out l h).2.1
        have h3 := HFN.out
        rw [HIR.out l h]
        exact List.take_of_length_le (by have : many8 l = (l.length + 7) / 8 := rfl; omega))
      have IS := Lib.hid (fun va w h => ref9_is va out w h (fun v hv => Nat.le_trans (may_key (OKS.out v hv)) (by omega)))
      have RB := Lib.hid (fun va w h => ref9_build va out w h OKS.out hoL)
      clear hke hlt
      go_wp2_with fail
      refine (IS.out _ _ O.out.rd).mono ?_
      rintro z w3 ⟨rfl, hb3⟩
      have O3 := Lib.hid (O.out.on hb3)
      have HB := Lib.hid (HB.out.on hb3)
      have G := Lib.hid (G.out.trans (hb3.mono G.out.size))
      clear hb3
      cases hok : okTo out out.length
      · have HNO := Lib.hid (show ∀ l, ¬ IsRun b l from fun l h => by
          have := HEND.out l h
          subst this
          rw [h.1] at hok
          cases hok)
        clear hok
        go_wp2_with fail
        go_quiet (fail)
        have G := Lib.hid (G.out.drewN nq)
        go_wp2_with fail
        go_ret2
        exact ⟨_, [], false, rfl, OwnX.nil _ _, G.out, .inr ⟨rfl, HNO.out⟩⟩
      · by_cases hq : encRun out = b
        · have HIS := Lib.hid (show IsRun b out from ⟨hok, hq⟩)
          have z8 : (encRun out == b) = true := by simpa using hq
          have z9 : (encRun out != b) = false := by simp [bne, hq]
          clear hok hq
          generalize encRun out = er at *
          have HD := Lib.hid (show RdB w3.drew w3.drew.heap.size _ b from (show RdB w3 w3.heap.size _ b from HB.out).drew)
          go_wp2_with fail
          refine reg_start (by kernel_rfl) ?_
          refine reg_take2 0 47 (v := ?_) (T' := ?_) (Later.refl _) (by kernel_rfl) (by kernel_rfl) (by kernel_rfl) (fun _ _ _ h => h) (fun o ho => ?_) ?_ ?_
          rotate_left 2
          · cases ho
            refine ⟨rfl, rfl, fun W hW => ?_⟩
            go_simp; (try with_reducible rfl)
          · simp only [List.setIfInBounds_toArray, List.set_cons_succ, List.set_cons_zero]; exact rfl
          refine reg_take2 1 48 (v := ?_) (T' := ?_) (Later.refl _) (by kernel_rfl) (by kernel_rfl) (by kernel_rfl) (fun _ _ _ h => h) (fun o ho => ?_) ?_ ?_
          rotate_left 2
          · cases ho
            refine ⟨rfl, rfl, fun W hW => ?_⟩
            go_simp; (try with_reducible rfl)
          · simp only [List.setIfInBounds_toArray, List.set_cons_succ, List.set_cons_zero]; exact rfl
          refine reg_take2 2 49 (v := ?_) (T' := ?_) (Later.refl _) (by kernel_rfl) (by kernel_rfl) (by kernel_rfl) (fun _ _ _ h => h) (fun o ho => ?_) ?_ ?_
          rotate_left 2
          · cases ho
            refine ⟨rfl, rfl, fun W hW => ?_⟩
            go_simp; (try with_reducible rfl)
          · simp only [List.setIfInBounds_toArray, List.set_cons_succ, List.set_cons_zero]; exact rfl
          refine reg_take2 3 50 (v := ?_) (T' := ?_) (Later.refl _) (by kernel_rfl) (by kernel_rfl) (by kernel_rfl) (fun _ _ _ h => h) (fun o ho => ?_) ?_ ?_
          rotate_left 2
          · cases ho
            refine ⟨rfl, rfl, fun W hW => ?_⟩
            go_simp; (try with_reducible rfl)
          · simp only [List.setIfInBounds_toArray, List.set_cons_succ, List.set_cons_zero]; exact rfl
          refine reg_take2 6 53 (v := ?_) (T' := ?_) (Later.refl _) (by kernel_rfl) (by kernel_rfl) (by kernel_rfl) (fun _ _ _ h => h) (fun o ho => ?_) ?_ ?_
          rotate_left 2
          · cases ho
            refine ⟨rfl, rfl, fun W hW => ?_⟩
            go_simp; (try with_reducible rfl)
          · simp only [List.setIfInBounds_toArray, List.set_cons_succ, List.set_cons_zero]; exact rfl
          refine reg_take2 7 54 (v := ?_) (T' := ?_) (Later.refl _) (by kernel_rfl) (by kernel_rfl) (by kernel_rfl) (fun _ _ _ h => h) (fun o ho => ?_) ?_ ?_
          rotate_left 2
          · cases ho
            refine ⟨rfl, rfl, fun W hW => ?_⟩
            have hcv := RdB.str (RdB.below HD.out hW)
            go_simp; (try with_reducible rfl)
          · simp only [List.setIfInBounds_toArray, List.set_cons_succ, List.set_cons_zero]; exact rfl
          refine reg_call2 4 51 (Later.refl _) (by kernel_rfl) 16 #[.slice Ax out.length cx] (fun o ho => by cases ho; exact ⟨rfl, rfl, fun W => by go_simp⟩) ?_
          refine (RB.out _ _ (show RdVr w3.drew w3.drew.heap.size _ out from (O3.out.on (Below.refl _ w3).drew).rd)).mono ?_
          rintro z x1 ⟨v6, rfl, ho6, hb6⟩
          have Y := Lib.hid ho6.rd
          have B3 := Lib.hid (show Below w3.heap.size w3 x1 from (Below.refl _ w3).drew.trans hb6)
          have G := Lib.hid (G.out.drew.trans (hb6.mono G.out.drew.size))
          refine ⟨_, _, rfl, hb6, (by simp only [List.setIfInBounds_toArray, List.set_cons_succ, List.set_cons_zero]; exact rfl), ?_⟩
          clear ho6 hb6
          refine reg_take2 5 52 (v := ?_) (T' := ?_) (Later.refl _) (by kernel_rfl) (by kernel_rfl) (by kernel_rfl) (fun _ _ _ h => h) (fun o ho => ?_) ?_ ?_
          rotate_left 2
          · cases ho
            refine ⟨rfl, rfl, fun W hW => ?_⟩
            have hcv := RdB.str (RdB.below Y.out hW)
            go_simp; (try with_reducible rfl)
          · simp only [List.setIfInBounds_toArray, List.set_cons_succ, List.set_cons_zero]; exact rfl
          refine reg_take2 8 55 (v := ?_) (T' := ?_) (Later.refl _) (by kernel_rfl) (by kernel_rfl) (by kernel_rfl) (fun _ _ _ h => h) (fun o ho => ?_) ?_ ?_
          rotate_left 2
          · cases ho
            refine ⟨rfl, rfl, fun W hW => ?_⟩
            go_simp; (try with_reducible rfl)
          · simp only [List.setIfInBounds_toArray, List.set_cons_succ, List.set_cons_zero]; exact rfl
          refine reg_take2 9 56 (v := ?_) (T' := ?_) (Later.refl _) (by kernel_rfl) (by kernel_rfl) (by kernel_rfl) (fun _ _ _ h => h) (fun o ho => ?_) ?_ ?_
          rotate_left 2
          · cases ho
            refine ⟨rfl, rfl, fun W hW => ?_⟩
            go_simp; (try with_reducible rfl)
          · simp only [List.setIfInBounds_toArray, List.set_cons_succ, List.set_cons_zero]; exact rfl
          refine reg_done (by kernel_rfl) ?_
          go_wp2_with fail
          go_ret2
          exact ⟨_, out, true, rfl, OwnX.mono (O3.out.on B3.out) hw1.out, G.out, .inl ⟨rfl, HIS.out⟩⟩
        · have HNO := Lib.hid (show ∀ l, ¬ IsRun b l from fun l h => by
            have := HEND.out l h
            subst this
            exact hq h.2)
          have z8 : (encRun out == b) = false := by simpa using hq
          have z9 : (encRun out != b) = true := by simpa [bne] using hq
          clear hok hq
          generalize encRun out = er at *
          have HD := Lib.hid (show RdB w3.drew w3.drew.heap.size _ b from (show RdB w3 w3.heap.size _ b from HB.out).drew)
          go_wp2_with fail
          refine reg_start (by kernel_rfl) ?_
          refine reg_take2 0 47 (v := ?_) (T' := ?_) (Later.refl _) (by kernel_rfl) (by kernel_rfl) (by kernel_rfl) (fun _ _ _ h => h) (fun o ho => ?_) ?_ ?_
          rotate_left 2
          · cases ho
            refine ⟨rfl, rfl, fun W hW => ?_⟩
            go_simp; (try with_reducible rfl)
          · simp only [List.setIfInBounds_toArray, List.set_cons_succ, List.set_cons_zero]; exact rfl
          refine reg_take2 1 48 (v := ?_) (T' := ?_) (Later.refl _) (by kernel_rfl) (by kernel_rfl) (by kernel_rfl) (fun _ _ _ h => h) (fun o ho => ?_) ?_ ?_
          rotate_left 2
          · cases ho
            refine ⟨rfl, rfl, fun W hW => ?_⟩
            go_simp; (try with_reducible rfl)
          · simp only [List.setIfInBounds_toArray, List.set_cons_succ, List.set_cons_zero]; exact rfl
          refine reg_take2 2 49 (v := ?_) (T' := ?_) (Later.refl _) (by kernel_rfl) (by kernel_rfl) (by kernel_rfl) (fun _ _ _ h => h) (fun o ho => ?_) ?_ ?_
          rotate_left 2
          · cases ho
            refine ⟨rfl, rfl, fun W hW => ?_⟩
            go_simp; (try with_reducible rfl)
          · simp only [List.setIfInBounds_toArray, List.set_cons_succ, List.set_cons_zero]; exact rfl
          refine reg_take2 3 50 (v := ?_) (T' := ?_) (Later.refl _) (by kernel_rfl) (by kernel_rfl) (by kernel_rfl) (fun _ _ _ h => h) (fun o ho => ?_) ?_ ?_
          rotate_left 2
          · cases ho
            refine ⟨rfl, rfl, fun W hW => ?_⟩
            go_simp; (try with_reducible rfl)
          · simp only [List.setIfInBounds_toArray, List.set_cons_succ, List.set_cons_zero]; exact rfl
          refine reg_take2 6 53 (v := ?_) (T' := ?_) (Later.refl _) (by kernel_rfl) (by kernel_rfl) (by kernel_rfl) (fun _ _ _ h => h) (fun o ho => ?_) ?_ ?_
          rotate_left 2
          · cases ho
            refine ⟨rfl, rfl, fun W hW => ?_⟩
            go_simp; (try with_reducible rfl)
          · simp only [List.setIfInBounds_toArray, List.set_cons_succ, List.set_cons_zero]; exact rfl
          refine reg_take2 7 54 (v := ?_) (T' := ?_) (Later.refl _) (by kernel_rfl) (by kernel_rfl) (by kernel_rfl) (fun _ _ _ h => h) (fun o ho => ?_) ?_ ?_
          rotate_left 2
          · cases ho
            refine ⟨rfl, rfl, fun W hW => ?_⟩
            have hcv := RdB.str (RdB.below HD.out hW)
            go_simp; (try with_reducible rfl)
          · simp only [List.setIfInBounds_toArray, List.set_cons_succ, List.set_cons_zero]; exact rfl
          refine reg_call2 4 51 (Later.refl _) (by kernel_rfl) 16 #[.slice Ax out.length cx] (fun o ho => by cases ho; exact ⟨rfl, rfl, fun W => by go_simp⟩) ?_
          refine (RB.out _ _ (show RdVr w3.drew w3.drew.heap.size _ out from (O3.out.on (Below.refl _ w3).drew).rd)).mono ?_
          rintro z x1 ⟨v6, rfl, ho6, hb6⟩
          have Y := Lib.hid ho6.rd
          have B3 := Lib.hid (show Below w3.heap.size w3 x1 from (Below.refl _ w3).drew.trans hb6)
          have G := Lib.hid (G.out.drew.trans (hb6.mono G.out.drew.size))
          refine ⟨_, _, rfl, hb6, (by simp only [List.setIfInBounds_toArray, List.set_cons_succ, List.set_cons_zero]; exact rfl), ?_⟩
          clear ho6 hb6
          refine reg_take2 5 52 (v := ?_) (T' := ?_) (Later.refl _) (by kernel_rfl) (by kernel_rfl) (by kernel_rfl) (fun _ _ _ h => h) (fun o ho => ?_) ?_ ?_
          rotate_left 2
          · cases ho
            refine ⟨rfl, rfl, fun W hW => ?_⟩
            have hcv := RdB.str (RdB.below Y.out hW)
            go_simp; (try with_reducible rfl)
          · simp only [List.setIfInBounds_toArray, List.set_cons_succ, List.set_cons_zero]; exact rfl
          refine reg_take2 8 55 (v := ?_) (T' := ?_) (Later.refl _) (by kernel_rfl) (by kernel_rfl) (by kernel_rfl) (fun _ _ _ h => h) (fun o ho => ?_) ?_ ?_
          rotate_left 2
          · cases ho
            refine ⟨rfl, rfl, fun W hW => ?_⟩
            go_simp; (try with_reducible rfl)
          · simp only [List.setIfInBounds_toArray, List.set_cons_succ, List.set_cons_zero]; exact rfl
          refine reg_take2 9 56 (v := ?_) (T' := ?_) (Later.refl _) (by kernel_rfl) (by kernel_rfl) (by kernel_rfl) (fun _ _ _ h => h) (fun o ho => ?_) ?_ ?_
          rotate_left 2
          · cases ho
            refine ⟨rfl, rfl, fun W hW => ?_⟩
            go_simp; (try with_reducible rfl)
          · simp only [List.setIfInBounds_toArray, List.set_cons_succ, List.set_cons_zero]; exact rfl
          refine reg_done (by kernel_rfl) ?_
          go_wp2_with fail
          go_ret2
          exact ⟨_, [], false, rfl, OwnX.nil _ _, G.out, .inr ⟨rfl, HNO.out⟩⟩
end Go.Proofs.YtefjdmlmmoeoaaaGreat
