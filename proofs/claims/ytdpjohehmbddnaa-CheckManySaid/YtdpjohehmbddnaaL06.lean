/- CheckMany: for all lists of bytes (the first 5, the first 40 of each), frames that are made at once are made one by one, and one alone is read as it. No conditions. -/
import Derived.Test.YtdpjohehmbddnaaCl
import Derived.Test.YtdpjohehmbddnaaCn
import Derived.Test.YtdpjohehmbddnaaBopen
import Derived.Test.YtdpjohehmbddnaaBlo
import Derived.ChangeMaps5
namespace Go.Proofs.Ytdpjohehmbddnaa.L06
open Go.RowKit Go.ChangeShapes Go.WideShapes Go.ChangeAt
set_option linter.unusedVariables false

def cut (ls : List (List UInt8)) (k : Nat) : List (List UInt8) := (ls.take k).map (·.take 40)
theorem cut_snoc (ls : List (List UInt8)) (k : Nat) (h : k < ls.length) : cut ls (k + 1) = cut ls k ++ [ls[k].take 40] := by
  unfold cut; rw [List.take_succ_eq_append_getElem h, List.map_append]; rfl
theorem cut_len (ls : List (List UInt8)) (k : Nat) : (cut ls k).length ≤ k ∧ ∀ l ∈ cut ls k, l.length ≤ 40 := by
  unfold cut
  refine ⟨by simp; omega, fun l hl => ?_⟩
  obtain ⟨m, _, rfl⟩ := List.mem_map.1 hl
  exact List.length_take_le _ _

set_option maxHeartbeats 4000000 in
set_option maxRecDepth 1000000 in
theorem walk (v0 : Value) (ls : List (List UInt8)) (w : World) (hb : RdBB w w.heap.size v0 ls) :
    Calls Try.prog 8 #[v0] w fun e w' => e = .returned (.bool true) ∧ Below w.heap.size w w' := by
  have H := Lib.hid hb
  obtain ⟨A, c, rfl, -, -, -⟩ := hb.form
  clear hb
  go_enter Try.func8, Try.ntmps8
  go_wp2_with fail
  go_loopw [3, 4, 5] (fun x y i wr => ∃ k : Nat, i = .int .i64 k ∧ k ≤ ls.length ∧ k ≤ 5 ∧ OwnLo wr w.heap.size x (cut ls k) ∧ OwnB wr w.heap.size y (frms (cut ls k)) ∧ Below w.heap.size w wr) (fun _ _ i _ => 5 - (intOf i).toNat)
  case atStart => exact ⟨0, rfl, by omega, by omega, OwnLo.nil _ _, OwnB.nil _ _, Below.refl _ _⟩
  case round =>
    obtain ⟨k, rfl, hk, hk5, ho, hy, hb⟩ := hrel
    have O := Lib.hid ho
    have Y := Lib.hid hy
    have G := Lib.hid hb
    clear ho hy hb
    by_cases hlt2 : k < ls.length ∧ k < 5
    · obtain ⟨hlt, hlt5⟩ := hlt2
      obtain ⟨A', c', e1, -, -, hA⟩ := (H.out.below G.out).form
      obtain ⟨ba, oa, ua, rfl, hba, ca1, ra⟩ := hA k hlt
      cases e1
      have HS := Lib.hid (cut_snoc ls k hlt)
      have hcl := cut_len ls k
      have hcb := frms_length hcl.2
      have HC := Lib.hid hcl.1
      have hR := Lib.hid ra
      clear hA hcl
      have hfb : (frms (cut ls k)).length ≤ 1000 := by have := HC.out; omega
      clear hcb
      generalize cut ls k = L at *
      generalize ls[k] = p0 at *
      have hd5 : decide ((k : Int) < 5) = true := by simp; omega
      go_wp2_with fail
      refine (few_any _ _ p0 40 40 rfl _ hR.out (by omega)).mono ?_
      rintro e w1 ⟨vb, rfl, hrb, rfl⟩
      have hp40 : (p0.take 40).length ≤ 40 := List.length_take_le _ _
      generalize p0.take 40 = p at *
      have RB := Lib.hid hrb
      obtain ⟨Ab, cb, rfl, -⟩ := hrb
      have F1 := Lib.hid (frms_one p)
      go_wp2_with (at_builtin; refine wpl_app_lo rfl (.tmp 25) (.tmp 27) rfl w.heap.size _ _ L p _ 1 _ rfl rfl rfl rfl O.out RB.out G.out.size (by have := HC.out; omega) ?_; intro x2 w2 ho2 hg2 hb2)
      have O2 := Lib.hid ho2
      have Y2 := Lib.hid (Y.out.besideLo O.out hg2)
      have G2 := Lib.hid (G.out.trans hb2)
      have RB2 := Lib.hid (RB.out.below hb2)
      clear ho2 hg2 hb2
      refine (chk_frame _ [p] _ (bb_one w2 _ _ (RB2.out.more G2.out.size)) (by simp) (by simp; omega)).mono ?_
      rintro e w3 ⟨v3, rfl, ho3, hb3⟩
      rw [F1.out] at ho3
      have hb4 := (alloc_below w2 _).trans (hb3.mono (by simp))
      have V3 := Lib.hid ho3
      have O3 := Lib.hid (O2.out.on hb4 G2.out.size)
      have Y3 := Lib.hid (Y2.out.on hb4)
      have G3 := Lib.hid (G2.out.trans (hb4.mono G2.out.size))
      have RB3 := Lib.hid (RB2.out.below (hb4.mono G2.out.size))
      clear ho3 hb3 hb4
      have hfl := frm_length p
      have HS2 := Lib.hid (show frms (L ++ [p]) = frms L ++ frm p from frms_snoc L p)
      have ON := Lib.hid (one1_frm p (by omega))
      have hne3 : ∀ j, v3.ownBlock = some j → some j ≠ u4.ownBlock := fun j hj e => by
        have h1 := (World.ownsRow.lt V3.out j hj).1
        have h2 := (World.ownsRow.lt Y2.out j e.symm).2
        simp at h1; omega
      have NE3 := Lib.hid hne3
      have RV3 := Lib.hid V3.out.rd
      have hfp : (frm p).length ≤ 48 := by omega
      have hLf : (frms L).length + (frm p).length ≤ 1099511627776 := by omega
      obtain ⟨A3, c3, hv3, -⟩ := V3.out.rd
      subst hv3
      clear hne3 V3
      generalize frm p = fp at *
      generalize frms L = lp at *
      have hd8 : ((fp.length : Int) != (p.length : Int) + 8) = false := by simp [bne]; omega
      clear hfl
      go_wp2_with (at_builtin; refine wpl_app_bytes rfl (.tmp 32) (.tmp 33) rfl w.heap.size _ _ _ lp fp rfl rfl Y3.out RV3.out G3.out.size hLf ?_; intro x5 w5 ho5 hg5 hs5)
      have hb5 := hg5.below G3.out.size Y3.out.base
      have Y5 := Lib.hid ho5
      have O5 := Lib.hid (O3.out.beside Y3.out hg5 hb5)
      have G5 := Lib.hid (G3.out.trans hb5)
      have V5 := Lib.hid (RV3.out.grown hg5.grown (by
        cases hob : (Value.slice A3 fp.length c3).ownBlock with
        | none => exact .inl rfl
        | some j => exact .inr (fun e => NE3.out j hob e)))
      have RB5 := Lib.hid (RB3.out.below hb5)
      refine (chk_one _ fp _ V5.out (by omega)).mono ?_
      rintro e w6 ⟨v6, rfl, ho6, hb6⟩
      rw [ON.out] at ho6 ⊢
      have hs1 := ho6.str
      have hs2 := (((RB5.out.more G5.out.size).on hb6)).str
      have O6 := Lib.hid (O5.out.on hb6 G5.out.size)
      have Y6 := Lib.hid (Y5.out.on hb6)
      have G6 := Lib.hid (G5.out.trans (hb6.mono G5.out.size))
      clear ho6 hb6 hg5 hb5 hs5 ho5
      go_wp2_with fail
      go_roundw
      case rel => exact ⟨k + 1, by go_num, by omega, by omega, by rw [HS.out]; exact O6.out, by rw [HS.out, HS2.out]; exact Y6.out, G6.out⟩
      case measure => simp [intOf]; omega
    · have Y := Lib.hid (RdB.drew Y.out.rd)
      have O := Lib.hid (show RdBB wr.drew wr.heap.size u3 (cut ls k) from O.out.rd G.out.size)
      have G := Lib.hid (G.out.drewN 1)
      have hcl := cut_len ls k
      have HL1 := Lib.hid hcl.1
      have HL2 := Lib.hid hcl.2
      clear hcl
      rcases Nat.lt_or_ge k ls.length with hlt | hge
      · have hk5e : k = 5 := by omega
        subst hk5e
        go_wp2_with fail
-- REGION A
        refine reg_start (by kernel_rfl) ?_
        refine reg_take2 0 57 (v := ?_) (T' := ?_) (Later.refl _) (by kernel_rfl) (by kernel_rfl) (by kernel_rfl) (fun _ _ _ h => h) (fun o ho => ?_) ?_ ?_
        rotate_left 2
        · cases ho
          refine ⟨rfl, rfl, fun W hW => ?_⟩
          go_simp; (try with_reducible rfl)
        · simp only [List.setIfInBounds_toArray, List.set_cons_succ, List.set_cons_zero]; exact rfl
        refine reg_take2 3 60 (v := ?_) (T' := ?_) (Later.refl _) (by kernel_rfl) (by kernel_rfl) (by kernel_rfl) (fun _ _ _ h => h) (fun o ho => ?_) ?_ ?_
        rotate_left 2
        · cases ho
          refine ⟨rfl, rfl, fun W hW => ?_⟩
          go_simp; (try with_reducible rfl)
        · simp only [List.setIfInBounds_toArray, List.set_cons_succ, List.set_cons_zero]; exact rfl
        refine reg_take2 4 61 (v := ?_) (T' := ?_) (Later.refl _) (by kernel_rfl) (by kernel_rfl) (by kernel_rfl) (fun _ _ _ h => h) (fun o ho => ?_) ?_ ?_
        rotate_left 2
        · cases ho
          refine ⟨rfl, rfl, fun W hW => ?_⟩
          have hcv := RdB.str (RdB.below Y.out hW)
          go_simp; (try with_reducible rfl)
        · simp only [List.setIfInBounds_toArray, List.set_cons_succ, List.set_cons_zero]; exact rfl
        refine reg_call2 1 58 (Later.refl _) (by kernel_rfl) 13 #[u3] (fun o ho => by cases ho; exact ⟨rfl, rfl, fun W => by go_simp⟩) ?_
        refine (chk_frame _ (cut ls 5) _ O.out (by have := HL1.out; omega) (fun l hl => by have := HL2.out l hl; omega)).mono ?_
        rintro e x1 ⟨y1, rfl, hy1, hb1⟩
        have Y1 := Lib.hid hy1.rd
        have G := Lib.hid (G.out.trans (hb1.mono G.out.size))
        have Y := Lib.hid (Y.out.on hb1)
        refine ⟨y1, _, rfl, hb1, (by simp only [List.setIfInBounds_toArray, List.set_cons_succ, List.set_cons_zero]; exact rfl), ?_⟩
        clear hy1 hb1
        refine reg_take2 2 59 (v := ?_) (T' := ?_) (Later.refl _) (by kernel_rfl) (by kernel_rfl) (by kernel_rfl) (fun _ _ _ h => h) (fun o ho => ?_) ?_ ?_
        rotate_left 2
        · cases ho
          refine ⟨rfl, rfl, fun W hW => ?_⟩
          have hcv := RdB.str (RdB.below Y1.out hW)
          go_simp; (try with_reducible rfl)
        · simp only [List.setIfInBounds_toArray, List.set_cons_succ, List.set_cons_zero]; exact rfl
        refine reg_take2 5 62 (v := ?_) (T' := ?_) (Later.refl _) (by kernel_rfl) (by kernel_rfl) (by kernel_rfl) (fun _ _ _ h => h) (fun o ho => ?_) ?_ ?_
        rotate_left 2
        · cases ho
          refine ⟨rfl, rfl, fun W hW => ?_⟩
          go_simp; (try with_reducible rfl)
        · simp only [List.setIfInBounds_toArray, List.set_cons_succ, List.set_cons_zero]; exact rfl
        refine reg_take2 6 63 (v := ?_) (T' := ?_) (Later.refl _) (by kernel_rfl) (by kernel_rfl) (by kernel_rfl) (fun _ _ _ h => h) (fun o ho => ?_) ?_ ?_
        rotate_left 2
        · cases ho
          refine ⟨rfl, rfl, fun W hW => ?_⟩
          go_simp; (try with_reducible rfl)
        · simp only [List.setIfInBounds_toArray, List.set_cons_succ, List.set_cons_zero]; exact rfl
        refine reg_call2 7 64 (Later.refl _) (by kernel_rfl) 15 #[] (fun o ho => by cases ho; exact ⟨rfl, rfl, fun W => by go_simp⟩) ?_
        refine (lives_any _).mono ?_
        rintro e x7 ⟨rfl, hb7⟩
        have G := Lib.hid (G.out.trans (hb7.mono G.out.size))
        refine ⟨.bool true, _, rfl, hb7, (by simp only [List.setIfInBounds_toArray, List.set_cons_succ, List.set_cons_zero]; exact rfl), ?_⟩
        clear hb7
        refine reg_take2 8 65 (v := ?_) (T' := ?_) (Later.refl _) (by kernel_rfl) (by kernel_rfl) (by kernel_rfl) (fun _ _ _ h => h) (fun o ho => ?_) ?_ ?_
        rotate_left 2
        · cases ho
          refine ⟨rfl, rfl, fun W hW => ?_⟩
          go_simp; (try with_reducible rfl)
        · simp only [List.setIfInBounds_toArray, List.set_cons_succ, List.set_cons_zero]; exact rfl
        refine reg_take2 9 2 (v := ?_) (T' := ?_) (Later.refl _) (by kernel_rfl) (by kernel_rfl) (by kernel_rfl) (fun _ _ _ h => h) (fun o ho => ?_) ?_ ?_
        rotate_left 2
        · cases ho
          refine ⟨rfl, rfl, fun W hW => ?_⟩
          go_simp; (try with_reducible rfl)
        · simp only [List.setIfInBounds_toArray, List.set_cons_succ, List.set_cons_zero]; exact rfl
        refine reg_done (by kernel_rfl) ?_
-- DONE A
        go_wp2_with fail
        go_ret
        exact ⟨rfl, G.out⟩
      · have hd : decide ((k : Int) < (ls.length : Int)) = false := by simp; omega
        go_wp2_with fail
-- REGION B
        refine reg_start (by kernel_rfl) ?_
        refine reg_take2 0 57 (v := ?_) (T' := ?_) (Later.refl _) (by kernel_rfl) (by kernel_rfl) (by kernel_rfl) (fun _ _ _ h => h) (fun o ho => ?_) ?_ ?_
        rotate_left 2
        · cases ho
          refine ⟨rfl, rfl, fun W hW => ?_⟩
          go_simp; (try with_reducible rfl)
        · simp only [List.setIfInBounds_toArray, List.set_cons_succ, List.set_cons_zero]; exact rfl
        refine reg_take2 3 60 (v := ?_) (T' := ?_) (Later.refl _) (by kernel_rfl) (by kernel_rfl) (by kernel_rfl) (fun _ _ _ h => h) (fun o ho => ?_) ?_ ?_
        rotate_left 2
        · cases ho
          refine ⟨rfl, rfl, fun W hW => ?_⟩
          go_simp; (try with_reducible rfl)
        · simp only [List.setIfInBounds_toArray, List.set_cons_succ, List.set_cons_zero]; exact rfl
        refine reg_take2 4 61 (v := ?_) (T' := ?_) (Later.refl _) (by kernel_rfl) (by kernel_rfl) (by kernel_rfl) (fun _ _ _ h => h) (fun o ho => ?_) ?_ ?_
        rotate_left 2
        · cases ho
          refine ⟨rfl, rfl, fun W hW => ?_⟩
          have hcv := RdB.str (RdB.below Y.out hW)
          go_simp; (try with_reducible rfl)
        · simp only [List.setIfInBounds_toArray, List.set_cons_succ, List.set_cons_zero]; exact rfl
        refine reg_call2 1 58 (Later.refl _) (by kernel_rfl) 13 #[u3] (fun o ho => by cases ho; exact ⟨rfl, rfl, fun W => by go_simp⟩) ?_
        refine (chk_frame _ (cut ls k) _ O.out (by have := HL1.out; omega) (fun l hl => by have := HL2.out l hl; omega)).mono ?_
        rintro e x1 ⟨y1, rfl, hy1, hb1⟩
        have Y1 := Lib.hid hy1.rd
        have G := Lib.hid (G.out.trans (hb1.mono G.out.size))
        have Y := Lib.hid (Y.out.on hb1)
        refine ⟨y1, _, rfl, hb1, (by simp only [List.setIfInBounds_toArray, List.set_cons_succ, List.set_cons_zero]; exact rfl), ?_⟩
        clear hy1 hb1
        refine reg_take2 2 59 (v := ?_) (T' := ?_) (Later.refl _) (by kernel_rfl) (by kernel_rfl) (by kernel_rfl) (fun _ _ _ h => h) (fun o ho => ?_) ?_ ?_
        rotate_left 2
        · cases ho
          refine ⟨rfl, rfl, fun W hW => ?_⟩
          have hcv := RdB.str (RdB.below Y1.out hW)
          go_simp; (try with_reducible rfl)
        · simp only [List.setIfInBounds_toArray, List.set_cons_succ, List.set_cons_zero]; exact rfl
        refine reg_take2 5 62 (v := ?_) (T' := ?_) (Later.refl _) (by kernel_rfl) (by kernel_rfl) (by kernel_rfl) (fun _ _ _ h => h) (fun o ho => ?_) ?_ ?_
        rotate_left 2
        · cases ho
          refine ⟨rfl, rfl, fun W hW => ?_⟩
          go_simp; (try with_reducible rfl)
        · simp only [List.setIfInBounds_toArray, List.set_cons_succ, List.set_cons_zero]; exact rfl
        refine reg_take2 6 63 (v := ?_) (T' := ?_) (Later.refl _) (by kernel_rfl) (by kernel_rfl) (by kernel_rfl) (fun _ _ _ h => h) (fun o ho => ?_) ?_ ?_
        rotate_left 2
        · cases ho
          refine ⟨rfl, rfl, fun W hW => ?_⟩
          go_simp; (try with_reducible rfl)
        · simp only [List.setIfInBounds_toArray, List.set_cons_succ, List.set_cons_zero]; exact rfl
        refine reg_call2 7 64 (Later.refl _) (by kernel_rfl) 15 #[] (fun o ho => by cases ho; exact ⟨rfl, rfl, fun W => by go_simp⟩) ?_
        refine (lives_any _).mono ?_
        rintro e x7 ⟨rfl, hb7⟩
        have G := Lib.hid (G.out.trans (hb7.mono G.out.size))
        refine ⟨.bool true, _, rfl, hb7, (by simp only [List.setIfInBounds_toArray, List.set_cons_succ, List.set_cons_zero]; exact rfl), ?_⟩
        clear hb7
        refine reg_take2 8 65 (v := ?_) (T' := ?_) (Later.refl _) (by kernel_rfl) (by kernel_rfl) (by kernel_rfl) (fun _ _ _ h => h) (fun o ho => ?_) ?_ ?_
        rotate_left 2
        · cases ho
          refine ⟨rfl, rfl, fun W hW => ?_⟩
          go_simp; (try with_reducible rfl)
        · simp only [List.setIfInBounds_toArray, List.set_cons_succ, List.set_cons_zero]; exact rfl
        refine reg_take2 9 2 (v := ?_) (T' := ?_) (Later.refl _) (by kernel_rfl) (by kernel_rfl) (by kernel_rfl) (fun _ _ _ h => h) (fun o ho => ?_) ?_ ?_
        rotate_left 2
        · cases ho
          refine ⟨rfl, rfl, fun W hW => ?_⟩
          go_simp; (try with_reducible rfl)
        · simp only [List.setIfInBounds_toArray, List.set_cons_succ, List.set_cons_zero]; exact rfl
        refine reg_done (by kernel_rfl) ?_
-- DONE B
        go_wp2_with fail
        go_ret
        exact ⟨rfl, G.out⟩

-- END
set_option maxRecDepth 100000 in
theorem lifted (os : Os) (started : os.Started) (H : Type) (enc : TypeId × Value → H) :
    ReturnsInHanded {} Try.checked os 8 .any (Rows.checkManySpec.pre6 enc Try.prog Try.f8 Rows.checkManyRow.domain false) (Rows.checkManySpec.post enc Try.prog Try.f8 false true false false) := by
  refine returnsInHanded_of_change (C := Try.checked) Try.own started (by kernel_rfl) Try.func8
    (ChangeSpec.witness6 (enc := enc) (C := Try.checked) false ⟨#[], #[.slice none 0 0], []⟩ 8 (by kernel_rfl) (by kernel_rfl) (by kernel_rfl) (by kernel_rfl)) ?_
  intro W base args ds gs before hval0 hW _ _
  have hval : ∀ (j : Nat) t v, Try.f8.params[j]? = some t → args[j]? = some v → Value.okWide Try.prog W .any base t v := hval0
  have hW' := hW
  obtain ⟨p, q, hA0, hV, rfl, _, _⟩ := hW
  have hA : DataW.TrodAll enc Try.prog W 0 (fun _ => true) true Try.f8.params.toList args.toList ds p := hA0
  rw [Try.params8] at hA hval
  obtain ⟨v0, d0, rfl, rfl, h0⟩ := trodAll_one hA
  obtain ⟨rfl, rfl⟩ := trodVars_none hV
  have hlt : ∀ x ∈ p, x.block < W.heap.size := fun x hx => by simpa using hW'.lt x (by simpa using hx)
  obtain ⟨a0, r0⟩ := open_bb (hval 0 _ v0 rfl rfl) h0 (fun x hx => by simpa using hlt x (by simp [hx]))
  refine (walk _ _ _ r0).mono fun e W' ⟨he, hb⟩ => ⟨_, he, ?_⟩
  exact law_post Try.laidOut (by decide +kernel) rfl Try.underlying4 rfl hW' rfl hb

theorem holds : Rows.CheckManySaid :=
  OpenClaim.holds_of_wide 8 Try.f8 rfl rfl rfl rfl rfl rfl rfl ⟨rfl, rfl, rfl, rfl, rfl⟩ rfl rfl rfl rfl rfl (by kernel_rfl) Try.func8 (by kernel_rfl)
    (of_decide_eq_true (by kernel_rfl)) (by unfold Func.isWrapper; first | (rw [if_pos (by decide +kernel)]; kernel_rfl) | (rw [if_neg (by decide +kernel)]; exact ⟨rfl, rfl⟩))
    (fun os started H enc _ => lifted os started H enc)
end Go.Proofs.Ytdpjohehmbddnaa.L06
