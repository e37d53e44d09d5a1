/- CheckRound: for all lists of bytes (the first 6, the first 60 of each), any end (the last frame's, cut anywhere), frames are read as they were put, up to the one that ends too soon. No conditions. -/
import Derived.Test.YtdpjohehmbddnaaCl
import Derived.Test.YtdpjohehmbddnaaCo
import Derived.Test.YtdpjohehmbddnaaBopen
import Derived.Test.YtdpjohehmbddnaaBlo
import Derived.ChangeMaps5
namespace Go.Proofs.Ytdpjohehmbddnaa.L04
open Go.RowKit Go.ChangeShapes Go.WideShapes Go.ChangeAt
set_option linter.unusedVariables false

def cut (ls : List (List UInt8)) (k : Nat) : List (List UInt8) := (ls.take k).map (·.take 60)
theorem cut_snoc (ls : List (List UInt8)) (k : Nat) (h : k < ls.length) : cut ls (k + 1) = cut ls k ++ [ls[k].take 60] := by
  unfold cut; rw [List.take_succ_eq_append_getElem h, List.map_append]; rfl
theorem cut_len (ls : List (List UInt8)) (k : Nat) : (cut ls k).length ≤ k ∧ ∀ l ∈ cut ls k, l.length ≤ 60 := by
  unfold cut
  refine ⟨by simp; omega, fun l hl => ?_⟩
  obtain ⟨m, _, rfl⟩ := List.mem_map.1 hl
  exact List.length_take_le _ _

set_option maxHeartbeats 4000000 in
set_option maxRecDepth 1000000 in
theorem walk (v0 v1 : Value) (ls : List (List UInt8)) (b0 : List UInt8) (at0 : Int) (w : World) (hb : RdBB w w.heap.size v0 ls) (hlast : RdB w w.heap.size v1 b0) (hat : -9223372036854775808 ≤ at0 ∧ at0 ≤ 9223372036854775807) :
    Calls Try.prog 6 #[v0, v1, .int .i64 at0] w fun e w' => e = .returned (.bool true) ∧ Below w.heap.size w w' := by
  have H := Lib.hid hb
  have LA := Lib.hid hlast
  obtain ⟨A, c, rfl, -, -, -⟩ := hb.form
  have hat1 := hat.1
  have hat2 := hat.2
  have HAT := Lib.hid hat
  clear hb hlast hat hat1 hat2
  go_enter Try.func6, Try.ntmps6
  go_wp2_with fail
  go_loopw [7, 8] (fun x i wr => ∃ k : Nat, i = .int .i64 k ∧ k ≤ ls.length ∧ k ≤ 6 ∧ OwnLo wr w.heap.size x (cut ls k) ∧ Below w.heap.size w wr) (fun _ i _ => 6 - (intOf i).toNat)
  case atStart => exact ⟨0, rfl, by omega, by omega, OwnLo.nil _ _, Below.refl _ _⟩
  case round =>
    obtain ⟨k, rfl, hk, hk6, ho, hb⟩ := hrel
    have O := Lib.hid ho
    have G := Lib.hid hb
    clear ho hb
    have hcl := cut_len ls k
    have HL1 := Lib.hid hcl.1
    have HL2 := Lib.hid hcl.2
    clear hcl
    by_cases hlt2 : k < ls.length ∧ k < 6
    · obtain ⟨hlt, hlt6⟩ := hlt2
      obtain ⟨A', c', e1, -, -, hA⟩ := (H.out.below G.out).form
      obtain ⟨ba, oa, ua, rfl, hba, ca1, ra⟩ := hA k hlt
      cases e1
      have HS := Lib.hid (cut_snoc ls k hlt)
      have hR := Lib.hid ra
      clear hA
      generalize cut ls k = L at *
      generalize ls[k] = p0 at *
      have hd6 : decide ((k : Int) < 6) = true := by simp; omega
      go_wp2_with fail
      refine (few_any _ _ p0 60 60 rfl _ hR.out (by omega)).mono ?_
      rintro e w1 ⟨vb, rfl, hrb, rfl⟩
      generalize p0.take 60 = p at *
      have RB := Lib.hid hrb
      obtain ⟨Ab, cb, rfl, -⟩ := hrb
      go_wp2_with (at_builtin; refine wpl_app_lo rfl (.tmp 26) (.tmp 32) rfl w.heap.size _ _ L p _ 1 _ rfl rfl rfl rfl O.out RB.out G.out.size (by have := HL1.out; omega) ?_; intro x2 w2 ho2 hg2 hb2)
      go_roundw
      case rel => exact ⟨k + 1, by go_num, by omega, by omega, by rw [HS.out]; exact ho2, G.out.trans hb2⟩
      case measure => simp [intOf]; omega
    · obtain ⟨m, hm, hm2⟩ : ∃ m : Nat, (m : Int) ≤ 9223372036854775807 ∧ (at0 = (m : Int) ∨ at0 = -((m : Int) + 1)) := by
        have hat := HAT.out
        rcases Int.lt_or_le at0 0 with h | h
        · exact ⟨(-(at0 + 1)).toNat, by omega, .inr (by omega)⟩
        · exact ⟨at0.toNat, by omega, .inl (by omega)⟩
      have M2 := Lib.hid hm2
      clear hm2 HAT
      have HL3 := Lib.hid (show (cut ls k).length ≤ 6 from by have := HL1.out; omega)
      generalize cut ls k = L at *
      have hdk : ls.length ≤ k ∨ (k = 6 ∧ 6 < ls.length) := by
        rcases Nat.lt_or_ge k ls.length with h | h
        · exact .inr ⟨by omega, by omega⟩
        · exact .inl h
      clear hk hk6 hlt2 HL1
      have hfr := Lib.hid (chk_frame u7 L wr (O.out.rd G.out.size) (by have := HL3.out; omega) (fun l hl => by have := HL2.out l hl; omega))
      rcases hdk with hd | ⟨rfl, hlt⟩
      all_goals
        go_wp2_with fail
        refine hfr.out.mono ?_
        rintro e w3 ⟨v3, rfl, ho3, hb3⟩
        have O3 := Lib.hid (O.out.on hb3 G.out.size)
        have G3 := Lib.hid (G.out.trans (hb3.mono G.out.size))
        have V3 := Lib.hid ho3.rd
        obtain ⟨A3, c3, hv3, -⟩ := ho3.rd
        subst hv3
        clear ho3 hb3 hfr
        have hlf := frms_length (m := 60) HL2.out
        have HLF := Lib.hid (show (frms L).length ≤ 408 from by have := HL3.out; omega)
        clear hlf
        go_wp2_with fail
        refine (few_any _ _ b0 60 60 rfl _ (LA.out.below G3.out) (by omega)).mono ?_
        rintro e w4 ⟨v4, rfl, hr4, rfl⟩
        have hq60 : (b0.take 60).length ≤ 60 := List.length_take_le _ _
        generalize b0.take 60 = q at *
        have Q4 := Lib.hid hr4
        obtain ⟨A4, c4, rfl, -⟩ := hr4
        go_wp2_with fail
        refine (chk_frame _ [q] _ (bb_one w3 _ _ (Q4.out.more G3.out.size)) (by simp) (by simp; omega)).mono ?_
        rintro e w5 ⟨v5, rfl, ho5, hb5⟩
        rw [frms_one] at ho5
        have hb6 := (alloc_below w3 (.cells #[.slice A4 q.length c4] 22)).trans (hb5.mono (by simp))
        have O5 := Lib.hid (O3.out.on hb6 G3.out.size)
        have V5 := Lib.hid (V3.out.on hb6)
        have G5 := Lib.hid (G3.out.trans (hb6.mono G3.out.size))
        have F5 := Lib.hid ho5.rd
        clear ho5 hb5 hb6
        have hfl := frm_length q
        have HFL := Lib.hid hfl
        have hsh := fun c hc => frs_frms L ((frm q).take c) (fun l hl => by have := HL2.out l hl; omega) (fst1_short q c (by omega) hc)
        obtain ⟨A5, c5, hv5, -⟩ := F5.out
        subst hv5
        have hf0 : 0 < (frm q).length := by omega
        clear hfl
        generalize frm q = ff at *
        generalize hfrm : frms L = fl at *
        have hml := Nat.mod_lt m hf0
        have FRS := Lib.hid (hsh (m % ff.length) hml)
        obtain ⟨A6, c6, hs6, hr6⟩ := sl_head F5.out (m % ff.length) ((m : Int) % (ff.length : Int)) (by rfl) (by omega)
        have S6 := Lib.hid hr6
        have hnz : ((ff.length : Int) == 0) = false := beq_eq_false_iff_ne.2 (by omega)
        have hnn : -(-((m : Int) + 1) + 1) = (m : Int) := by omega
        have hz0 : (0 : Int) ≤ (m : Int) % (ff.length : Int) := Int.emod_nonneg _ (by omega)
        have hz1 : (m : Int) % (ff.length : Int) < (ff.length : Int) := by omega
        clear hsh hr6 hfrm
        have M3 := M2.out
        rcases M3 with rfl | rfl
        all_goals
          go_wp2_with (first
            | (at_builtin; refine wpl_app_bytes_b rfl (.tmp 50) (.tmp 51) rfl w5.heap.size _ _ _ [] fl rfl rfl (OwnB.nil _ _) V5.out (Nat.le_refl _) (by have := HLF.out; simp; omega) ?_; intro x7 w7 ho7 hb7)
            | (at_builtin; refine wpl_app_bytes_b rfl (.tmp 53) (.tmp 59) rfl w5.heap.size _ _ _ ([] ++ fl) (ff.take (m % ff.length)) rfl rfl ho7 (S6.out.on hb7) hb7.size (by have := HLF.out; have := HFL.out; simp; omega) ?_; intro x8 w8 ho8 hb8))
          rw [List.nil_append] at ho8
          have hl8 : (fl ++ ff.take (m % ff.length)).length ≤ 1000000 := by
            have h1 := HLF.out; have h2 := HFL.out
            have h3 := List.length_take_le (m % ff.length) ff
            rw [List.length_append]
            have h4 : (ff.take (m % ff.length)).length ≤ ff.length := by rw [List.length_take]; omega
            omega
          have hb8' := (hb7.trans hb8)
          have O8 := Lib.hid (O5.out.on hb8' G5.out.size)
          have G8 := Lib.hid (G5.out.trans (hb8'.mono G5.out.size))
          refine (chk_frames _ _ _ ho8.rd hl8).mono ?_
          rintro e w9 ⟨v9, rfl, ho9, hb9⟩
          rw [FRS.out] at ho9 ⊢
          have R9 := Lib.hid ho9.rd
          have O9 := Lib.hid ((O8.out.on hb9 G8.out.size).rd (Nat.le_trans G8.out.size hb9.size))
          have G9 := Lib.hid (G8.out.trans (hb9.mono G8.out.size))
          clear ho7 hb7 ho8 hb8 hb8' ho9 hb9 hl8
          go_wp2_with fail
          refine (ref_same _ _ L L _ R9.out O9.out).mono ?_
          rintro e w10 ⟨rfl, hb10⟩
          have G10 := Lib.hid (G9.out.trans (hb10.mono G9.out.size))
          have hxx : decide (L = L) = true := by simp
          rw [hxx]
          clear hb10
          go_wp2_with fail
          refine (lives_any _).mono ?_
          rintro e w11 ⟨rfl, hb11⟩
          go_wp2_with fail
          go_ret
          exact ⟨rfl, G10.out.trans (hb11.mono G10.out.size)⟩

-- END
set_option maxRecDepth 100000 in
theorem lifted (os : Os) (started : os.Started) (H : Type) (enc : TypeId × Value → H) :
    ReturnsInHanded {} Try.checked os 6 .any (Rows.checkRoundSpec.pre6 enc Try.prog Try.f6 Rows.checkRoundRow.domain false) (Rows.checkRoundSpec.post enc Try.prog Try.f6 false true false false) := by
  refine returnsInHanded_of_change (C := Try.checked) Try.own started (by kernel_rfl) Try.func6
    (ChangeSpec.witness6 (enc := enc) (C := Try.checked) false ⟨#[], #[.slice none 0 0, .slice none 0 0, .int .i64 0], []⟩ 8 (by kernel_rfl) (by kernel_rfl) (by kernel_rfl) (by kernel_rfl)) ?_
  intro W base args ds gs before hval0 hW _ _
  have hval : ∀ (j : Nat) t v, Try.f6.params[j]? = some t → args[j]? = some v → Value.okWide Try.prog W .any base t v := hval0
  have hW' := hW
  obtain ⟨p, q, hA0, hV, rfl, _, _⟩ := hW
  have hA : DataW.TrodAll enc Try.prog W 0 (fun _ => true) true Try.f6.params.toList args.toList ds p := hA0
  rw [Try.params6] at hA hval
  obtain ⟨v0, v1, v2, d0, d1, d2, p0, p1, p2, rfl, rfl, rfl, h0, h1, h2⟩ := trodAll_three hA
  obtain ⟨rfl, rfl⟩ := trodVars_none hV
  have hlt := fun x hx => hW'.lt x hx
  obtain ⟨a0, r0⟩ := open_bb (hval 0 _ v0 rfl rfl) h0 (fun x hx => by simpa using hlt x (by simp [hx]))
  obtain ⟨a1, r1⟩ := open_bytes (hval 1 _ v1 rfl rfl) h1 (fun x hx => by simpa using hlt x (by simp [hx]))
  obtain ⟨a2, rfl, rfl, rfl, w2⟩ := open_int Try.underlying3 (hval 2 _ v2 rfl rfl) h2
  have w2 := wf_int w2
  refine (walk _ _ _ _ _ _ r0 r1 w2).mono fun e W' ⟨he, hb⟩ => ⟨_, he, ?_⟩
  exact law_post Try.laidOut (by decide +kernel) rfl Try.underlying4 rfl hW' rfl hb

theorem holds : Rows.CheckRoundSaid :=
  OpenClaim.holds_of_wide 6 Try.f6 rfl rfl rfl rfl rfl rfl rfl ⟨rfl, rfl, rfl, rfl, rfl⟩ rfl rfl rfl rfl rfl (by kernel_rfl) Try.func6 (by kernel_rfl)
    (of_decide_eq_true (by kernel_rfl)) (by unfold Func.isWrapper; first | (rw [if_pos (by decide +kernel)]; kernel_rfl) | (rw [if_neg (by decide +kernel)]; exact ⟨rfl, rfl⟩))
    (fun os started H enc _ => lifted os started H enc)
end Go.Proofs.Ytdpjohehmbddnaa.L04
