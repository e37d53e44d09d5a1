/- CheckTurned: for all bytes (the first 60, and one more), any place, any other byte, a frame of which one byte of its own is another one is refused. No conditions. -/
import Derived.Test.YtdpjohehmbddnaaCl
import Derived.Test.YtdpjohehmbddnaaCo
import Derived.ChangeMaps5
namespace Go.Proofs.Ytdpjohehmbddnaa.L05
open Go.RowKit Go.ChangeShapes Go.WideShapes Go.ChangeAt
set_option linter.unusedVariables false

set_option maxHeartbeats 4000000 in
set_option maxRecDepth 1000000 in
theorem walk (v0 : Value) (b0 : List UInt8) (at0 : Int) (by0 : Int) (w : World) (hb : RdB w w.heap.size v0 b0) (hat : -9223372036854775808 ≤ at0 ∧ at0 ≤ 9223372036854775807) (hby : 0 ≤ by0 ∧ by0 ≤ 255) :
    Calls Try.prog 7 #[v0, .int .i64 at0, .int .u8 by0] w fun e w' => e = .returned (.bool true) ∧ Below w.heap.size w w' := by
  have HB0 := Lib.hid hb
  have hl : (b0.take 60).length ≤ 60 := List.length_take_le _ _
  obtain ⟨y, rfl⟩ : ∃ y : UInt8, by0 = (y.toNat : Int) := ⟨UInt8.ofNat by0.toNat, by rw [UInt8.toNat_ofNat']; omega⟩
  have hat1 := hat.1
  have hat2 := hat.2
  clear hb hat hby
  go_enter Try.func7, Try.ntmps7
  go_wp2_with fail
  refine (few_any _ _ b0 60 60 rfl _ HB0.out (by omega)).mono ?_
  rintro e w1 ⟨vb, rfl, hrb, rfl⟩
  generalize b0.take 60 = p at *
  have RB := Lib.hid hrb
  obtain ⟨Ab, cb, rfl, -⟩ := hrb
  go_wp2_with (first
    | (at_builtin; refine wpl_app_bytes_b rfl (.tmp 12) (.tmp 14) rfl w.heap.size _ _ _ [] p rfl rfl (OwnB.nil _ _) RB.out (Nat.le_refl _) (by simp; omega) ?_; intro x1 w1 ho1 hb1)
    | (at_builtin; refine wpl_app_b rfl (.tmp 16) (.tmp 17) rfl w.heap.size _ ([] ++ p) [7] _ _ _ rfl rfl rfl rfl ho1 hb1.size (by simp; omega) ?_; intro x2 w2 ho2 hb2; have hq1 : 0 < ([] ++ p ++ [7]).length ∧ ([] ++ p ++ [7]).length ≤ 61 := by { simp; omega }; generalize [] ++ p ++ [7] = q at ho2 hq1; obtain ⟨hq1, hq2⟩ := hq1; obtain ⟨g2, c2, rfl, hg2, hg3⟩ := ho2.pos hq1))
  have O2 := Lib.hid ho2
  have G2 := Lib.hid (hb1.trans hb2)
  have hb2s := Lib.hid G2.out.size
  clear ho1 hb1 ho2 hb2
  refine (chk_frame _ [q] _ (bb_one w2 _ _ O2.out.rd) (by simp) (by simp; omega)).mono ?_
  rintro e w3 ⟨v3, rfl, ho3, hb3⟩
  rw [frms_one] at ho3
  have hb4 := (alloc_below w2 (.cells #[.slice (some ⟨g2, 0, none⟩) q.length c2] 22)).trans (hb3.mono (by simp))
  have O2 := Lib.hid (O2.out.on hb4)
  have G2 := Lib.hid (G2.out.trans (hb4.mono G2.out.size))
  have hfl := frm_length q
  obtain ⟨g3, c3, rfl, hg4, hg5⟩ := ho3.pos (by omega)
  have F3 := Lib.hid ho3
  have hg23 : g2 ≠ g3 := by simp at hg4; omega
  have HFL := Lib.hid hfl
  have hd8 : (((frm q).length : Int) != (q.length : Int) + 8) = false := by simp [bne, hfl]
  clear ho3 hb3 hb4 hfl
  have hone := fun j hj d hd => turned_bad q j d hj (by omega) hd
  have hsame := fun j hj => turned_same q j hj (by omega)
  have hat : ∀ j (hj : j < q.length), (frm q)[8 + j]? = some q[j] := fun j hj => by
    rw [List.getElem?_eq_getElem (by rw [frm_length]; omega), frm_at q j hj]
  generalize frm q = fq at *
  obtain ⟨m, hm, hm2⟩ : ∃ m : Nat, (m : Int) ≤ 9223372036854775807 ∧ (at0 = (m : Int) ∨ at0 = -((m : Int) + 1)) := by
    rcases Int.lt_or_le at0 0 with h | h
    · exact ⟨(-(at0 + 1)).toNat, by omega, .inr (by omega)⟩
    · exact ⟨at0.toNat, by omega, .inl (by omega)⟩
  have hml := Nat.mod_lt m hq1
  have hone1 := hone (m % q.length) hml y
  have hsame1 := hsame (m % q.length) hml
  have hat1 := hat (m % q.length) hml
  generalize q[m % q.length] = c at *
  obtain ⟨hk, hkc⟩ := List.getElem?_eq_some_iff.1 hat1
  have hcf := F3.out.cellAt (8 + m % q.length) hk
  rw [hkc] at hcf
  have hff := F3.out.frozenAt (8 + m % q.length)
  have F4 := Lib.hid (F3.out.stored (8 + m % q.length) (c ^^^ y) (bits .xor .u8 (c.toNat : Int) (y.toNat : Int)) (xor_u8 c y)).1
  have W4 := Lib.hid ((F3.out.stored (8 + m % q.length) (c ^^^ y) (bits .xor .u8 (c.toNat : Int) (y.toNat : Int)) (xor_u8 c y)).2)
  have O4 := Lib.hid (O2.out.keep W4.out (.inr (by simpa [Value.ownBlock] using hg23)))
  have G4 := Lib.hid (G2.out.setCell (p := ⟨g3, 8 + m % q.length, none⟩) (show w.heap.size ≤ g3 from by have := hb2s.out; simp at hg4; omega) (.int .u8 (bits .xor .u8 (c.toNat : Int) (y.toNat : Int))))
  have hl4 : (fq.set (8 + m % q.length) (c ^^^ y)).length = fq.length := List.length_set
  have HL4 := Lib.hid hl4
  have HONE := Lib.hid hone1
  have HSAME := Lib.hid hsame1
  have HK := Lib.hid hk
  have hi1 : (0 : Int) ≤ 8 + (m : Int) % (q.length : Int) := by omega
  have hi2 : 8 + (m : Int) % (q.length : Int) < (fq.length : Int) := by omega
  clear hone hsame hat hat1 hone1 hsame1 hk hkc hl4
  by_cases hy0 : y = 0
  · have hyt : ((y.toNat : Int) == 0) = true := by rw [hy0]; rfl
    have ON := Lib.hid (show one1 (fq.set (8 + m % q.length) (c ^^^ y)) = (q, 0) from by rw [hy0]; exact HSAME.out)
    clear hy0
    have hnn : -(-((m : Int) + 1) + 1) = (m : Int) := by omega
    rcases hm2 with rfl | rfl
    all_goals
      go_wp2_with fail
      refine (chk_one _ (fq.set (8 + m % q.length) (c ^^^ y)) _ F4.out.rd (by have := HL4.out; have := HFL.out; omega)).mono ?_
      rintro e w6 ⟨v6, rfl, ho6, hb6⟩
      rw [ON.out] at ho6 ⊢
      have hs1 := ho6.str
      have hs2 := (O4.out.on hb6).str
      have G6 := Lib.hid (G4.out.trans (hb6.mono G4.out.size))
      clear ho6 hb6 hcf hff
      go_wp2_with fail
      refine (lives_any _).mono ?_
      rintro e w7 ⟨rfl, hb7⟩
      go_wp2_with fail
      go_ret
      exact ⟨rfl, G6.out.trans (hb7.mono G6.out.size)⟩
  · have hyt : ((y.toNat : Int) == 0) = false := by
      have h1 : y.toNat ≠ 0 := fun e => hy0 (UInt8.toNat_inj.1 (by simpa using e))
      simp; omega
    have ON := Lib.hid (HONE.out hy0)
    clear hy0
    have hnn : -(-((m : Int) + 1) + 1) = (m : Int) := by omega
    rcases hm2 with rfl | rfl
    all_goals
      go_wp2_with fail
      refine (chk_one _ (fq.set (8 + m % q.length) (c ^^^ y)) _ F4.out.rd (by have := HL4.out; have := HFL.out; omega)).mono ?_
      rintro e w6 ⟨v6, rfl, ho6, hb6⟩
      rw [ON.out] at ho6 ⊢
      obtain ⟨A6, c6, rfl, -⟩ := ho6.rd
      have G6 := Lib.hid (G4.out.trans (hb6.mono G4.out.size))
      clear ho6 hb6 hcf hff
      simp only [List.length_nil]
      go_wp2_with fail
      refine (lives_any _).mono ?_
      rintro e w7 ⟨rfl, hb7⟩
      go_wp2_with fail
      go_ret
      exact ⟨rfl, G6.out.trans (hb7.mono G6.out.size)⟩

-- END
set_option maxRecDepth 100000 in
theorem lifted (os : Os) (started : os.Started) (H : Type) (enc : TypeId × Value → H) :
    ReturnsInHanded {} Try.checked os 7 .any (Rows.checkTurnedSpec.pre6 enc Try.prog Try.f7 Rows.checkTurnedRow.domain false) (Rows.checkTurnedSpec.post enc Try.prog Try.f7 false true false false) := by
  refine returnsInHanded_of_change (C := Try.checked) Try.own started (by kernel_rfl) Try.func7
    (ChangeSpec.witness6 (enc := enc) (C := Try.checked) false ⟨#[], #[.slice none 0 0, .int .i64 0, .int .u8 0], []⟩ 8 (by kernel_rfl) (by kernel_rfl) (by kernel_rfl) (by kernel_rfl)) ?_
  intro W base args ds gs before hval0 hW _ _
  have hval : ∀ (j : Nat) t v, Try.f7.params[j]? = some t → args[j]? = some v → Value.okWide Try.prog W .any base t v := hval0
  have hW' := hW
  obtain ⟨p, q, hA0, hV, rfl, _, _⟩ := hW
  have hA : DataW.TrodAll enc Try.prog W 0 (fun _ => true) true Try.f7.params.toList args.toList ds p := hA0
  rw [Try.params7] at hA hval
  obtain ⟨v0, v1, v2, d0, d1, d2, p0, p1, p2, rfl, rfl, rfl, h0, h1, h2⟩ := trodAll_three hA
  obtain ⟨rfl, rfl⟩ := trodVars_none hV
  have hlt := fun x hx => hW'.lt x hx
  obtain ⟨a0, r0⟩ := open_bytes (hval 0 _ v0 rfl rfl) h0 (fun x hx => by simpa using hlt x (by simp [hx]))
  obtain ⟨a1, rfl, rfl, rfl, w1⟩ := open_int Try.underlying3 (hval 1 _ v1 rfl rfl) h1
  have w1 := wf_int w1
  obtain ⟨a2, rfl, rfl, rfl, w2⟩ := open_int Try.underlying5 (hval 2 _ v2 rfl rfl) h2
  have w2 := wf_u8 w2
  refine (walk _ _ _ _ _ r0 w1 w2).mono fun e W' ⟨he, hb⟩ => ⟨_, he, ?_⟩
  exact law_post Try.laidOut (by decide +kernel) rfl Try.underlying4 rfl hW' rfl hb

theorem holds : Rows.CheckTurnedSaid :=
  OpenClaim.holds_of_wide 7 Try.f7 rfl rfl rfl rfl rfl rfl rfl ⟨rfl, rfl, rfl, rfl, rfl⟩ rfl rfl rfl rfl rfl (by kernel_rfl) Try.func7 (by kernel_rfl)
    (of_decide_eq_true (by kernel_rfl)) (by unfold Func.isWrapper; first | (rw [if_pos (by decide +kernel)]; kernel_rfl) | (rw [if_neg (by decide +kernel)]; exact ⟨rfl, rfl⟩))
    (fun os started H enc _ => lifted os started H enc)
end Go.Proofs.Ytdpjohehmbddnaa.L05
