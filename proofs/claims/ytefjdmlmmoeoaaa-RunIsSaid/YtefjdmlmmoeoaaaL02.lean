/- RunIs: versions that are no run are not built, and those that are one are: any versions (the first 20, few bytes). No conditions. -/
import Derived.Test.YtefjdmlmmoeoaaaUm
import Derived.Test.YtefjdmlmmoeoaaaTd
import Derived.Test.YtefjdmlmmoeoaaaUd
import Derived.Test.YtefjdmlmmoeoaaaWr
import Derived.Test.YtefjdmlmmoeoaaaWb
import Derived.Test.YtefjdmlmmoeoaaaRR
import Derived.ChangeMaps5
namespace Go.Proofs.Ytefjdmlmmoeoaaa.L02
open Go.RowKit Go.ChangeShapes Go.WideShapes Go.ChangeAt
set_option linter.unusedVariables false

set_option maxHeartbeats 8000000 in
set_option maxRecDepth 100000 in
theorem walk (v : Value) (l : List Ver) (w : World) (h : RdVr w w.heap.size v l) :
    Calls Try.prog 4 #[v] w fun e w' => e = .returned (.bool true) ∧ Below w.heap.size w w' := by
  have R := Lib.hid h
  obtain ⟨A, ca, rfl, hla, hca, -⟩ := h
  have T1 := Lib.hid ref6_cut
  go_enter Try.func4, Try.ntmps4
  go_wp2_with fail
  go_loopw [3, 4] (fun x i wr => ∃ k : Nat, i = .int .i64 k ∧ k ≤ l.length ∧ k ≤ 20 ∧ OwnVr wr w.heap.size x (cuts (l.take k)) ∧ Below w.heap.size w wr) (fun _ i _ => 20 - (intOf i).toNat)
  case atStart => exact ⟨0, rfl, Nat.zero_le _, by omega, OwnX.nil _ _, Below.refl _ _⟩
  case round =>
    obtain ⟨k, rfl, hk, hkN, ho, hb⟩ := hrel
    have O := Lib.hid ho
    have G := Lib.hid hb
    clear ho hb
    by_cases hlt : k < l.length ∧ k < 20
    · obtain ⟨hlt, hltN⟩ := hlt
      have z1 : decide ((k : Int) < (l.length : Int)) = true := by simp; omega
      have z2 : decide ((k : Int) < 20) = true := by simp; omega
      obtain ⟨ba, oa, rfl, hba, c0, c1, c2, c3, c4, c5, c6, c7⟩ := RdVr.here (R.out.below G.out) k hlt
      have FS := Lib.hid (cuts_snoc l k hlt)
      have TK := Lib.hid (T1.out l[k])
      have hlen := cuts_len l k
      generalize cutV l[k] = cv at *
      generalize l[k] = p at *
      generalize cuts (l.take k) = acc at *
      have hal1 := Lib.hid (show acc.length + 1 ≤ 1000000000 from by omega)
      clear hlen
      obtain ⟨k0, b0, e0, s0, ⟨x0, y0⟩, u0, g0⟩ := p
      obtain ⟨kk, b, e, s, ⟨x, y⟩, u, g⟩ := cv
      unfold verV at TK
      simp only at TK c0 c1 c2 c3 c4 c5 c6 c7
      go_wp2_with fail
      refine (TK.out _).mono ?_
      rintro z w1 ⟨rfl, hb⟩
      have hgz := G.out.size
      have O := Lib.hid (O.out.on hb)
      have G := Lib.hid (G.out.trans (hb.mono hgz))
      clear hb hgz c0 c1 c2 c3 c4 c5 c6 c7
      have hsz := Lib.hid G.out.size
      go_wp2_with (at_builtin; refine wpl_appX rfl (.tmp 18) (.tmp 24) rfl Try.underlying22 ver_info rfl w.heap.size _ acc [(⟨kk, b, e, s, (x, y), u, g⟩ : Ver)] _ _ _ rfl rfl rfl rfl O.out hsz.out hal1.out (by decide) ?_; intro v5 w5 ho5 hg5 hb5)
      have OZ := Lib.hid (show OwnVr w5 w.heap.size v5 (cuts (l.take (k + 1))) from by rw [FS.out]; exact ho5)
      have GZ := Lib.hid (G.out.trans hb5)
      clear ho5 hg5 hb5
      go_roundw
      case rel => exact ⟨k + 1, by go_num, by omega, by omega, OZ.out, GZ.out⟩
      case measure => simp [intOf]; omega
    · have hke : l.take k = l.take 20 := by
        by_cases h6 : k < 20
        · have hkl : k = l.length := by
            rcases Nat.lt_or_ge k l.length with h | h
            · exact absurd ⟨h, h6⟩ hlt
            · omega
          rw [List.take_of_length_le (by omega), List.take_of_length_le (by omega)]
        · rw [show k = 20 from by omega]
      have hz : (k < l.length ∧ k = 20) ∨ k = l.length := by
        rcases Nat.lt_or_ge k l.length with h | h
        · left; exact ⟨h, by rcases Nat.lt_or_ge k 20 with h2 | h2; exact absurd ⟨h, h2⟩ hlt; omega⟩
        · right; omega
      rw [hke] at O
      have HK := Lib.hid (cuts_key (l.take 20))
      have hlen := cuts_len l 20
      clear hke hlt
      generalize cuts (l.take 20) = L at *
      obtain ⟨A1, c1, e1, -⟩ := O.out.rd
      subst e1
      rcases hz with ⟨z0, hk0⟩ | hk0
      case' inl =>
        subst hk0
        have z1 : decide ((20 : Int) < (l.length : Int)) = true := by rw [decide_eq_true_iff]; omega
        clear hk hkN z0
      case' inr =>
        subst hk0
        clear hk hkN
      all_goals
        have hl20 : L.length ≤ 20000 := by omega
        have DM := Lib.hid (fun va w ha => ref9_is va L w ha (fun v hv => Nat.le_trans (HK.out v hv) (by omega)))
        have WR := Lib.hid (fun va w ha => run_build va L w ha hl20 (fun v hv => Nat.le_trans (HK.out v hv) (by omega)))
        have HLE := Lib.hid (show okTo L L.length = true → 0 < (encRun L).length from fun _ => by
          unfold encRun
          rw [List.length_append, List.length_append, frm_length, frm_length]
          omega)
        generalize encRun L = eb at *
        generalize okTo L L.length = mb at *
        go_wp2_with fail
        refine (DM.out _ _ O.out.rd).mono ?_
        rintro z w1 ⟨rfl, hb⟩
        have O := Lib.hid (O.out.on hb)
        have G := Lib.hid (G.out.trans (hb.mono G.out.size))
        clear hb
        go_wp2_with fail
        refine (WR.out _ _ O.out.rd).mono ?_
        rintro z w2 ⟨v2, rfl, ho2, hb⟩
        have G := Lib.hid (G.out.trans (hb.mono G.out.size))
        cases mb
        all_goals
          simp only [if_true, Bool.false_eq_true, if_false] at ho2
          obtain ⟨A2, c2, e2, -⟩ := own_cap ho2
          subst e2
          go_wp2_with fail
          refine (lives_any9 _).mono ?_
          rintro z w8 ⟨rfl, hb⟩
          have G := Lib.hid (G.out.trans (hb.mono G.out.size))
          clear hb
          go_wp2_with fail
          go_ret
          exact ⟨rfl, G.out⟩
-- END
set_option maxRecDepth 100000 in
theorem lifted (os : Os) (started : os.Started) (H : Type) (enc : TypeId × Value → H) :
    ReturnsInHanded {} Try.checked os 4 .any (Rows.runIsSpec.pre6 enc Try.prog Try.f4 Rows.runIsRow.domain false) (Rows.runIsSpec.post enc Try.prog Try.f4 false true false false) := by
  refine returnsInHanded_of_change (C := Try.checked) Try.own started (by kernel_rfl) Try.func4
    (ChangeSpec.witness6 (enc := enc) (C := Try.checked) false ⟨#[], #[.slice none 0 0], []⟩ 8 (by kernel_rfl) (by kernel_rfl) (by kernel_rfl) (by kernel_rfl)) ?_
  intro W base args ds gs before hval0 hW _ _
  have hval : ∀ (j : Nat) t v, Try.f4.params[j]? = some t → args[j]? = some v → Value.okWide Try.prog W .any base t v := hval0
  have hW' := hW
  obtain ⟨p, q, hA0, hV, rfl, _, _⟩ := hW
  have hA : DataW.TrodAll enc Try.prog W 0 (fun _ => true) true Try.f4.params.toList args.toList ds p := hA0
  rw [Try.params4] at hA hval
  obtain ⟨v0, d0, rfl, rfl, h0⟩ := trodAll_one hA
  obtain ⟨rfl, rfl⟩ := trodVars_none hV
  have hlt : ∀ x ∈ p, x.block < W.heap.size := fun x hx => by simpa using hW'.lt x (by simpa using hx)
  obtain ⟨a0, r0, b0⟩ := open_vers (hval 0 _ v0 rfl rfl) h0 (fun x hx => by simpa using hlt x (by simp [hx]))
  refine (walk v0 a0 _ r0).mono fun e W' ⟨he, hb⟩ => ⟨_, he, ?_⟩
  exact law_post Try.laidOut (by decide +kernel) rfl Try.underlying4 rfl hW' rfl hb

theorem holds : Rows.RunIsSaid :=
  OpenClaim.holds_of_wide 4 Try.f4 rfl rfl rfl rfl rfl rfl rfl ⟨rfl, rfl, rfl, rfl, rfl⟩ rfl rfl rfl rfl rfl (by kernel_rfl) Try.func4 (by kernel_rfl)
    (of_decide_eq_true (by kernel_rfl)) (by unfold Func.isWrapper; first | (rw [if_pos (by decide +kernel)]; kernel_rfl) | (rw [if_neg (by decide +kernel)]; exact ⟨rfl, rfl⟩))
    (fun os started H enc _ => lifted os started H enc)
end Go.Proofs.Ytefjdmlmmoeoaaa.L02
