/- ChainParts: the rows of all keys, one key after the other, are all rows; two ranges that touch are one: any versions (the first 40, few bytes), any key. -/
import Derived.Test.YtigdkflknhdbgaaDo
import Derived.Test.YtigdkflknhdbgaaCo
import Derived.Test.YtigdkflknhdbgaaCh
import Derived.BigQuiet
namespace Go.Proofs.Ytigdkflknhdbgaa.L05
open Go.RowKit Go.ChangeShapes Go.WideShapes Go.ChangeAt
set_option linter.unusedVariables false

set_option maxHeartbeats 8000000 in
set_option maxRecDepth 100000 in
theorem walk0 {Ch : Nat → World → (Nat → Prop) → Value → List Ver → Int → Prop} (K : ChF Ch) (LV : LivesC) (v : Value) (l : List PutC) (key : ByteArray) (w : World) (h : RdX putL w w.heap.size v l) (hok : ∀ x ∈ l, inK x.lv) :
    Calls Try.prog 7 #[v, .string key] w fun z w' => z = .returned (.bool true) ∧ Below w.heap.size w w' := by
  have FI := Lib.hid (law13_filled K v l w h hok)
  have K := Lib.hid K
  have LV := Lib.hid LV
  obtain ⟨A, ca, rfl, -⟩ := id h
  clear h hok
  go_enter Try.func7, Try.ntmps7
  go_wp2_with fail
  refine FI.out.mono ?_
  rintro z w1 ⟨g, S, vr, r, ht, rfl, hc, hsb, ho, hns, hgood, hrl, hb1⟩
  have C := Lib.hid hc
  have HSB := Lib.hid hsb
  have O := Lib.hid ho
  have HNS := Lib.hid hns
  have GOOD := Lib.hid hgood
  have H40 := Lib.hid hrl
  have HR := Lib.hid (show r.length ≤ 1000 from by omega)
  have HR2 := Lib.hid (show r.length ≤ 20000 from by omega)
  have G := Lib.hid hb1
  obtain ⟨Ar, cr, ev, -⟩ := ho.rd
  subst ev
  clear hc hsb ho hns hgood hrl hb1 FI
  have KA := Lib.hid (keys_all GOOD.out)
  have RH := Lib.hid (range_halves GOOD.out key)
  have KL := Lib.hid (show (keysV r).length ≤ 1000 from Nat.le_trans (keysV_len r) HR.out)
  have FL := Lib.hid (fun (k : ByteArray) => show (r.filter fun v => decide (v.key = k)).length ≤ 40 from Nat.le_trans (List.length_filter_le _ _) H40.out)
  have OF := Lib.hid (fun w k (h : Ch 40 w S (.pointer (some ⟨g, 0, none⟩)) r ht) => K.out.of w S _ r ht k h HR.out)
  have RA := Lib.hid (fun w a b (h : Ch 40 w S (.pointer (some ⟨g, 0, none⟩)) r ht) => K.out.range w S _ r ht a b h HR.out)
  have RL := Lib.hid (fun (a b : ByteArray) => show (r.filter fun v => !Op.bytesLess v.key.toList a.toList && Op.bytesLess v.key.toList b.toList).length ≤ 40 from Nat.le_trans (List.length_filter_le _ _) H40.out)
  obtain ⟨Q, hQ⟩ : ∃ Q : ByteArray → List Ver, (fun k => r.filter fun v => decide (v.key = k)) = Q := ⟨_, rfl⟩
  have HQ := Lib.hid (show ∀ k, (r.filter fun v => decide (v.key = k)) = Q k from fun k => by rw [← hQ])
  rw [hQ] at KA
  clear hQ
  go_wp2_with fail
  refine (K.out.keys _ _ _ _ _ C.out HR.out).mono ?_
  rintro z w2 ⟨v2, rfl, ho2, hb⟩
  have KS := Lib.hid ho2.rd
  have C := Lib.hid (K.out.on C.out hb)
  have O := Lib.hid (O.out.on hb)
  have G := Lib.hid (G.out.trans (hb.mono G.out.size))
  obtain ⟨A2, c2, ev, -⟩ := ho2.rd
  subst ev
  generalize keysV r = ks at *
  clear ho2 hb
  have FLT := Lib.hid (show ∀ k, ((ks.take k).flatMap Q).length ≤ 40 * k from fun k => by
    induction k with
    | zero => simp
    | succ k ih =>
      rcases Nat.lt_or_ge k ks.length with hk | hk
      · rw [List.take_succ_eq_append_getElem hk, List.flatMap_append, List.length_append, List.flatMap_cons, List.flatMap_nil, List.append_nil]
        have h1 := FL.out ks[k]
        rw [HQ.out] at h1
        omega
      · rw [List.take_of_length_le (by omega)]
        rw [List.take_of_length_le hk] at ih
        omega)
  go_wp2_with fail
  go_loopw [8, 10] (fun x i wr => ∃ k : Nat, i = .int .i64 k ∧ k ≤ ks.length ∧ OwnVr wr w2.heap.size x ((ks.take k).flatMap Q) ∧ Below w2.heap.size w2 wr) (fun _ i _ => ks.length - (intOf i).toNat)
  case atStart => exact ⟨0, rfl, Nat.zero_le _, OwnX.nil _ _, Below.refl _ _⟩
  case round =>
    obtain ⟨k, rfl, hk, ho, hbw⟩ := hrel
    rename World => wo
    have B := Lib.hid hbw
    have P := Lib.hid ho
    clear hbw
    by_cases hlt : k < ks.length
    · have zl : decide ((k : Int) < (ks.length : Int)) = true := by simp; omega
      have hki : (k : Int) < (ks.length : Int) := by omega
      have hw64 : IntKind.i64.wrap ((k : Int) + 1) = (k : Int) + 1 := by rw [IntKind.wrap_i64]; have := KL.out; omega
      obtain ⟨s, hs⟩ : ∃ s, ks[k] = s := ⟨_, rfl⟩
      have HTS := Lib.hid (show (ks.take (k + 1)).flatMap Q = (ks.take k).flatMap Q ++ Q s from by
        rw [List.take_succ_eq_append_getElem hlt, List.flatMap_append, List.flatMap_cons, List.flatMap_nil, List.append_nil, hs])
      have FK := Lib.hid (FLT.out k)
      obtain ⟨b, o, rfl, -, c0⟩ := RdX.strE (KS.out.below B.out) k hlt hs
      have OFS := Lib.hid (OF.out wo s (K.out.on C.out B.out))
      rw [HQ.out] at OFS
      have FQ := Lib.hid (FL.out s)
      rw [HQ.out] at FQ
      have HK := Lib.hid hlt
      generalize (ks.take k).flatMap Q = acc at *
      obtain ⟨A3, c3, ev, -⟩ := ho.rd
      subst ev
      generalize Q s = qs at *
      clear hs ho
      go_wp2_with (first
        | (go_at_call 11; refine OFS.out.mono ?_; rintro z w5 ⟨v5, rfl, ho5, hb5⟩; have R5 := Lib.hid ho5.rd; have P5 := Lib.hid (P.out.on hb5); have B5 := Lib.hid (B.out.trans (hb5.mono B.out.size)); clear ho5 hb5)
        | (at_builtin; refine wpl_appX_rd (L := verL) rfl (.tmp 28) (.tmp 34) rfl Try.underlying24 ver_info rfl w2.heap.size _ _ _ acc qs rfl rfl P5.out R5.out B5.out.size (by have := FK.out; have := FQ.out; have := KL.out; omega) (by decide) ?_; intro v6 w6 ho6 hg6 hb6))
      go_roundw
      case rel => exact ⟨k + 1, by go_num, by have := HK.out; omega, by rw [HTS.out]; exact ho6, B5.out.trans hb6⟩
      case measure => simp [intOf]; have := HK.out; omega
    · have hkl : k = ks.length := by omega
      subst hkl
      have zl : decide ((ks.length : Int) < (ks.length : Int)) = false := by simp
      rw [List.take_length, KA.out] at P ho
      have C := Lib.hid (K.out.on C.out B.out)
      have O := Lib.hid (O.out.on B.out)
      have G := Lib.hid (G.out.trans (B.out.mono G.out.size))
      have NIL := Lib.hid (OwnX.nil (L := verL) (e := 47) wo wo.heap.size)
      have RA1 := Lib.hid (RA.out wo ⟨#[]⟩ key C.out)
      have RL1 := Lib.hid (RL.out ⟨#[]⟩ key)
      have RA2 := Lib.hid (fun w h => RA.out w key ⟨#[255]⟩ h)
      have RL2 := Lib.hid (RL.out key ⟨#[255]⟩)
      generalize (r.filter fun v => !Op.bytesLess v.key.toList (⟨#[]⟩ : ByteArray).toList && Op.bytesLess v.key.toList key.toList) = r1 at *
      generalize (r.filter fun v => !Op.bytesLess v.key.toList key.toList && Op.bytesLess v.key.toList (⟨#[255]⟩ : ByteArray).toList) = r2 at *
      obtain ⟨A3, c3, ev, -⟩ := ho.rd
      subst ev
      clear hlt ho
      go_wp2_with fail
      refine RA1.out.mono ?_
      rintro z w5 ⟨v5, rfl, ho5, hb5⟩
      have R5 := Lib.hid ho5.rd
      have P := Lib.hid (P.out.on hb5)
      have C := Lib.hid (K.out.on C.out hb5)
      have O := Lib.hid (O.out.on hb5)
      have G := Lib.hid (G.out.trans (hb5.mono G.out.size))
      have G5 := Lib.hid G.out
      have PR := Lib.hid P.out.rd
      have OR := Lib.hid O.out.rd
      have N5 := Lib.hid (OwnX.nil (L := verL) (e := 47) w5 w5.heap.size)
      obtain ⟨A5, c5, ev, -⟩ := ho5.rd
      subst ev
      clear ho5 hb5 RA1 NIL
      go_wp2_with (at_builtin; refine wpl_appX_rd (L := verL) rfl (.tmp 36) (.tmp 39) rfl Try.underlying24 ver_info rfl w5.heap.size _ _ _ [] r1 rfl rfl N5.out R5.out (Nat.le_refl _) (by have := RL1.out; simp only [List.length_nil]; omega) (by decide) ?_; intro v6 w6 ho6 hg6 hb6)
      have P := Lib.hid (P.out.on (hb6.mono (Nat.le_refl _)))
      have C := Lib.hid (K.out.on C.out hb6)
      have O := Lib.hid (O.out.on hb6)
      have G := Lib.hid (G.out.trans (hb6.mono G.out.size))
      rw [List.nil_append] at ho6
      have N6 := Lib.hid ho6
      obtain ⟨A6, c6, ev, -⟩ := ho6.rd
      subst ev
      have N6S := Lib.hid hb6.size
      have B6 := Lib.hid hb6
      clear ho6 hg6 hb6 R5 N5
      refine (RA2.out _ C.out).mono ?_
      rintro z w7 ⟨v7, rfl, ho7, hb7⟩
      have R7 := Lib.hid ho7.rd
      have N7 := Lib.hid (N6.out.on hb7)
      have P := Lib.hid (P.out.on hb7)
      have O := Lib.hid (O.out.on hb7)
      have C := Lib.hid (K.out.on C.out hb7)
      have G := Lib.hid (G.out.trans (hb7.mono G.out.size))
      have S57 := Lib.hid (Nat.le_trans N6S.out hb7.size)
      have B7 := Lib.hid (B6.out.trans (hb7.mono N6S.out))
      obtain ⟨A7, c7, ev, -⟩ := ho7.rd
      subst ev
      clear ho7 hb7 RA2 N6
      go_wp2_with (at_builtin; refine wpl_appX_rd (L := verL) rfl (.tmp 41) (.tmp 44) rfl Try.underlying24 ver_info rfl w5.heap.size _ _ _ r1 r2 rfl rfl N7.out R7.out S57.out (by have := RL1.out; have := RL2.out; omega) (by decide) ?_; intro v8 w8 ho8 hg8 hb8)
      obtain ⟨q8, hq8⟩ : ∃ q8, r1 ++ r2 = q8 := ⟨_, rfl⟩
      rw [hq8] at ho8
      have HQ8 := Lib.hid (show q8 = r from by rw [← hq8]; exact RH.out)
      clear hq8
      have B8 := Lib.hid (B7.out.trans hb8)
      have N8 := Lib.hid ho8.rd
      have PR := Lib.hid ((PR.out.below B8.out).more B8.out.size)
      have OR := Lib.hid ((OR.out.below B8.out).more B8.out.size)
      have G := Lib.hid (G5.out.trans (B8.out.mono G5.out.size))
      obtain ⟨A8, c8, ev, -⟩ := ho8.rd
      subst ev
      clear ho8 hg8 hb8 N7 R7
      refine (ref6_same _ _ _ _ _ PR.out OR.out).mono ?_
      rintro z wq ⟨bq, rfl, hq, hb⟩
      obtain rfl : bq = true := hq.2 rfl
      have OR := Lib.hid (OR.out.on hb)
      have N8 := Lib.hid (N8.out.on hb)
      have G := Lib.hid (G.out.trans (hb.mono G.out.size))
      clear hb hq PR
      go_wp2_with fail
      refine (ref6_same _ _ _ _ _ N8.out OR.out).mono ?_
      rintro z wq2 ⟨bq, rfl, hq, hb⟩
      obtain rfl : bq = true := hq.2 HQ8.out
      have G := Lib.hid (G.out.trans (hb.mono G.out.size))
      clear hb hq
      go_wp2_with fail
      refine (LV.out _).mono ?_
      rintro z w9 ⟨rfl, hb⟩
      have G := Lib.hid (G.out.trans (hb.mono G.out.size))
      clear hb
      go_wp2_with fail
      go_ret
      exact ⟨rfl, G.out⟩
-- END
set_option maxRecDepth 100000 in
theorem lifted (os : Os) (started : os.Started) (H : Type) (enc : TypeId × Value → H) :
    ReturnsInHanded {} Try.checked os 7 .any (Rows.chainPartsSpec.pre6 enc Try.prog Try.f7 Rows.chainPartsRow.domain false) (Rows.chainPartsSpec.post enc Try.prog Try.f7 false true false false) := by
  refine returnsInHanded_of_change (C := Try.checked) Try.own started (by kernel_rfl) Try.func7
    (ChangeSpec.witness6 (enc := enc) (C := Try.checked) false ⟨#[], #[.slice none 0 0, .string ⟨#[]⟩], []⟩ 8 (by kernel_rfl) (by kernel_rfl) (by kernel_rfl) (by kernel_rfl)) ?_
  intro W base args ds gs before hval0 hW _ _
  have hval : ∀ (j : Nat) t v, Try.f7.params[j]? = some t → args[j]? = some v → Value.okWide Try.prog W .any base t v := hval0
  have hW' := hW
  obtain ⟨p, q, hA0, hV, rfl, _, _⟩ := hW
  have hA : DataW.TrodAll enc Try.prog W 0 (fun _ => true) true Try.f7.params.toList args.toList ds p := hA0
  rw [Try.params7] at hA hval
  obtain ⟨v0, v1, d0, d1, p0, p1, rfl, rfl, rfl, h0, h1⟩ := trodAll_two hA
  obtain ⟨rfl, rfl⟩ := trodVars_none hV
  have hlt := fun x hx => hW'.lt x hx
  obtain ⟨a0, r0, b0⟩ := open_puts (hval 0 _ v0 rfl rfl) h0 (fun x hx => by simpa using hlt x (by simp [hx]))
  obtain ⟨a1, rfl, rfl, rfl, w1⟩ := ChangeMaps.open_string Try.underlying9 (hval 1 _ v1 rfl rfl) h1
  simp only [maxLen] at w1
  refine (walk0 ch_k lives_c v0 a0 a1 _ r0 b0).mono fun e W' ⟨he, hb⟩ => ⟨_, he, ?_⟩
  exact law_post Try.laidOut (by decide +kernel) rfl Try.underlying4 rfl hW' rfl hb

theorem holds : Rows.ChainPartsSaid :=
  OpenClaim.holds_of_wide 7 Try.f7 rfl rfl rfl rfl rfl rfl rfl ⟨rfl, rfl, rfl, rfl, rfl⟩ rfl rfl rfl rfl rfl (by kernel_rfl) Try.func7 (by kernel_rfl)
    (of_decide_eq_true (by kernel_rfl)) (by unfold Func.isWrapper; first | (rw [if_pos (by decide +kernel)]; kernel_rfl) | (rw [if_neg (by decide +kernel)]; exact ⟨rfl, rfl⟩))
    (fun os started H enc _ => lifted os started H enc)
end Go.Proofs.Ytigdkflknhdbgaa.L05
