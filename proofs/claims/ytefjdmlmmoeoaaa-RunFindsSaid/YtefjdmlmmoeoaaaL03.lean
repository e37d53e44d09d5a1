/- RunFinds: Of, Range and Last tell just what the document's do: any versions (the first 40 that may be, in order, unlike one another), any key, branch, epoch and end. No conditions. -/
import Derived.Test.YtefjdmlmmoeoaaaTd
import Derived.Test.YtefjdmlmmoeoaaaWr
import Derived.Test.YtefjdmlmmoeoaaaWl
import Derived.Test.YtefjdmlmmoeoaaaWt
import Derived.Test.YtefjdmlmmoeoaaaRR
import Derived.ChangeMaps5
namespace Go.Proofs.Ytefjdmlmmoeoaaa.L03
open Go.RowKit Go.ChangeShapes Go.WideShapes Go.ChangeAt
set_option linter.unusedVariables false

section
open Go.ChangeShapes
variable {H : Type} {enc : TypeId × Value → H} {P : Program} {w : World} {base : Nat} {spare : Nat → Bool} {held : Bool}
theorem trodAll_five {t0 t1 t2 t3 t4 : TypeId} {args : Array Value} {ds : List (DataW H)} {ps : List MemPlace} (h : DataW.TrodAll enc P w base spare held [t0, t1, t2, t3, t4] args.toList ds ps) :
    ∃ v0 v1 v2 v3 v4 d0 d1 d2 d3 d4 p0 p1 p2 p3 p4, args = #[v0, v1, v2, v3, v4] ∧ ds = [d0, d1, d2, d3, d4] ∧ ps = p0 ++ p1 ++ p2 ++ p3 ++ p4 ∧ DataW.Trod enc P w base spare held t0 v0 d0 p0 ∧ DataW.Trod enc P w base spare held t1 v1 d1 p1 ∧ DataW.Trod enc P w base spare held t2 v2 d2 p2 ∧ DataW.Trod enc P w base spare held t3 v3 d3 p3 ∧ DataW.Trod enc P w base spare held t4 v4 d4 p4 := by
  obtain ⟨v0, r0, d0, s0, p0, q0, hargs, rfl, rfl, h0, k0⟩ := trodAll_cons h
  obtain ⟨v1, r1, d1, s1, p1, q1, rfl, rfl, rfl, h1, k1⟩ := trodAll_cons k0
  obtain ⟨v2, r2, d2, s2, p2, q2, rfl, rfl, rfl, h2, k2⟩ := trodAll_cons k1
  obtain ⟨v3, r3, d3, s3, p3, q3, rfl, rfl, rfl, h3, k3⟩ := trodAll_cons k2
  obtain ⟨v4, r4, d4, s4, p4, q4, rfl, rfl, rfl, h4, k4⟩ := trodAll_cons k3
  obtain ⟨rfl, rfl, rfl⟩ := trodAll_nil k4
  exact ⟨v0, v1, v2, v3, v4, d0, d1, d2, d3, d4, p0, p1, p2, p3, p4, by cases args; simp_all, rfl, by simp, h0, h1, h2, h3, h4⟩
end

set_option maxHeartbeats 8000000 in
set_option maxRecDepth 100000 in
theorem walk (v : Value) (l : List Ver) (a1 : ByteArray) (a2 a3 : Int) (a4 : ByteArray) (w : World) (h : RdVr w w.heap.size v l) :
    Calls Try.prog 5 #[v, .string a1, .int .i64 a2, .int .i64 a3, .string a4] w fun e w' => e = .returned (.bool true) ∧ Below w.heap.size w w' := by
  have HA := Lib.hid h
  obtain ⟨A, ca, rfl, -⟩ := h
  go_enter Try.func5, Try.ntmps5
  go_wp2_with fail
  refine (ref8_block _ l 40 _ HA.out (by omega)).mono ?_
  rintro z w1 ⟨v1, own, rfl, ho1, hlm, hok, hb1⟩
  have O1 := Lib.hid ho1
  have G := Lib.hid hb1
  have hmv := blk_may hok
  have HM := Lib.hid hmv
  have HKY := Lib.hid (show ∀ v ∈ own, v.key.size ≤ 1000000 from fun v hv => Nat.le_trans (may_key (hmv v hv)) (by omega))
  have hl40 : own.length ≤ 40 := by omega
  have BU := Lib.hid (fun va w h => run_build va own w h (by omega) HKY.out)
  rw [if_pos hok, if_pos hok] at BU
  have hle : (encRun own).length ≤ 20000 ∧ 16 ≤ (encRun own).length := by
    have h := encRun_len hok (by omega)
    have h2 : many8 own = (own.length + 7) / 8 := rfl
    refine ⟨by omega, ?_⟩
    unfold encRun
    rw [List.length_append, List.length_append, frm_length, frm_length]
    omega
  obtain ⟨hle, hge⟩ := hle
  have OP := Lib.hid (fun va w h => run_open va (encRun own) w h hle)
  have HYES := Lib.hid (show IsRun (encRun own) own from ⟨hok, rfl⟩)
  have HIN := Lib.hid (fun l (h : IsRun (encRun own) l) => IsRun.inj h HYES.out (by omega))
  have OF := Lib.hid (fun p base w h => run_of p own base a1 w h hok (by omega))
  have DO := Lib.hid (fun va w h => ref9_of va own a1 w h (by omega))
  generalize (own.filter fun v => decide (v.key = a1)) = L1 at OF DO
  have RG := Lib.hid (fun p base w h => run_range p own base a1 a4 w h hok (by omega))
  have DR := Lib.hid (fun va w h => ref9_range va own a1 a4 w h (by omega))
  generalize (own.filter fun v => !Op.bytesLess v.key.toList a1.toList && Op.bytesLess v.key.toList a4.toList) = L2 at RG DR
  have LA := Lib.hid (fun p base w h => run_last p own base a1 a2 a3 w h hok (by omega))
  have DL := Lib.hid (fun va w h => ref9_last va own a1 a2 a3 w h (by omega))
  generalize (own.filter fun v => decide (v.key = a1) && decide (v.b = a2) && decide (v.e ≤ a3)) = L3 at LA DL
  generalize lastV L3 = lv at LA DL
  generalize decide (L3 ≠ []) = f3 at LA DL
  have EQ := Lib.hid (fun W => ver_eql_same W lv)
  obtain ⟨kk, bb, ee, ss, ⟨xx, yy⟩, uu, gg⟩ := lv
  unfold verV at LA DL EQ
  simp only at LA DL EQ
  obtain ⟨A1, c1, e1, -⟩ := ho1.rd
  subst e1
  clear ho1 hb1 hmv hlm hok
  generalize encRun own = eb at *
  go_wp2_with fail
  refine (BU.out _ _ O1.out.rd).mono ?_
  rintro z w2 ⟨v2, rfl, ho2, hb2⟩
  have O1 := Lib.hid (O1.out.on hb2)
  have G := Lib.hid (G.out.trans (hb2.mono G.out.size))
  have E2 := Lib.hid ho2
  obtain ⟨A2, c2, e2, -⟩ := own_cap ho2
  subst e2
  clear ho2 hb2
  go_wp2_with fail
  refine (OP.out _ _ E2.out.rd).mono ?_
  rintro z w3 ⟨p, e, rfl, hb3, hor⟩
  have O1 := Lib.hid (O1.out.on hb3)
  have E2 := Lib.hid (E2.out.on hb3)
  have G := Lib.hid (G.out.trans (hb3.mono G.out.size))
  clear hb3
  rcases hor with ⟨l', rfl, hr, -, hat⟩ | ⟨-, -, hno⟩
  case inr => exact absurd HYES.out (hno _)
  obtain rfl : own = l' := (HIN.out _ hr).symm
  have RA := Lib.hid hat
  obtain ⟨nr, vb, rfl, -⟩ := hat
  clear hr
  go_wp2_with fail
  refine (OF.out _ _ _ RA.out).mono ?_
  rintro z wa1 ⟨va1, rfl, hoa, hba⟩
  have O1 := Lib.hid (O1.out.on hba)
  have RA := Lib.hid (RA.out.on hba)
  have G := Lib.hid (G.out.trans (hba.mono G.out.size))
  have OA := Lib.hid hoa
  obtain ⟨AA1, ca1, ea, -⟩ := hoa.rd
  subst ea
  clear hoa hba
  go_wp2_with fail
  refine (DO.out _ _ O1.out.rd).mono ?_
  rintro z wb1 ⟨vb1, rfl, hob, hbb⟩
  have O1 := Lib.hid (O1.out.on hbb)
  have RA := Lib.hid (RA.out.on hbb)
  have OA := Lib.hid (OA.out.on hbb)
  have G := Lib.hid (G.out.trans (hbb.mono G.out.size))
  have OB := Lib.hid hob
  obtain ⟨AB1, cb1, eb', -⟩ := hob.rd
  subst eb'
  clear hob hbb
  go_wp2_with fail
  refine (ref6_same _ _ L1 L1 _ OA.out.rd OB.out.rd).mono ?_
  rintro z wc1 ⟨r, rfl, hr, hbc⟩
  have O1 := Lib.hid (O1.out.on hbc)
  have RA := Lib.hid (RA.out.on hbc)
  have G := Lib.hid (G.out.trans (hbc.mono G.out.size))
  obtain rfl : r = true := hr.2 rfl
  clear hr hbc OA OB
  go_wp2_with fail
  refine (RG.out _ _ _ RA.out).mono ?_
  rintro z wa2 ⟨va2, rfl, hoa, hba⟩
  have O1 := Lib.hid (O1.out.on hba)
  have RA := Lib.hid (RA.out.on hba)
  have G := Lib.hid (G.out.trans (hba.mono G.out.size))
  have OA := Lib.hid hoa
  obtain ⟨AA2, ca2, ea, -⟩ := hoa.rd
  subst ea
  clear hoa hba
  go_wp2_with fail
  refine (DR.out _ _ O1.out.rd).mono ?_
  rintro z wb2 ⟨vb2, rfl, hob, hbb⟩
  have O1 := Lib.hid (O1.out.on hbb)
  have RA := Lib.hid (RA.out.on hbb)
  have OA := Lib.hid (OA.out.on hbb)
  have G := Lib.hid (G.out.trans (hbb.mono G.out.size))
  have OB := Lib.hid hob
  obtain ⟨AB2, cb2, eb', -⟩ := hob.rd
  subst eb'
  clear hob hbb
  go_wp2_with fail
  refine (ref6_same _ _ L2 L2 _ OA.out.rd OB.out.rd).mono ?_
  rintro z wc2 ⟨r, rfl, hr, hbc⟩
  have O1 := Lib.hid (O1.out.on hbc)
  have RA := Lib.hid (RA.out.on hbc)
  have G := Lib.hid (G.out.trans (hbc.mono G.out.size))
  obtain rfl : r = true := hr.2 rfl
  clear hr hbc OA OB
  go_wp2_with fail
  refine (LA.out _ _ _ RA.out).mono ?_
  rintro z w4 ⟨rfl, hb4⟩
  have O1 := Lib.hid (O1.out.on hb4)
  have G := Lib.hid (G.out.trans (hb4.mono G.out.size))
  clear hb4
  have G := Lib.hid (G.out.trans ((alloc_below w4 (.cells #[.string kk, .int .i64 bb, .int .i64 ee, .int .i64 ss, .int .i64 xx, .int .i64 yy, .string uu, .bool gg] 42)).mono G.out.size))
  have O1 := Lib.hid (O1.out.on (alloc_below w4 (.cells #[.string kk, .int .i64 bb, .int .i64 ee, .int .i64 ss, .int .i64 xx, .int .i64 yy, .string uu, .bool gg] 42)))
  have BX := Lib.hid (Box.new w4 #[.string kk, .int .i64 bb, .int .i64 ee, .int .i64 ss, .int .i64 xx, .int .i64 yy, .string uu, .bool gg] 42 _ rfl)
  go_wp2_with fail
  generalize w4.alloc (.cells #[.string kk, .int .i64 bb, .int .i64 ee, .int .i64 ss, .int .i64 xx, .int .i64 yy, .string uu, .bool gg] 42) = w5 at *
  refine (DL.out _ _ O1.out.rd).mono ?_
  rintro z w6 ⟨rfl, hb6⟩
  have G := Lib.hid (G.out.trans (hb6.mono G.out.size))
  have BX := Lib.hid (BX.out.later hb6)
  clear hb6
  have G := Lib.hid (G.out.trans ((alloc_below w6 (.cells #[.string kk, .int .i64 bb, .int .i64 ee, .int .i64 ss, .int .i64 xx, .int .i64 yy, .string uu, .bool gg] 42)).mono G.out.size))
  have BX := Lib.hid (BX.out.alloc (.cells #[.string kk, .int .i64 bb, .int .i64 ee, .int .i64 ss, .int .i64 xx, .int .i64 yy, .string uu, .bool gg] 42))
  have BY := Lib.hid (Box.new w6 #[.string kk, .int .i64 bb, .int .i64 ee, .int .i64 ss, .int .i64 xx, .int .i64 yy, .string uu, .bool gg] 42 _ rfl)
  have c0 := BX.out.cell 0 _ rfl
  have c1 := BX.out.cell 1 _ rfl
  have c2 := BX.out.cell 2 _ rfl
  have c3 := BX.out.cell 3 _ rfl
  have c4 := BX.out.cell 4 _ rfl
  have c5 := BX.out.cell 5 _ rfl
  have c6 := BX.out.cell 6 _ rfl
  have c7 := BX.out.cell 7 _ rfl
  have y0 := BY.out.cell 0 _ rfl
  have y1 := BY.out.cell 1 _ rfl
  have y2 := BY.out.cell 2 _ rfl
  have y3 := BY.out.cell 3 _ rfl
  have y4 := BY.out.cell 4 _ rfl
  have y5 := BY.out.cell 5 _ rfl
  have y6 := BY.out.cell 6 _ rfl
  have y7 := BY.out.cell 7 _ rfl
  have q1 : (kk.toList == kk.toList) = true := by simp
  have q2 : (uu.toList == uu.toList) = true := by simp
  have q3 : (f3 == f3) = true := by simp
  go_wp2_with fail
  refine (lives_any9 _).mono ?_
  rintro z w8 ⟨rfl, hb⟩
  have G := Lib.hid (G.out.trans (hb.mono G.out.size))
  clear hb
  go_wp2_with fail
  go_ret
  exact ⟨rfl, G.out⟩
-- END
set_option maxRecDepth 100000 in
theorem lifted (os : Os) (started : os.Started) (H : Type) (enc : TypeId × Value → H) :
    ReturnsInHanded {} Try.checked os 5 .any (Rows.runFindsSpec.pre6 enc Try.prog Try.f5 Rows.runFindsRow.domain false) (Rows.runFindsSpec.post enc Try.prog Try.f5 false true false false) := by
  refine returnsInHanded_of_change (C := Try.checked) Try.own started (by kernel_rfl) Try.func5
    (ChangeSpec.witness6 (enc := enc) (C := Try.checked) false ⟨#[], #[.slice none 0 0, .string ⟨#[]⟩, .int .i64 0, .int .i64 0, .string ⟨#[]⟩], []⟩ 8 (by kernel_rfl) (by kernel_rfl) (by kernel_rfl) (by kernel_rfl)) ?_
  intro W base args ds gs before hval0 hW _ _
  have hval : ∀ (j : Nat) t v, Try.f5.params[j]? = some t → args[j]? = some v → Value.okWide Try.prog W .any base t v := hval0
  have hW' := hW
  obtain ⟨p, q, hA0, hV, rfl, _, _⟩ := hW
  have hA : DataW.TrodAll enc Try.prog W 0 (fun _ => true) true Try.f5.params.toList args.toList ds p := hA0
  rw [Try.params5] at hA hval
  obtain ⟨v0, v1, v2, v3, v4, d0, d1, d2, d3, d4, p0, p1, p2, p3, p4, rfl, rfl, rfl, h0, h1, h2, h3, h4⟩ := trodAll_five hA
  obtain ⟨rfl, rfl⟩ := trodVars_none hV
  have hlt := fun x hx => hW'.lt x hx
  obtain ⟨a0, r0, b0⟩ := open_vers (hval 0 _ v0 rfl rfl) h0 (fun x hx => by simpa using hlt x (by simp [hx]))
  obtain ⟨a1, rfl, rfl, rfl, w1⟩ := ChangeMaps.open_string Try.underlying9 (hval 1 _ v1 rfl rfl) h1
  simp only [maxLen] at w1
  obtain ⟨a2, rfl, rfl, rfl, w2⟩ := open_int Try.underlying3 (hval 2 _ v2 rfl rfl) h2
  have w2 := wf_int w2
  obtain ⟨a3, rfl, rfl, rfl, w3⟩ := open_int Try.underlying3 (hval 3 _ v3 rfl rfl) h3
  have w3 := wf_int w3
  obtain ⟨a4, rfl, rfl, rfl, w4⟩ := ChangeMaps.open_string Try.underlying9 (hval 4 _ v4 rfl rfl) h4
  simp only [maxLen] at w4
  refine (walk _ _ _ _ _ _ _ r0).mono fun e W' ⟨he, hb⟩ => ⟨_, he, ?_⟩
  exact law_post Try.laidOut (by decide +kernel) rfl Try.underlying4 rfl hW' rfl hb

theorem holds : Rows.RunFindsSaid :=
  OpenClaim.holds_of_wide 5 Try.f5 rfl rfl rfl rfl rfl rfl rfl ⟨rfl, rfl, rfl, rfl, rfl⟩ rfl rfl rfl rfl rfl (by kernel_rfl) Try.func5 (by kernel_rfl)
    (of_decide_eq_true (by kernel_rfl)) (by unfold Func.isWrapper; first | (rw [if_pos (by decide +kernel)]; kernel_rfl) | (rw [if_neg (by decide +kernel)]; exact ⟨rfl, rfl⟩))
    (fun os started H enc _ => lifted os started H enc)
end Go.Proofs.Ytefjdmlmmoeoaaa.L03
