/- Layer 6: versions' bytes, by the project. -/
import Derived.Test.YtmchiebpijnpiaaRh
import Derived.Test.YtmchiebpijnpiaaVe
namespace Go.Proofs.Ytmchiebpijnpiaa
open Go.RowKit
set_option linter.unusedVariables false

set_option maxHeartbeats 4000000 in
theorem row_list (va : Value) (l : List Ver) (w : World) (ha : RdVr w w.heap.size va l) (hk : ∀ v ∈ l, v.key.size ≤ 1000000) (hl : l.length ≤ 100000) :
    Calls Try.prog 19 #[va] w fun r w' => ∃ v', r = .returned (.tuple #[v', .int .i64 (if l.all mayV = true then 0 else 1)]) ∧ OwnB w' w.heap.size v' (if l.all mayV = true then encN l.length ++ encVs l else []) ∧ Below w.heap.size w w' := by
  have HA := Lib.hid ha
  obtain ⟨A, ca, rfl, hla, hca, -⟩ := ha
  have HK := Lib.hid hk
  have h9 := encN_nine l.length (by omega)
  have HE := Lib.hid (show encNs [(l.length : Int)] = encN l.length from by simp [encNs])
  have HN := Lib.hid (show ∀ n ∈ [(l.length : Int)], n ≤ 9223372036854775807 from by simp; omega)
  have HP := Lib.hid (fun w => put_lit (.slice none 0 0) [] [(l.length : Int)] #[.int .i64 l.length] 1 w rfl rfl (RdB.nil _ _) (by simp) HN.out (by simp))
  rw [HE.out] at HP
  simp only [List.nil_append] at HP
  have HW := Lib.hid row_write
  generalize encN l.length = en at *
  clear hk
  obtain ⟨ec, hec⟩ : ∃ ec : Int, ec = (if l.all mayV = true then 0 else 1) := ⟨_, rfl⟩
  obtain ⟨out, hout⟩ : ∃ out : List UInt8, out = (if l.all mayV = true then en ++ encVs l else []) := ⟨_, rfl⟩
  rw [← hec, ← hout]
  have HEC := Lib.hid hec
  have HOUT := Lib.hid hout
  clear hec hout
  go_enter Try.func19, Try.ntmps19
  go_wp2_with fail
  refine (HP.out _).mono ?_
  rintro z w1 ⟨v1, rfl, ho1, hb1⟩
  have O := Lib.hid ho1
  have G := Lib.hid hb1
  clear ho1 hb1
  go_wp2_with fail
  go_loopw [4, 15] (fun x i wr => ∃ k : Nat, i = .int .i64 k ∧ k ≤ l.length ∧ (l.take k).all mayV = true ∧ OwnB wr w.heap.size x (en ++ encVs (l.take k)) ∧ Below w.heap.size w wr) (fun _ i _ => l.length - (intOf i).toNat)
  case atStart => exact ⟨0, rfl, Nat.zero_le _, by simp, by simpa [encVs] using O.out, G.out⟩
  case round =>
    obtain ⟨k, rfl, hk, hm, ho, hb⟩ := hrel
    have O := Lib.hid ho
    have GW := Lib.hid hb
    have HM := Lib.hid hm
    clear ho hb G hm
    by_cases hlt : k < l.length
    · obtain ⟨ba, oa, rfl, hba, c0, c1, c2, c3, c4, c5, c6, c7⟩ := RdVr.here (HA.out.below GW.out) k hlt
      have FS := Lib.hid (encVs_snoc l k hlt)
      have hmk := HK.out l[k] (List.getElem_mem _)
      have HX := Lib.hid (fun w => HW.out l[k] w hmk)
      have HS := Lib.hid (show (l.take (k + 1)).all mayV = mayV l[k] from by
        rw [List.take_succ_eq_append_getElem hlt, List.all_append, HM.out]; simp)
      have HB := Lib.hid (show mayV l[k] = false → l.all mayV = false from fun h => by
        rw [Bool.eq_false_iff]
        intro h2
        rw [List.all_eq_true.1 h2 l[k] (List.getElem_mem _)] at h; cases h)
      have hel := encVs_len (l.take k) (fun v hv => ⟨List.all_eq_true.1 HM.out v hv, by have := may_key (List.all_eq_true.1 HM.out v hv); omega⟩)
      have hl1 : (l.take k).length ≤ k := List.length_take_le _ _
      have HVL := Lib.hid (fun h : mayV l[k] = true => encV_len h (by have := may_key h; omega))
      have HAC := Lib.hid (show (en ++ encVs (l.take k)).length ≤ 1000000000 from by rw [List.length_append]; omega)
      clear hel hl1 hmk
      generalize encVs (l.take k) = acc at *
      generalize l[k] = p at *
      generalize encV p = ep at *
      generalize mayV p = mp at *
      generalize hmpe : (if mp = true then (0 : Int) else 1) = mpe at HX
      have HMPE := Lib.hid hmpe
      clear hmpe
      obtain ⟨kk, b, e, s, ⟨x, y⟩, u, g⟩ := p
      unfold verV at HX
      simp only at HX c0 c1 c2 c3 c4 c5 c6 c7
      have BX := Lib.hid (Box.new wr #[.string kk, .int .i64 b, .int .i64 e, .int .i64 s, .int .i64 x, .int .i64 y, .string u, .bool g] 27 _ rfl)
      have O := Lib.hid (O.out.on (alloc_below wr (.cells #[.string kk, .int .i64 b, .int .i64 e, .int .i64 s, .int .i64 x, .int .i64 y, .string u, .bool g] 27)))
      have GW := Lib.hid (GW.out.trans ((alloc_below wr (.cells #[.string kk, .int .i64 b, .int .i64 e, .int .i64 s, .int .i64 x, .int .i64 y, .string u, .bool g] 27)).mono GW.out.size))
      generalize hw4 : wr.alloc (.cells #[.string kk, .int .i64 b, .int .i64 e, .int .i64 s, .int .i64 x, .int .i64 y, .string u, .bool g] 27) = w4 at *
      have d0 := BX.out.cell 0 (.string kk) rfl
      have d1 := BX.out.cell 1 (.int .i64 b) rfl
      have d2 := BX.out.cell 2 (.int .i64 e) rfl
      have d3 := BX.out.cell 3 (.int .i64 s) rfl
      have d4 := BX.out.cell 4 (.int .i64 x) rfl
      have d5 := BX.out.cell 5 (.int .i64 y) rfl
      have d6 := BX.out.cell 6 (.string u) rfl
      have d7 := BX.out.cell 7 (.bool g) rfl
      go_wp2_with fail
      refine (HX.out _).mono ?_
      rintro z w2 ⟨v2, rfl, ho2, hb2⟩
      have O := Lib.hid (O.out.on hb2)
      have GW := Lib.hid (GW.out.trans (hb2.mono GW.out.size))
      cases mp
      · have HF := Lib.hid (HB.out rfl)
        have hm1 : mpe = 1 := HMPE.out.symm
        subst hm1
        clear ho2 hb2 c0 c1 c2 c3 c4 c5 c6 c7 d0 d1 d2 d3 d4 d5 d6 d7
        go_wp2_with fail
        go_ret2
        exact ⟨.slice none 0 0, by rw [HEC.out, HF.out]; rfl, by rw [HOUT.out, HF.out]; exact OwnB.nil _ _, GW.out⟩
      · have hm1 : mpe = 0 := HMPE.out.symm
        subst hm1
        simp only [if_true] at ho2
        obtain ⟨A2, c2', e2, -⟩ := own_cap ho2
        subst e2
        have R2 := Lib.hid ho2.rd
        have hvl := HVL.out rfl
        have hac := HAC.out
        have hal : (en ++ acc).length + ep.length ≤ 1099511627776 := by omega
        clear ho2 hb2 c0 c1 c2 c3 c4 c5 c6 c7 d0 d1 d2 d3 d4 d5 d6 d7 hvl hac
        go_wp2_with (at_builtin; refine wpl_app_bytes_b rfl (.tmp 27) (.tmp 28) rfl w.heap.size _ _ _ (en ++ acc) ep rfl rfl O.out R2.out GW.out.size hal ?_; intro v3 w3 ho3 hb3)
        have OZ := Lib.hid (show OwnB w3 w.heap.size v3 (en ++ encVs (l.take (k + 1))) from by rw [FS.out, ← List.append_assoc]; exact ho3)
        have GZ := Lib.hid (GW.out.trans hb3)
        clear ho3 hb3
        go_roundw
        case rel => exact ⟨k + 1, by go_num, by omega, HS.out, OZ.out, GZ.out⟩
        case measure => simp [intOf]; omega
    · have hke : l.take k = l := List.take_of_length_le (by omega)
      rw [hke] at O HM
      go_wp2_with fail
      go_ret2
      exact ⟨u4, by rw [HEC.out, HM.out]; rfl, by rw [HOUT.out, HM.out]; exact O.out, GW.out⟩
end Go.Proofs.Ytmchiebpijnpiaa
