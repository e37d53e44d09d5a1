/- CheckOwns: for all bytes (the first 60), what is handed in stays, and what is told is new: it may be written into, and nothing else turns. No conditions. -/
import Derived.Test.YtdpjohehmbddnaaCp
import Derived.Test.YtdpjohehmbddnaaCn
import Derived.ChangeMaps5
namespace Go.Proofs.Ytdpjohehmbddnaa.L07
open Go.RowKit Go.ChangeShapes Go.WideShapes Go.ChangeAt
set_option linter.unusedVariables false

set_option maxHeartbeats 4000000 in
set_option maxRecDepth 1000000 in
theorem walk (v0 : Value) (b0 : List UInt8) (w : World) (hb : RdB w w.heap.size v0 b0) :
    Calls Try.prog 9 #[v0] w fun e w' => e = .returned (.bool true) ∧ Below w.heap.size w w' := by
  have HB0 := Lib.hid hb
  have hl : (b0.take 60).length ≤ 60 := List.length_take_le _ _
  clear hb
  go_enter Try.func9, Try.ntmps9
  go_wp2_with fail
  refine (few_any _ _ b0 60 60 rfl _ HB0.out (by omega)).mono ?_
  rintro e w1 ⟨vb, rfl, hrb, rfl⟩
  generalize b0.take 60 = q at *
  have RB := Lib.hid hrb
  obtain ⟨Ab, cb, rfl, -⟩ := hrb
  go_wp2_with fail
  refine (chk_frame _ [q] _ (bb_one w _ _ RB.out) (by simp) (by simp; omega)).mono ?_
  rintro e w3 ⟨v3, rfl, ho3, hb3⟩
  rw [frms_one] at ho3
  have G3 := Lib.hid ((alloc_below w (.cells #[.slice Ab q.length cb] 22)).trans (hb3.mono (by simp)))
  have hfl := frm_length q
  have hfb : (frm q).length ≤ 1000 := by omega
  have F3 := Lib.hid ho3.rd
  have hs3 := ho3.str
  clear ho3 hb3 hfl
  generalize frm q = ff at *
  have HFB := Lib.hid hfb
  clear hfb
  go_wp2_with fail
  refine (chk_frames _ ff _ F3.out (by have := HFB.out; omega)).mono ?_
  rintro e w4 ⟨v4, rfl, ho4, hb4⟩
  have L4 := Lib.hid ho4.wr
  have B4 := Lib.hid hb4
  clear ho4 hb4 hs3
  go_wp2_with fail
  refine (chk_one _ ff _ (F3.out.on B4.out) (by have := HFB.out; omega)).mono ?_
  rintro e w5 ⟨v5, rfl, ho5, hb5⟩
  have X5 := Lib.hid (ho5.wr none (fun k _ => by simp))
  have L5 := Lib.hid (L4.out.on hb5)
  have B5 := Lib.hid (B4.out.trans (hb5.mono B4.out.size))
  have hn5 := B4.out.size
  clear ho5 hb5
  generalize (frs ff).1.map (·.length) = ns at *
  generalize (one1 ff).1.length = nx at *
  obtain ⟨AL, cL, rfl, hL1, hL2, -⟩ := L5.out
  obtain ⟨AX, cX, rfl, hX1, hX2, -⟩ := X5.out
  have hnsb : (ns.length : Int) ≤ 9223372036854775807 := by omega
  have hnxb : (nx : Int) ≤ 9223372036854775807 := by omega
  clear hL1 hL2 hX1 hX2
  go_wp2_with fail
  go_loopw [9] (fun i wr => ∃ k : Nat, i = .int .i64 k ∧ k ≤ ns.length ∧ WrBB wr w3.heap.size (.slice AL ns.length cL) ns ∧ WrB wr w4.heap.size none (.slice AX nx cX) nx ∧ Below w3.heap.size w3 wr) (fun i _ => ns.length - (intOf i).toNat)
  case atStart => exact ⟨0, rfl, by omega, L5.out, X5.out, B5.out⟩
  case round =>
    obtain ⟨k, rfl, hk, hL, hX, hB⟩ := hrel
    have L := Lib.hid hL
    have X := Lib.hid hX
    have B := Lib.hid hB
    clear hL hX hB L5 X5 B5
    by_cases hlt : k < ns.length
    · obtain ⟨A', c', e1, -, -, hc0⟩ := L.out
      obtain ⟨gv, rfl, hc⟩ := hc0 (by omega)
      cases e1
      obtain ⟨u, hu, hw⟩ := hc k hlt
      have HU := Lib.hid hu
      have HW := Lib.hid hw
      obtain ⟨Au, cu, rfl, hw1, hw2, -⟩ := hw
      generalize ns[k] = nk at *
      have hnkb : (nk : Int) ≤ 9223372036854775807 := by omega
      clear hc hc0 hu hw1 hw2
      go_wp2_with fail
      go_loopw [10] (fun i ws => ∃ j : Nat, i = .int .i64 j ∧ j ≤ nk ∧ ws.cell? ⟨gv, k, none⟩ = some (.slice Au nk cu) ∧ WrB ws w3.heap.size (some gv) (.slice Au nk cu) nk ∧ WrBB ws w3.heap.size (.slice (some ⟨gv, 0, none⟩) ns.length cL) ns ∧ WrB ws w4.heap.size none (.slice AX nx cX) nx ∧ Below w3.heap.size w3 ws) (fun i _ => nk - (intOf i).toNat)
      case atStart => exact ⟨0, rfl, by omega, HU.out, HW.out, L.out, X.out, B.out⟩
      case round =>
        obtain ⟨j, rfl, hj, hu, hw, hL, hX, hB⟩ := hrel
        have HW := Lib.hid hw
        have L := Lib.hid hL
        have X := Lib.hid hX
        have B := Lib.hid hB
        clear hw hL hX hB
        by_cases hlj : j < nk
        · obtain ⟨A2, c2, e2, -, -, hc0⟩ := HW.out
          obtain ⟨g, rfl, hg1, hg2, hc⟩ := hc0 (by omega)
          cases e2
          obtain ⟨⟨y, hy⟩, hfz⟩ := hc j hlj
          have hgv : gv ≠ g := fun e => hg2 (by rw [e])
          have L2 := Lib.hid (L.out.set g j 1 (by simpa [Value.ownBlock] using hgv))
          have X2 := Lib.hid (X.out.set g j 1)
          have W2 := Lib.hid (HW.out.set g j 1)
          have B2 := Lib.hid (B.out.setCell (p := ⟨g, j, none⟩) hg1 (.int .u8 1))
          have U2 := Lib.hid (show (wr.setCell ⟨g, j, none⟩ (.int .u8 1)).cell? ⟨gv, k, none⟩ = some (.slice (some ⟨g, 0, none⟩) nk cu) from by
            rw [World.cell?_setCell_other _ _ _ _ (fun e => hgv (congrArg (fun a : Addr => a.block) e).symm)]
            exact hu)
          clear hc hc0
          go_wp2_with fail
          go_roundw
          case rel => exact ⟨j + 1, by go_num, by omega, U2.out, W2.out, L2.out, X2.out, B2.out⟩
          case measure => simp [intOf]; omega
        · go_wp2_with fail
          go_roundw
          case rel => exact ⟨k + 1, by go_num, by omega, L.out, X.out, B.out⟩
          case measure => simp [intOf]; omega
    · go_wp2_with fail
      go_loopw [11] (fun i ws => ∃ j : Nat, i = .int .i64 j ∧ j ≤ nx ∧ WrB ws w4.heap.size none (.slice AX nx cX) nx ∧ Below w3.heap.size w3 ws) (fun i _ => nx - (intOf i).toNat)
      case atStart => exact ⟨0, rfl, by omega, X.out, B.out⟩
      case round =>
        obtain ⟨j, rfl, hj, hX, hB⟩ := hrel
        have X := Lib.hid hX
        have B := Lib.hid hB
        clear hX hB
        by_cases hlj : j < nx
        · obtain ⟨A2, c2, e2, -, -, hc0⟩ := X.out
          obtain ⟨g, rfl, hg1, hg2, hc⟩ := hc0 (by omega)
          cases e2
          obtain ⟨⟨y, hy⟩, hfz⟩ := hc j hlj
          have X2 := Lib.hid (X.out.set g j 2)
          have B2 := Lib.hid (B.out.setCell (p := ⟨g, j, none⟩) (show w3.heap.size ≤ g by omega) (.int .u8 2))
          clear hc hc0
          go_wp2_with fail
          go_roundw
          case rel => exact ⟨j + 1, by go_num, by omega, X2.out, B2.out⟩
          case measure => simp [intOf]; omega
        · have F := Lib.hid (F3.out.on B.out)
          have hs := F.out.str
          have G := Lib.hid (G3.out.trans (B.out.mono G3.out.size))
          obtain ⟨Af, cf, rfl, -⟩ := F3.out
          go_wp2_with fail
          refine (chk_sum _ _ ff _ F.out).mono ?_
          rintro e w6 ⟨rfl, rfl⟩
          go_wp2_with fail
          refine (ref_sum _ ff _ F.out (by have := HFB.out; omega)).mono ?_
          rintro e w7 ⟨rfl, hb7⟩
          have G := Lib.hid (G.out.trans (hb7.mono G.out.size))
          clear hb7
          generalize crcN ff = n at *
          go_wp2_with fail
          refine (lives_any _).mono ?_
          rintro e w8 ⟨rfl, hb8⟩
          go_wp2_with fail
          go_ret
          exact ⟨rfl, G.out.trans (hb8.mono G.out.size)⟩

-- END
set_option maxRecDepth 100000 in
theorem lifted (os : Os) (started : os.Started) (H : Type) (enc : TypeId × Value → H) :
    ReturnsInHanded {} Try.checked os 9 .any (Rows.checkOwnsSpec.pre6 enc Try.prog Try.f9 Rows.checkOwnsRow.domain false) (Rows.checkOwnsSpec.post enc Try.prog Try.f9 false true false false) := by
  refine returnsInHanded_of_change (C := Try.checked) Try.own started (by kernel_rfl) Try.func9
    (ChangeSpec.witness6 (enc := enc) (C := Try.checked) false ⟨#[], #[.slice none 0 0], []⟩ 8 (by kernel_rfl) (by kernel_rfl) (by kernel_rfl) (by kernel_rfl)) ?_
  intro W base args ds gs before hval0 hW _ _
  have hval : ∀ (j : Nat) t v, Try.f9.params[j]? = some t → args[j]? = some v → Value.okWide Try.prog W .any base t v := hval0
  have hW' := hW
  obtain ⟨p, q, hA0, hV, rfl, _, _⟩ := hW
  have hA : DataW.TrodAll enc Try.prog W 0 (fun _ => true) true Try.f9.params.toList args.toList ds p := hA0
  rw [Try.params9] at hA hval
  obtain ⟨v0, d0, rfl, rfl, h0⟩ := trodAll_one hA
  obtain ⟨rfl, rfl⟩ := trodVars_none hV
  have hlt : ∀ x ∈ p, x.block < W.heap.size := fun x hx => by simpa using hW'.lt x (by simpa using hx)
  obtain ⟨a0, r0⟩ := open_bytes (hval 0 _ v0 rfl rfl) h0 (fun x hx => by simpa using hlt x (by simp [hx]))
  refine (walk _ _ _ r0).mono fun e W' ⟨he, hb⟩ => ⟨_, he, ?_⟩
  exact law_post Try.laidOut (by decide +kernel) rfl Try.underlying4 rfl hW' rfl hb

theorem holds : Rows.CheckOwnsSaid :=
  OpenClaim.holds_of_wide 9 Try.f9 rfl rfl rfl rfl rfl rfl rfl ⟨rfl, rfl, rfl, rfl, rfl⟩ rfl rfl rfl rfl rfl (by kernel_rfl) Try.func9 (by kernel_rfl)
    (of_decide_eq_true (by kernel_rfl)) (by unfold Func.isWrapper; first | (rw [if_pos (by decide +kernel)]; kernel_rfl) | (rw [if_neg (by decide +kernel)]; exact ⟨rfl, rfl⟩))
    (fun os started H enc _ => lifted os started H enc)
end Go.Proofs.Ytdpjohehmbddnaa.L07
