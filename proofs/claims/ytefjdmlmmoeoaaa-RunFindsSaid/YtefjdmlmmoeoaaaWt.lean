/- Layer 9: the last version, by the document. -/
import Derived.Test.YtefjdmlmmoeoaaaWq
namespace Go.Proofs.Ytefjdmlmmoeoaaa
open Go.RowKit
set_option linter.unusedVariables false

theorem results_cell_tmp {fn : Func} {p q : Tmp} {ty : TypeId} (h : fn.results = #[.cell p ty, .tmp q]) (tmps : Array Value) (P : Program) (w : World) :
    (results fn tmps).run P w = ((asAddr (tmps.getD p undef)).run P w).andThen fun a w₁ => ((loadVar ty a).run P w₁).andThen fun x w₂ => .ok (.tuple #[x, tmps.getD q undef]) w₂ := by
  simp only [results, h]
  simp [Sem.run_bind, Result.andThen]
  repeat (first | rfl | split)

set_option maxHeartbeats 4000000 in
set_option maxRecDepth 100000 in
theorem ref9_last (va : Value) (l : List Ver) (key : ByteArray) (br ep : Int) (w : World) (ha : RdVr w w.heap.size va l) (hl : l.length ≤ 20000) :
    Calls Try.prog 24 #[va, .string key, .int .i64 br, .int .i64 ep] w fun e w' => e = .returned (.tuple #[verV (lastV (l.filter fun v => decide (v.key = key) && decide (v.b = br) && decide (v.e ≤ ep))), .bool (decide ((l.filter fun v => decide (v.key = key) && decide (v.b = br) && decide (v.e ≤ ep)) ≠ []))]) ∧ Below w.heap.size w w' := by
  have HA := Lib.hid ha
  obtain ⟨A, ca, rfl, hla, hca, -⟩ := ha
  obtain ⟨F, hF⟩ : ∃ F : Ver → Bool, (fun v : Ver => decide (v.key = key) && decide (v.b = br) && decide (v.e ≤ ep)) = F := ⟨_, rfl⟩
  have HFF := Lib.hid (show ∀ v, F v = (decide (v.key = key) && decide (v.b = br) && decide (v.e ≤ ep)) from fun v => by rw [← hF])
  rw [hF]
  clear hF
  obtain ⟨fo, hfo⟩ : ∃ fo, decide (l.filter F ≠ []) = fo := ⟨_, rfl⟩
  rw [hfo]
  have HFO := Lib.hid hfo
  clear hfo
  obtain ⟨W1, hW1⟩ : ∃ W1, ((w.alloc (.cells #[.string ⟨#[]⟩, .int .i64 0, .int .i64 0, .int .i64 0, .int .i64 0, .int .i64 0, .string ⟨#[]⟩, .bool false] 42)).alloc (.cells #[.string ⟨#[]⟩, .int .i64 0, .int .i64 0, .int .i64 0, .int .i64 0, .int .i64 0, .string ⟨#[]⟩, .bool false] 42)) = W1 := ⟨_, rfl⟩
  have B0 := Lib.hid (show Box W1 w.heap.size (verL.enc zeroV).toArray 42 from by
    rw [← hW1, enc_zero]
    exact (Box.new _ _ _ _ rfl).alloc _)
  have B1 := Lib.hid (show Box W1 (w.heap.size + 1) (verL.enc zeroV).toArray 42 from by
    rw [← hW1, enc_zero]
    exact Box.new _ _ _ _ (by simp))
  have hB1 : Below w.heap.size w W1 := by
    rw [← hW1]; exact ((Below.refl _ w).alloc (Nat.le_refl _) _).alloc (by simp) _
  have GB := Lib.hid hB1
  clear hB1
  go_enter Try.func24, Try.ntmps24
  go_wp2_with fail
  clear hW1
  go_loopw [11, 12] (fun x i wr => ∃ k : Nat, i = .int .i64 k ∧ k ≤ l.length ∧ x = .bool (decide ((l.take k).filter F ≠ [])) ∧ Box wr w.heap.size (verL.enc zeroV).toArray 42 ∧ Box wr (w.heap.size + 1) (verL.enc (lastV ((l.take k).filter F))).toArray 42 ∧ Below w.heap.size w wr) (fun _ i _ => l.length - (intOf i).toNat)
  case atStart => exact ⟨0, rfl, Nat.zero_le _, rfl, B0.out, B1.out, GB.out⟩
  case round =>
    obtain ⟨k, rfl, hk, rfl, h0, h1, hb⟩ := hrel
    have HTE := Lib.hid (show k = l.length → (l.take k).filter F = l.filter F from fun h => by rw [List.take_of_length_le (by omega)])
    have HTT := Lib.hid (fun h h2 => flt_true (F := F) l k h h2)
    have HTF := Lib.hid (fun h h2 => flt_false (F := F) l k h h2)
    generalize (l.take k).filter F = TK at *
    have G := Lib.hid hb
    have X0 := Lib.hid h0
    have X1 := Lib.hid h1
    obtain ⟨f, hf⟩ : ∃ f, decide (TK ≠ []) = f := ⟨_, rfl⟩
    rw [hf]
    have HF9 := Lib.hid hf
    obtain ⟨lv, hlv⟩ : ∃ lv, lastV TK = lv := ⟨_, rfl⟩
    rw [hlv] at h1
    have HLV := Lib.hid hlv
    clear hb hf hlv
    obtain ⟨k1, b1, e1, s1, ⟨x1, y1⟩, u1, g1⟩ := lv
    have h1 : Box wr (w.heap.size + 1) #[.string k1, .int .i64 b1, .int .i64 e1, .int .i64 s1, .int .i64 x1, .int .i64 y1, .string u1, .bool g1] 42 := h1
    have fz0 := h1.frozen 0
    have fz1 := h1.frozen 1
    have fz2 := h1.frozen 2
    have fz3 := h1.frozen 3
    have fz4 := h1.frozen 4
    have fz5 := h1.frozen 5
    have fz6 := h1.frozen 6
    have fz7 := h1.frozen 7
    have d0 := h1.cell 0 (.string k1) rfl
    have d1 := h1.cell 1 (.int .i64 b1) rfl
    have d2 := h1.cell 2 (.int .i64 e1) rfl
    have d3 := h1.cell 3 (.int .i64 s1) rfl
    have d4 := h1.cell 4 (.int .i64 x1) rfl
    have d5 := h1.cell 5 (.int .i64 y1) rfl
    have d6 := h1.cell 6 (.string u1) rfl
    have d7 := h1.cell 7 (.bool g1) rfl
    have H1 := Lib.hid h1
    by_cases hlt : k < l.length
    · have z1 : decide ((k : Int) < (l.length : Int)) = true := by simp; omega
      obtain ⟨b, o, rfl, hbb, c0, c1, c2, c3, c4, c5, c6, c7⟩ := RdVr.here (HA.out.below G.out) k hlt
      have TT := Lib.hid (HTT.out hlt)
      have TF := Lib.hid (HTF.out hlt)
      have FV := Lib.hid (HFF.out l[k])
      generalize l[k] = p at *
      obtain ⟨kk, bb, ee, ss, ⟨xx, yy⟩, uu, gg⟩ := p
      simp only at c0 c1 c2 c3 c4 c5 c6 c7 FV
      clear h0 h1
      by_cases hall : (kk = key ∧ bb = br) ∧ ee ≤ ep
      · have q1 := str_eqT hall.1.1
        have q2 : (bb == br) = true := by simpa using hall.1.2
        have q3 : decide (ee ≤ ep) = true := by simpa using hall.2
        have TT := Lib.hid (TT.out (by rw [FV.out]; simp [hall.1.1, hall.1.2, hall.2]))
        clear hall
        go_wp2_with fail
        have NB := Lib.hid (box_put8 (w := wr) (b0 := .string kk) (b1 := .int .i64 bb) (b2 := .int .i64 ee) (b3 := .int .i64 ss) (b4 := .int .i64 xx) (b5 := .int .i64 yy) (b6 := .string uu) (b7 := .bool gg) H1.out)
        have N0 := Lib.hid (X0.out.keep (grown_put8 wr (w.heap.size + 1) (.string kk) (.int .i64 bb) (.int .i64 ee) (.int .i64 ss) (.int .i64 xx) (.int .i64 yy) (.string uu) (.bool gg)) (by simp))
        have GB := Lib.hid (below_put8 (n := w.heap.size + 1) (.string kk) (.int .i64 bb) (.int .i64 ee) (.int .i64 ss) (.int .i64 xx) (.int .i64 yy) (.string uu) (.bool gg) G.out (by omega))
        generalize ((((((((wr.setCell ⟨w.heap.size + 1, 0, none⟩ (.string kk)).setCell ⟨w.heap.size + 1, 1, none⟩ (.int .i64 bb)).setCell ⟨w.heap.size + 1, 2, none⟩ (.int .i64 ee)).setCell ⟨w.heap.size + 1, 3, none⟩ (.int .i64 ss)).setCell ⟨w.heap.size + 1, 4, none⟩ (.int .i64 xx)).setCell ⟨w.heap.size + 1, 5, none⟩ (.int .i64 yy)).setCell ⟨w.heap.size + 1, 6, none⟩ (.string uu)).setCell ⟨w.heap.size + 1, 7, none⟩ (.bool gg)) = W9 at *
        have R1 : Value.bool true = Value.bool (decide ((l.take (k + 1)).filter F ≠ [])) := by rw [TT.out]; simp
        have R2 : Box W9 (w.heap.size + 1) (verL.enc (lastV ((l.take (k + 1)).filter F))).toArray 42 := by rw [TT.out, lastV_snoc]; exact NB.out
        go_roundw
        case rel => exact ⟨k + 1, by go_num, hlt, R1, N0.out, R2, GB.out⟩
        case measure => simp [intOf]; omega
      · have TF := Lib.hid (TF.out (by rw [FV.out]; simp only [Bool.and_eq_false_iff, decide_eq_false_iff_not]; exact (Decidable.not_and_iff_or_not.1 hall).imp (fun h => Decidable.not_and_iff_or_not.1 h) id))
        have R1 : Value.bool f = Value.bool (decide ((l.take (k + 1)).filter F ≠ [])) := by rw [TF.out, HF9.out]
        have R2 : Box wr (w.heap.size + 1) (verL.enc (lastV ((l.take (k + 1)).filter F))).toArray 42 := by rw [TF.out]; exact X1.out
        have R1 := Lib.hid R1
        have R2 := Lib.hid R2
        by_cases hq1 : kk = key
        · have q1 := str_eqT hq1
          by_cases hq2 : bb = br
          · have q2 : (bb == br) = true := by simpa using hq2
            have q3 : decide (ee ≤ ep) = false := by rw [decide_eq_false_iff_not]; exact fun h => hall ⟨⟨hq1, hq2⟩, h⟩
            clear hall hq1 hq2
            go_wp2_with fail
            go_roundw
            case rel => exact ⟨k + 1, by go_num, hlt, R1.out, X0.out, R2.out, G.out⟩
            case measure => simp [intOf]; omega
          · have q2 : (bb == br) = false := by simpa using hq2
            clear hall hq1 hq2
            go_wp2_with fail
            go_roundw
            case rel => exact ⟨k + 1, by go_num, hlt, R1.out, X0.out, R2.out, G.out⟩
            case measure => simp [intOf]; omega
        · have q1 := str_eqF hq1
          clear hall hq1
          go_wp2_with fail
          go_roundw
          case rel => exact ⟨k + 1, by go_num, hlt, R1.out, X0.out, R2.out, G.out⟩
          case measure => simp [intOf]; omega
    · obtain rfl : k = l.length := by omega
      have HE := Lib.hid (HTE.out rfl)
      have HQ := Lib.hid (show Value.tuple #[.agg #[.string k1, .int .i64 b1, .int .i64 e1, .int .i64 s1, .int .i64 x1, .int .i64 y1, .string u1, .bool g1], .bool f] = .tuple #[verV (lastV (l.filter F)), .bool fo] from by rw [← HFO.out, ← HE.out, HLV.out, HF9.out]; rfl)
      have h0 : Box wr w.heap.size #[.string ⟨#[]⟩, .int .i64 0, .int .i64 0, .int .i64 0, .int .i64 0, .int .i64 0, .string ⟨#[]⟩, .bool false] 42 := h0
      have fy0 := h0.frozen 0
      have yo0 := h0.cell 0 (.string ⟨#[]⟩) rfl
      have fy1 := h0.frozen 1
      have yo1 := h0.cell 1 (.int .i64 0) rfl
      have fy2 := h0.frozen 2
      have yo2 := h0.cell 2 (.int .i64 0) rfl
      have fy3 := h0.frozen 3
      have yo3 := h0.cell 3 (.int .i64 0) rfl
      have fy4 := h0.frozen 4
      have yo4 := h0.cell 4 (.int .i64 0) rfl
      have fy5 := h0.frozen 5
      have yo5 := h0.cell 5 (.int .i64 0) rfl
      have fy6 := h0.frozen 6
      have yo6 := h0.cell 6 (.string ⟨#[]⟩) rfl
      have fy7 := h0.frozen 7
      have yo7 := h0.cell 7 (.bool false) rfl
      have NB := Lib.hid (box_put8 (w := wr) (b0 := .string k1) (b1 := .int .i64 b1) (b2 := .int .i64 e1) (b3 := .int .i64 s1) (b4 := .int .i64 x1) (b5 := .int .i64 y1) (b6 := .string u1) (b7 := .bool g1) h0)
      have GB := Lib.hid (below_put8 (.string k1) (.int .i64 b1) (.int .i64 e1) (.int .i64 s1) (.int .i64 x1) (.int .i64 y1) (.string u1) (.bool g1) G.out (Nat.le_refl _))
      clear h0 h1
      go_wp2_with fail
      generalize ((((((((wr.setCell ⟨w.heap.size, 0, none⟩ (.string k1)).setCell ⟨w.heap.size, 1, none⟩ (.int .i64 b1)).setCell ⟨w.heap.size, 2, none⟩ (.int .i64 e1)).setCell ⟨w.heap.size, 3, none⟩ (.int .i64 s1)).setCell ⟨w.heap.size, 4, none⟩ (.int .i64 x1)).setCell ⟨w.heap.size, 5, none⟩ (.int .i64 y1)).setCell ⟨w.heap.size, 6, none⟩ (.string u1)).setCell ⟨w.heap.size, 7, none⟩ (.bool g1)) = W9 at *
      clear yo0 yo1 yo2 yo3 yo4 yo5 yo6 yo7 fy0 fy1 fy2 fy3 fy4 fy5 fy6 fy7 fz0 fz1 fz2 fz3 fz4 fz5 fz6 fz7 d0 d1 d2 d3 d4 d5 d6 d7
      have r0 := NB.out.cell 0 (.string k1) rfl
      have r1 := NB.out.cell 1 (.int .i64 b1) rfl
      have r2 := NB.out.cell 2 (.int .i64 e1) rfl
      have r3 := NB.out.cell 3 (.int .i64 s1) rfl
      have r4 := NB.out.cell 4 (.int .i64 x1) rfl
      have r5 := NB.out.cell 5 (.int .i64 y1) rfl
      have r6 := NB.out.cell 6 (.string u1) rfl
      have r7 := NB.out.cell 7 (.bool g1) rfl
      refine bodyPost_ret ?_ rfl ⟨congrArg Ending.returned HQ.out, GB.out⟩
      rw [results_cell_tmp rfl]
      go_simp
end Go.Proofs.Ytefjdmlmmoeoaaa
