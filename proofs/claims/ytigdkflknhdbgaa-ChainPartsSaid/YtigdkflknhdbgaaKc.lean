/- Layer 13 (the list of layer 12, of slices of versions), the project's: in each row the last node ahead of a key. -/
import Derived.Test.YtigdkflknhdbgaaKb
import Derived.Deep.LoopGhost
import Derived.BigQuiet
namespace Go.Proofs.Ytigdkflknhdbgaa.Skp
open Go.RowKit
set_option linter.unusedVariables false

def nils8 : Array Value := #[.pointer none, .pointer none, .pointer none, .pointer none, .pointer none, .pointer none, .pointer none, .pointer none]
def eightV (b : Nat → Nat) : Array Value := #[.pointer (some ⟨b 0, 0, none⟩), .pointer (some ⟨b 1, 0, none⟩), .pointer (some ⟨b 2, 0, none⟩), .pointer (some ⟨b 3, 0, none⟩), .pointer (some ⟨b 4, 0, none⟩), .pointer (some ⟨b 5, 0, none⟩), .pointer (some ⟨b 6, 0, none⟩), .pointer (some ⟨b 7, 0, none⟩)]
theorem eight_of {V b : Nat → Nat} {K : Nat} {ps : List Value} (hl : ps.length = 8) (h : ∀ t, t < 8 → ∃ j, PredIs V K t j ∧ ps[t]? = some (.pointer (some ⟨b j, 0, none⟩))) :
    ∃ pj : Nat → Nat, (∀ t, t < 8 → PredIs V K t (pj t)) ∧ ps.toArray = eightV fun t => b (pj t) := by
  refine ⟨fun t => if ht : t < 8 then (h t ht).choose else 0, fun t ht => ?_, ?_⟩
  · simp only [ht, dif_pos]
    exact (h t ht).choose_spec.1
  · unfold eightV
    have e : ∀ t (ht : t < 8), ps[t]? = some (.pointer (some ⟨b (if ht : t < 8 then (h t ht).choose else 0), 0, none⟩)) := fun t ht => by
      simp only [ht, dif_pos]
      exact (h t ht).choose_spec.2
    refine Array.ext' ?_
    rw [List.toList_toArray]
    refine List.ext_getElem? fun t => ?_
    rcases Nat.lt_or_ge t 8 with ht | ht
    · rw [e t ht]
      rcases (show t = 0 ∨ t = 1 ∨ t = 2 ∨ t = 3 ∨ t = 4 ∨ t = 5 ∨ t = 6 ∨ t = 7 from by omega) with rfl | rfl | rfl | rfl | rfl | rfl | rfl | rfl <;> rfl
    · rw [List.getElem?_eq_none (by omega), List.getElem?_eq_none (by simpa using ht)]
theorem box_put8' {w : World} {n : Nat} {t : TypeId} {a0 a1 a2 a3 a4 a5 a6 a7 b0 b1 b2 b3 b4 b5 b6 b7 : Value} (h : Box w n #[a0, a1, a2, a3, a4, a5, a6, a7] t) : Box ((((((((w.setCell ⟨n, 0, none⟩ b0).setCell ⟨n, 1, none⟩ b1).setCell ⟨n, 2, none⟩ b2).setCell ⟨n, 3, none⟩ b3).setCell ⟨n, 4, none⟩ b4).setCell ⟨n, 5, none⟩ b5).setCell ⟨n, 6, none⟩ b6).setCell ⟨n, 7, none⟩ b7) n #[b0, b1, b2, b3, b4, b5, b6, b7] t := by
  have h8 := ((((((((h.set 0 b0).set 1 b1).set 2 b2).set 3 b3).set 4 b4).set 5 b5).set 6 b6).set 7 b7)
  simp only [List.setIfInBounds_toArray, List.set_cons_succ, List.set_cons_zero] at h8
  exact h8
theorem below_put8' {w0 w : World} {B n : Nat} (b0 b1 b2 b3 b4 b5 b6 b7 : Value) (h : Below B w0 w) (hn : B ≤ n) : Below B w0 ((((((((w.setCell ⟨n, 0, none⟩ b0).setCell ⟨n, 1, none⟩ b1).setCell ⟨n, 2, none⟩ b2).setCell ⟨n, 3, none⟩ b3).setCell ⟨n, 4, none⟩ b4).setCell ⟨n, 5, none⟩ b5).setCell ⟨n, 6, none⟩ b6).setCell ⟨n, 7, none⟩ b7) := ((((((((h.setCell (p := ⟨n, 0, none⟩) hn b0).setCell (p := ⟨n, 1, none⟩) hn b1).setCell (p := ⟨n, 2, none⟩) hn b2).setCell (p := ⟨n, 3, none⟩) hn b3).setCell (p := ⟨n, 4, none⟩) hn b4).setCell (p := ⟨n, 5, none⟩) hn b5).setCell (p := ⟨n, 6, none⟩) hn b6).setCell (p := ⟨n, 7, none⟩) hn b7)
/-- What ahead answers, out of its variable. -/
theorem ahead_end {w W : World} {M : List Nd} {V : Nat → Nat} {K : Nat} {tm : List Value} {pj : Nat → Nat} {p0 p1 p2 p3 : Value} (h : Box W w.heap.size #[.pointer (some ⟨bN M (pj 0), 0, none⟩), .pointer (some ⟨bN M (pj 1), 0, none⟩), .pointer (some ⟨bN M (pj 2), 0, none⟩), .pointer (some ⟨bN M (pj 3), 0, none⟩), .pointer (some ⟨bN M (pj 4), 0, none⟩), .pointer (some ⟨bN M (pj 5), 0, none⟩), .pointer (some ⟨bN M (pj 6), 0, none⟩), .pointer (some ⟨bN M (pj 7), 0, none⟩)] 85) (hg : Below w.heap.size w W) (hp : ∀ t, t < 8 → PredIs V K t (pj t)) :
    bodyPost Try.prog Try.f62 (fun z w' => ∃ pj : Nat → Nat, z = .returned (.agg (eightV fun t => bN M (pj t))) ∧ (∀ t, t < 8 → PredIs V K t (pj t)) ∧ Below w.heap.size w w') Exit.ret { tmps := (p0 :: p1 :: p2 :: p3 :: .pointer (some ⟨w.heap.size, 0, none⟩) :: tm).toArray, defers := [] } W := by
  have d0 := h.cell 0 _ rfl
  have d1 := h.cell 1 _ rfl
  have d2 := h.cell 2 _ rfl
  have d3 := h.cell 3 _ rfl
  have d4 := h.cell 4 _ rfl
  have d5 := h.cell 5 _ rfl
  have d6 := h.cell 6 _ rfl
  have d7 := h.cell 7 _ rfl
  refine ⟨rfl, .agg (eightV fun t => bN M (pj t)), (by rw [results_cell1 rfl]; unfold eightV; go_simp), pj, rfl, hp, hg⟩
set_option maxHeartbeats 8000000 in
set_option maxRecDepth 1000000 in
theorem p_ahead (mk : Nat) (M : List Nd) (l : List It) (key : ByteArray) (w : World) (h : SkM mk w M l) :
    Calls Try.prog 62 #[.pointer (some ⟨bN M 0, 0, none⟩), .string key] w fun z w' => ∃ pj : Nat → Nat, z = .returned (.agg (eightV fun t => bN M (pj t))) ∧ (∀ t, t < 8 → PredIs (lvN M) (atI key l + 1) t (pj t)) ∧ Below w.heap.size w w' := by
  have HS := Lib.hid h
  have KL := Lib.hid (fun t (ht : t < l.length) => key_less h.asc key ht)
  have AL := Lib.hid (at_le key l)
  obtain ⟨K, hK⟩ : ∃ K, atI key l + 1 = K := ⟨_, rfl⟩
  have KL := Lib.hid (show ∀ t (ht : t < l.length), Op.bytesLess l[t].key.toList key.toList = decide (t + 1 < K) from fun t ht => by
    rw [KL.out t ht, Bool.eq_iff_iff, decide_eq_true_iff, decide_eq_true_iff]; omega)
  have AL := Lib.hid (show K ≤ M.length from by rw [h.len]; have := AL.out; omega)
  have K1 := Lib.hid (show 1 ≤ K from by omega)
  rw [hK]
  have HD := Lib.hid h.lv0
  have BA := Lib.hid (Box.new w nils8 85 _ rfl)
  have G0 := Lib.hid (alloc_below w (.cells nils8 85))
  have BA := Lib.hid (BA.out.alloc (.cells nils8 85))
  have BP := Lib.hid (Box.new (w.alloc (.cells nils8 85)) nils8 85 (w.heap.size + 1) (by simp))
  have G1 := Lib.hid (G0.out.alloc (by simp) (.cells nils8 85))
  clear h hK
  go_enter Try.func62, Try.ntmps62
  go_wp2_with fail
  refine wp_scope_jumps 0 (fun a' w' => ∃ (r i : Nat) (ps : List Value) (x8 u9 u10 u11 u12 u13 u14 u15 u16 u17 u18 u19 u20 u21 u22 u23 u24 u25 u26 u27 u28 u29 u30 u31 u32 u33 u34 u35 u36 u37 u38 u39 u40 u41 u42 : Value), (r < 8 ∧ i < K ∧ r < lvN M i ∧ ps.length = 8 ∧ Box w' w.heap.size nils8 85 ∧ Box w' (w.heap.size + 1) ps.toArray 85 ∧ (∀ t, r < t → t < 8 → ∃ j, PredIs (lvN M) K t j ∧ ps[t]? = some (.pointer (some ⟨bN M j, 0, none⟩))) ∧ Below w.heap.size w w') ∧ a' = { tmps := #[.pointer (some ⟨bN M 0, 0, none⟩), .string key, undef, undef, .pointer (some ⟨w.heap.size, 0, none⟩), .pointer (some ⟨w.heap.size + 1, 0, none⟩), .pointer (some ⟨bN M i, 0, none⟩), .int .i64 (r : Int), x8, u9, u10, u11, u12, u13, u14, u15, u16, u17, u18, u19, u20, u21, u22, u23, u24, u25, u26, u27, u28, u29, u30, u31, u32, u33, u34, u35, u36, u37, u38, u39, u40, u41, u42], defers := [] })
    (fun a' _ => (intOf (a'.tmps.getD 7 undef)).toNat) rfl ?first ?pass
  case' first =>
    go_wp2_with fail
    go_step3
    simp only [Exit.then]
    rename_i Kk hK
    refine hK _ _ ?_
    clear hK Kk
    refine (?_ : ∀ (r i : Nat) (ps : List Value) (x8 u9 u10 u11 u12 u13 u14 u15 u16 u17 u18 u19 u20 u21 u22 u23 u24 u25 u26 u27 u28 u29 u30 u31 u32 u33 u34 u35 u36 u37 u38 u39 u40 u41 u42 : Value) (w' : World), (r < 8 ∧ i < K ∧ r < lvN M i ∧ ps.length = 8 ∧ Box w' w.heap.size nils8 85 ∧ Box w' (w.heap.size + 1) ps.toArray 85 ∧ (∀ t, r < t → t < 8 → ∃ j, PredIs (lvN M) K t j ∧ ps[t]? = some (.pointer (some ⟨bN M j, 0, none⟩))) ∧ Below w.heap.size w w') → Code.wp Try.prog _ _ { tmps := #[.pointer (some ⟨bN M 0, 0, none⟩), .string key, undef, undef, .pointer (some ⟨w.heap.size, 0, none⟩), .pointer (some ⟨w.heap.size + 1, 0, none⟩), .pointer (some ⟨bN M i, 0, none⟩), .int .i64 (r : Int), x8, u9, u10, u11, u12, u13, u14, u15, u16, u17, u18, u19, u20, u21, u22, u23, u24, u25, u26, u27, u28, u29, u30, u31, u32, u33, u34, u35, u36, u37, u38, u39, u40, u41, u42], defers := [] } w') 7 0 (List.replicate 8 (.pointer none)) _ _ _ _ _ _ _ _ _ _ _ _ _ _ _ _ _ _ _ _ _ _ _ _ _ _ _ _ _ _ _ _ _ _ _ _ ⟨by decide, K1.out, by rw [HD.out]; decide, rfl, BA.out, BP.out, fun t h1 h2 => by omega, G1.out⟩
    intro r i ps x8 u9 u10 u11 u12 u13 u14 u15 u16 u17 u18 u19 u20 u21 u22 u23 u24 u25 u26 u27 u28 u29 u30 u31 u32 u33 u34 u35 u36 u37 u38 u39 u40 u41 u42 w' hf
  case' pass =>
    rintro a' w' ⟨r, i, ps, x8, u9, u10, u11, u12, u13, u14, u15, u16, u17, u18, u19, u20, u21, u22, u23, u24, u25, u26, u27, u28, u29, u30, u31, u32, u33, u34, u35, u36, u37, u38, u39, u40, u41, u42, hf, rfl⟩
  all_goals
    clear BA BP G0 G1
    obtain ⟨hr8, hiK, hri, hpl, hba, hbp, hps, hbw⟩ := hf
    have HR8 := Lib.hid hr8
    have HPL := Lib.hid hpl
    have BR := Lib.hid hba
    have BP := Lib.hid hbp
    have HPS := Lib.hid hps
    have GW := Lib.hid hbw
    have SW := Lib.hid (HS.out.on hbw)
    obtain ⟨o, ho, hco⟩ := HS.out.link i r hri
    have e3 := SW.out.nodes.reads hri
    rw [hco] at e3
    obtain ⟨po, hpo⟩ : ∃ po, ptrO (bN M) o = po := ⟨_, rfl⟩
    rw [hpo] at e3
    have HPO := Lib.hid hpo
    have hmi : (r : Int) < 8 := by omega
    have HO := Lib.hid ho
    have HRI := Lib.hid hri
    have HIK := Lib.hid hiK
    clear hr8 hpl hba hbp hps hbw ho hri hiK hco hpo
    . go_wp2_with fail
      clear e3
      go_loopg [6, 8] (K - i) (fun k x y wr => ∃ (i2 : Nat) (o2 : Option Nat), x = .pointer (some ⟨bN M i2, 0, none⟩) ∧ y = ptrO (bN M) o2 ∧ NextIs (lvN M) r i2 o2 ∧ i2 < K ∧ r < lvN M i2 ∧ k = K - i2 ∧ wr = w')
      case atStart => exact ⟨i, o, rfl, HPO.out.symm, HO.out, HIK.out, HRI.out, rfl, rfl⟩
      case round =>
        obtain ⟨i2, o2, rfl, rfl, hn2, hi2, hr2, rfl, rfl⟩ := hrel
        have HN2 := Lib.hid hn2
        have HI2 := Lib.hid hi2
        have HR2 := Lib.hid hr2
        cases o2 with
        | none =>
          have PREDH : PredIs (lvN M) K r i2 := ⟨hi2, hr2, fun t h1 _ => hn2 t h1⟩
          simp only [ptrO]
          clear hn2 hi2 hr2
          have PR := Lib.hid (show PredIs (lvN M) K r i2 from PREDH)
          have BS := Lib.hid (BP.out.set r (.pointer (some ⟨bN M i2, 0, none⟩)))
          have BT := Lib.hid (BR.out.other ⟨w.heap.size + 1, r, none⟩ (.pointer (some ⟨bN M i2, 0, none⟩)) (by simp))
          have cp := BP.out.cell r _ (show ps.toArray[r]? = some (ps[r]'(by rw [HPL.out]; exact HR8.out)) from by simp [HPL.out, HR8.out])
          have fp := BP.out.frozen r
          have G3 := Lib.hid (GW.out.setCell (p := ⟨w.heap.size + 1, r, none⟩) (by simp) (.pointer (some ⟨bN M i2, 0, none⟩)))
          have NPS := Lib.hid (show ∀ t, r ≤ t → t < 8 → ∃ j, PredIs (lvN M) K t j ∧ (ps.set r (.pointer (some ⟨bN M i2, 0, none⟩)))[t]? = some (.pointer (some ⟨bN M j, 0, none⟩)) from fun t h1 h2 => by
            rcases Nat.eq_or_lt_of_le h1 with e | e
            · subst e
              exact ⟨i2, PR.out, by simp [HPL.out, HR8.out]⟩
            · obtain ⟨j, hj1, hj2⟩ := HPS.out t e h2
              exact ⟨j, hj1, by rw [List.getElem?_set_ne (by omega)]; exact hj2⟩)
          have BS := Lib.hid (show Box (wr.setCell ⟨w.heap.size + 1, r, none⟩ (.pointer (some ⟨bN M i2, 0, none⟩))) (w.heap.size + 1) (ps.set r (.pointer (some ⟨bN M i2, 0, none⟩))).toArray 85 from by simpa using BS.out)
          have HL2 := Lib.hid (show (ps.set r (.pointer (some ⟨bN M i2, 0, none⟩))).length = 8 from by rw [List.length_set]; exact HPL.out)
          have hr8 := HR8.out
          have hr8i : (r : Int) < 8 := by omega
          rcases Nat.eq_zero_or_pos r with hr0 | hr0
          · have zr : decide (0 < (r : Int)) = false := by rw [decide_eq_false_iff_not]; omega
            have zrn : decide (0 < r) = false := by rw [decide_eq_false_iff_not]; omega
            obtain ⟨pj, hpj, e8⟩ := eight_of HL2.out (fun t ht => NPS.out t (by omega) ht)
            have HPJ := Lib.hid hpj
            have BS := Lib.hid (show Box (wr.setCell ⟨w.heap.size + 1, r, none⟩ (.pointer (some ⟨bN M i2, 0, none⟩))) (w.heap.size + 1) (eightV fun t => bN M (pj t)) 85 from by
              have := BS.out
              rw [e8] at this
              exact this)
            clear hr0 hpj e8
            have d0 : (wr.setCell ⟨w.heap.size + 1, r, none⟩ (.pointer (some ⟨bN M i2, 0, none⟩))).cell? ⟨w.heap.size + 1, 0, none⟩ = some (.pointer (some ⟨bN M (pj 0), 0, none⟩)) := BS.out.cell 0 _ rfl
            have k0 : (wr.setCell ⟨w.heap.size + 1, r, none⟩ (.pointer (some ⟨bN M i2, 0, none⟩))).cell? ⟨w.heap.size, 0, none⟩ = some (.pointer none) := BT.out.cell 0 _ rfl
            have f0 : (wr.setCell ⟨w.heap.size + 1, r, none⟩ (.pointer (some ⟨bN M i2, 0, none⟩))).frozen? ⟨w.heap.size, 0, none⟩ = false := BT.out.frozen 0
            have d1 : (wr.setCell ⟨w.heap.size + 1, r, none⟩ (.pointer (some ⟨bN M i2, 0, none⟩))).cell? ⟨w.heap.size + 1, 1, none⟩ = some (.pointer (some ⟨bN M (pj 1), 0, none⟩)) := BS.out.cell 1 _ rfl
            have k1 : (wr.setCell ⟨w.heap.size + 1, r, none⟩ (.pointer (some ⟨bN M i2, 0, none⟩))).cell? ⟨w.heap.size, 1, none⟩ = some (.pointer none) := BT.out.cell 1 _ rfl
            have f1 : (wr.setCell ⟨w.heap.size + 1, r, none⟩ (.pointer (some ⟨bN M i2, 0, none⟩))).frozen? ⟨w.heap.size, 1, none⟩ = false := BT.out.frozen 1
            have d2 : (wr.setCell ⟨w.heap.size + 1, r, none⟩ (.pointer (some ⟨bN M i2, 0, none⟩))).cell? ⟨w.heap.size + 1, 2, none⟩ = some (.pointer (some ⟨bN M (pj 2), 0, none⟩)) := BS.out.cell 2 _ rfl
            have k2 : (wr.setCell ⟨w.heap.size + 1, r, none⟩ (.pointer (some ⟨bN M i2, 0, none⟩))).cell? ⟨w.heap.size, 2, none⟩ = some (.pointer none) := BT.out.cell 2 _ rfl
            have f2 : (wr.setCell ⟨w.heap.size + 1, r, none⟩ (.pointer (some ⟨bN M i2, 0, none⟩))).frozen? ⟨w.heap.size, 2, none⟩ = false := BT.out.frozen 2
            have d3 : (wr.setCell ⟨w.heap.size + 1, r, none⟩ (.pointer (some ⟨bN M i2, 0, none⟩))).cell? ⟨w.heap.size + 1, 3, none⟩ = some (.pointer (some ⟨bN M (pj 3), 0, none⟩)) := BS.out.cell 3 _ rfl
            have k3 : (wr.setCell ⟨w.heap.size + 1, r, none⟩ (.pointer (some ⟨bN M i2, 0, none⟩))).cell? ⟨w.heap.size, 3, none⟩ = some (.pointer none) := BT.out.cell 3 _ rfl
            have f3 : (wr.setCell ⟨w.heap.size + 1, r, none⟩ (.pointer (some ⟨bN M i2, 0, none⟩))).frozen? ⟨w.heap.size, 3, none⟩ = false := BT.out.frozen 3
            have d4 : (wr.setCell ⟨w.heap.size + 1, r, none⟩ (.pointer (some ⟨bN M i2, 0, none⟩))).cell? ⟨w.heap.size + 1, 4, none⟩ = some (.pointer (some ⟨bN M (pj 4), 0, none⟩)) := BS.out.cell 4 _ rfl
            have k4 : (wr.setCell ⟨w.heap.size + 1, r, none⟩ (.pointer (some ⟨bN M i2, 0, none⟩))).cell? ⟨w.heap.size, 4, none⟩ = some (.pointer none) := BT.out.cell 4 _ rfl
            have f4 : (wr.setCell ⟨w.heap.size + 1, r, none⟩ (.pointer (some ⟨bN M i2, 0, none⟩))).frozen? ⟨w.heap.size, 4, none⟩ = false := BT.out.frozen 4
            have d5 : (wr.setCell ⟨w.heap.size + 1, r, none⟩ (.pointer (some ⟨bN M i2, 0, none⟩))).cell? ⟨w.heap.size + 1, 5, none⟩ = some (.pointer (some ⟨bN M (pj 5), 0, none⟩)) := BS.out.cell 5 _ rfl
            have k5 : (wr.setCell ⟨w.heap.size + 1, r, none⟩ (.pointer (some ⟨bN M i2, 0, none⟩))).cell? ⟨w.heap.size, 5, none⟩ = some (.pointer none) := BT.out.cell 5 _ rfl
            have f5 : (wr.setCell ⟨w.heap.size + 1, r, none⟩ (.pointer (some ⟨bN M i2, 0, none⟩))).frozen? ⟨w.heap.size, 5, none⟩ = false := BT.out.frozen 5
            have d6 : (wr.setCell ⟨w.heap.size + 1, r, none⟩ (.pointer (some ⟨bN M i2, 0, none⟩))).cell? ⟨w.heap.size + 1, 6, none⟩ = some (.pointer (some ⟨bN M (pj 6), 0, none⟩)) := BS.out.cell 6 _ rfl
            have k6 : (wr.setCell ⟨w.heap.size + 1, r, none⟩ (.pointer (some ⟨bN M i2, 0, none⟩))).cell? ⟨w.heap.size, 6, none⟩ = some (.pointer none) := BT.out.cell 6 _ rfl
            have f6 : (wr.setCell ⟨w.heap.size + 1, r, none⟩ (.pointer (some ⟨bN M i2, 0, none⟩))).frozen? ⟨w.heap.size, 6, none⟩ = false := BT.out.frozen 6
            have d7 : (wr.setCell ⟨w.heap.size + 1, r, none⟩ (.pointer (some ⟨bN M i2, 0, none⟩))).cell? ⟨w.heap.size + 1, 7, none⟩ = some (.pointer (some ⟨bN M (pj 7), 0, none⟩)) := BS.out.cell 7 _ rfl
            have k7 : (wr.setCell ⟨w.heap.size + 1, r, none⟩ (.pointer (some ⟨bN M i2, 0, none⟩))).cell? ⟨w.heap.size, 7, none⟩ = some (.pointer none) := BT.out.cell 7 _ rfl
            have f7 : (wr.setCell ⟨w.heap.size + 1, r, none⟩ (.pointer (some ⟨bN M i2, 0, none⟩))).frozen? ⟨w.heap.size, 7, none⟩ = false := BT.out.frozen 7
            go_wp2_with fail
            (try simp only [Exit.jump])
            (try go_wp2_with fail)
            have B8 := box_put8' (b0 := .pointer (some ⟨bN M (pj 0), 0, none⟩)) (b1 := .pointer (some ⟨bN M (pj 1), 0, none⟩)) (b2 := .pointer (some ⟨bN M (pj 2), 0, none⟩)) (b3 := .pointer (some ⟨bN M (pj 3), 0, none⟩)) (b4 := .pointer (some ⟨bN M (pj 4), 0, none⟩)) (b5 := .pointer (some ⟨bN M (pj 5), 0, none⟩)) (b6 := .pointer (some ⟨bN M (pj 6), 0, none⟩)) (b7 := .pointer (some ⟨bN M (pj 7), 0, none⟩)) BT.out
            have G8 := below_put8' (.pointer (some ⟨bN M (pj 0), 0, none⟩)) (.pointer (some ⟨bN M (pj 1), 0, none⟩)) (.pointer (some ⟨bN M (pj 2), 0, none⟩)) (.pointer (some ⟨bN M (pj 3), 0, none⟩)) (.pointer (some ⟨bN M (pj 4), 0, none⟩)) (.pointer (some ⟨bN M (pj 5), 0, none⟩)) (.pointer (some ⟨bN M (pj 6), 0, none⟩)) (.pointer (some ⟨bN M (pj 7), 0, none⟩)) G3.out (Nat.le_refl _)
            exact ahead_end B8 G8 HPJ.out
          · have zr : decide (0 < (r : Int)) = true := by simp only [decide_eq_true_eq]; omega
            have zrn : decide (0 < r) = true := by simp only [decide_eq_true_eq]; omega
            obtain ⟨r, rfl⟩ : ∃ r', r = r' + 1 := ⟨r - 1, by omega⟩
            have hwr : IntKind.i64.wrap (((r + 1 : Nat) : Int) - 1) = (r : Int) := by rw [IntKind.wrap_i64]; omega
            have hwr2 : IntKind.i64.wrap ((r : Int) + 1 - 1) = (r : Int) := by rw [IntKind.wrap_i64]; omega
            have hwr3 : IntKind.i64.wrap (r : Int) = (r : Int) := by rw [IntKind.wrap_i64]; omega
            have HLV := Lib.hid (show r < lvN M i2 from by have := PR.out.lev; omega)
            have HIK := Lib.hid PR.out.lt
            clear hr0
            go_wp2_with fail
            go_step3
            first
              | exact ⟨rfl, r, i2, _, _, _, _, _, _, _, _, _, _, _, _, _, _, _, _, _, _, _, _, _, _, _, _, _, _, _, _, _, _, _, _, _, _, _, _, ⟨by omega, HIK.out, HLV.out, HL2.out, BT.out, BS.out, fun t h1 h2 => NPS.out t h1 h2, G3.out⟩, rfl⟩
              | exact ⟨rfl, ⟨r, i2, _, _, _, _, _, _, _, _, _, _, _, _, _, _, _, _, _, _, _, _, _, _, _, _, _, _, _, _, _, _, _, _, _, _, _, _, ⟨by omega, HIK.out, HLV.out, HL2.out, BT.out, BS.out, fun t h1 h2 => NPS.out t h1 h2, G3.out⟩, rfl⟩, by simp [intOf]⟩
        | some j =>
          obtain ⟨t, rfl, ht⟩ := SW.out.next_lt hn2
          have hkk := KL.out t ht
          have ck := (SW.out.key ht).1
          obtain ⟨s, hs⟩ : ∃ s, l[t].key = s := ⟨_, rfl⟩
          rw [hs] at hkk ck
          simp only [ptrO]
          by_cases hjk : t + 1 < K
          · have q : Op.bytesLess s.toList key.toList = true := by rw [hkk]; simp [hjk]
            obtain ⟨o3, ho3, hco3⟩ := HS.out.link (t + 1) r hn2.2.1
            have d3 := SW.out.nodes.reads hn2.2.1
            rw [hco3] at d3
            obtain ⟨po3, hpo3⟩ : ∃ po, ptrO (bN M) o3 = po := ⟨_, rfl⟩
            rw [hpo3] at d3
            have HPO3 := Lib.hid hpo3
            have HO3 := Lib.hid ho3
            have HJK := Lib.hid hjk
            have HLT := Lib.hid hn2.1
            have HLR := Lib.hid hn2.2.1
            clear hn2 hi2 hr2 hkk hs hjk ho3 hco3 ht hpo3
            · go_wp2_with fail
              go_roundg (K - (t + 1))
              case measure => have := HLT.out; have := HJK.out; omega
              case rel => exact ⟨t + 1, o3, rfl, HPO3.out.symm, HO3.out, HJK.out, HLR.out, rfl, rfl⟩
          · have q : Op.bytesLess s.toList key.toList = false := by rw [hkk]; simp [hjk]
            have PREDH : PredIs (lvN M) K r i2 := ⟨hi2, hr2, fun t2 h1 h2 => hn2.2.2 t2 h1 (by omega)⟩
            clear hn2 hi2 hr2 hkk hs hjk ht
            have PR := Lib.hid (show PredIs (lvN M) K r i2 from PREDH)
            have BS := Lib.hid (BP.out.set r (.pointer (some ⟨bN M i2, 0, none⟩)))
            have BT := Lib.hid (BR.out.other ⟨w.heap.size + 1, r, none⟩ (.pointer (some ⟨bN M i2, 0, none⟩)) (by simp))
            have cp := BP.out.cell r _ (show ps.toArray[r]? = some (ps[r]'(by rw [HPL.out]; exact HR8.out)) from by simp [HPL.out, HR8.out])
            have fp := BP.out.frozen r
            have G3 := Lib.hid (GW.out.setCell (p := ⟨w.heap.size + 1, r, none⟩) (by simp) (.pointer (some ⟨bN M i2, 0, none⟩)))
            have NPS := Lib.hid (show ∀ t, r ≤ t → t < 8 → ∃ j, PredIs (lvN M) K t j ∧ (ps.set r (.pointer (some ⟨bN M i2, 0, none⟩)))[t]? = some (.pointer (some ⟨bN M j, 0, none⟩)) from fun t h1 h2 => by
              rcases Nat.eq_or_lt_of_le h1 with e | e
              · subst e
                exact ⟨i2, PR.out, by simp [HPL.out, HR8.out]⟩
              · obtain ⟨j, hj1, hj2⟩ := HPS.out t e h2
                exact ⟨j, hj1, by rw [List.getElem?_set_ne (by omega)]; exact hj2⟩)
            have BS := Lib.hid (show Box (wr.setCell ⟨w.heap.size + 1, r, none⟩ (.pointer (some ⟨bN M i2, 0, none⟩))) (w.heap.size + 1) (ps.set r (.pointer (some ⟨bN M i2, 0, none⟩))).toArray 85 from by simpa using BS.out)
            have HL2 := Lib.hid (show (ps.set r (.pointer (some ⟨bN M i2, 0, none⟩))).length = 8 from by rw [List.length_set]; exact HPL.out)
            have hr8 := HR8.out
            have hr8i : (r : Int) < 8 := by omega
            rcases Nat.eq_zero_or_pos r with hr0 | hr0
            · have zr : decide (0 < (r : Int)) = false := by rw [decide_eq_false_iff_not]; omega
              have zrn : decide (0 < r) = false := by rw [decide_eq_false_iff_not]; omega
              obtain ⟨pj, hpj, e8⟩ := eight_of HL2.out (fun t ht => NPS.out t (by omega) ht)
              have HPJ := Lib.hid hpj
              have BS := Lib.hid (show Box (wr.setCell ⟨w.heap.size + 1, r, none⟩ (.pointer (some ⟨bN M i2, 0, none⟩))) (w.heap.size + 1) (eightV fun t => bN M (pj t)) 85 from by
                have := BS.out
                rw [e8] at this
                exact this)
              clear hr0 hpj e8
              have d0 : (wr.setCell ⟨w.heap.size + 1, r, none⟩ (.pointer (some ⟨bN M i2, 0, none⟩))).cell? ⟨w.heap.size + 1, 0, none⟩ = some (.pointer (some ⟨bN M (pj 0), 0, none⟩)) := BS.out.cell 0 _ rfl
              have k0 : (wr.setCell ⟨w.heap.size + 1, r, none⟩ (.pointer (some ⟨bN M i2, 0, none⟩))).cell? ⟨w.heap.size, 0, none⟩ = some (.pointer none) := BT.out.cell 0 _ rfl
              have f0 : (wr.setCell ⟨w.heap.size + 1, r, none⟩ (.pointer (some ⟨bN M i2, 0, none⟩))).frozen? ⟨w.heap.size, 0, none⟩ = false := BT.out.frozen 0
              have d1 : (wr.setCell ⟨w.heap.size + 1, r, none⟩ (.pointer (some ⟨bN M i2, 0, none⟩))).cell? ⟨w.heap.size + 1, 1, none⟩ = some (.pointer (some ⟨bN M (pj 1), 0, none⟩)) := BS.out.cell 1 _ rfl
              have k1 : (wr.setCell ⟨w.heap.size + 1, r, none⟩ (.pointer (some ⟨bN M i2, 0, none⟩))).cell? ⟨w.heap.size, 1, none⟩ = some (.pointer none) := BT.out.cell 1 _ rfl
              have f1 : (wr.setCell ⟨w.heap.size + 1, r, none⟩ (.pointer (some ⟨bN M i2, 0, none⟩))).frozen? ⟨w.heap.size, 1, none⟩ = false := BT.out.frozen 1
              have d2 : (wr.setCell ⟨w.heap.size + 1, r, none⟩ (.pointer (some ⟨bN M i2, 0, none⟩))).cell? ⟨w.heap.size + 1, 2, none⟩ = some (.pointer (some ⟨bN M (pj 2), 0, none⟩)) := BS.out.cell 2 _ rfl
              have k2 : (wr.setCell ⟨w.heap.size + 1, r, none⟩ (.pointer (some ⟨bN M i2, 0, none⟩))).cell? ⟨w.heap.size, 2, none⟩ = some (.pointer none) := BT.out.cell 2 _ rfl
              have f2 : (wr.setCell ⟨w.heap.size + 1, r, none⟩ (.pointer (some ⟨bN M i2, 0, none⟩))).frozen? ⟨w.heap.size, 2, none⟩ = false := BT.out.frozen 2
              have d3 : (wr.setCell ⟨w.heap.size + 1, r, none⟩ (.pointer (some ⟨bN M i2, 0, none⟩))).cell? ⟨w.heap.size + 1, 3, none⟩ = some (.pointer (some ⟨bN M (pj 3), 0, none⟩)) := BS.out.cell 3 _ rfl
              have k3 : (wr.setCell ⟨w.heap.size + 1, r, none⟩ (.pointer (some ⟨bN M i2, 0, none⟩))).cell? ⟨w.heap.size, 3, none⟩ = some (.pointer none) := BT.out.cell 3 _ rfl
              have f3 : (wr.setCell ⟨w.heap.size + 1, r, none⟩ (.pointer (some ⟨bN M i2, 0, none⟩))).frozen? ⟨w.heap.size, 3, none⟩ = false := BT.out.frozen 3
              have d4 : (wr.setCell ⟨w.heap.size + 1, r, none⟩ (.pointer (some ⟨bN M i2, 0, none⟩))).cell? ⟨w.heap.size + 1, 4, none⟩ = some (.pointer (some ⟨bN M (pj 4), 0, none⟩)) := BS.out.cell 4 _ rfl
              have k4 : (wr.setCell ⟨w.heap.size + 1, r, none⟩ (.pointer (some ⟨bN M i2, 0, none⟩))).cell? ⟨w.heap.size, 4, none⟩ = some (.pointer none) := BT.out.cell 4 _ rfl
              have f4 : (wr.setCell ⟨w.heap.size + 1, r, none⟩ (.pointer (some ⟨bN M i2, 0, none⟩))).frozen? ⟨w.heap.size, 4, none⟩ = false := BT.out.frozen 4
              have d5 : (wr.setCell ⟨w.heap.size + 1, r, none⟩ (.pointer (some ⟨bN M i2, 0, none⟩))).cell? ⟨w.heap.size + 1, 5, none⟩ = some (.pointer (some ⟨bN M (pj 5), 0, none⟩)) := BS.out.cell 5 _ rfl
              have k5 : (wr.setCell ⟨w.heap.size + 1, r, none⟩ (.pointer (some ⟨bN M i2, 0, none⟩))).cell? ⟨w.heap.size, 5, none⟩ = some (.pointer none) := BT.out.cell 5 _ rfl
              have f5 : (wr.setCell ⟨w.heap.size + 1, r, none⟩ (.pointer (some ⟨bN M i2, 0, none⟩))).frozen? ⟨w.heap.size, 5, none⟩ = false := BT.out.frozen 5
              have d6 : (wr.setCell ⟨w.heap.size + 1, r, none⟩ (.pointer (some ⟨bN M i2, 0, none⟩))).cell? ⟨w.heap.size + 1, 6, none⟩ = some (.pointer (some ⟨bN M (pj 6), 0, none⟩)) := BS.out.cell 6 _ rfl
              have k6 : (wr.setCell ⟨w.heap.size + 1, r, none⟩ (.pointer (some ⟨bN M i2, 0, none⟩))).cell? ⟨w.heap.size, 6, none⟩ = some (.pointer none) := BT.out.cell 6 _ rfl
              have f6 : (wr.setCell ⟨w.heap.size + 1, r, none⟩ (.pointer (some ⟨bN M i2, 0, none⟩))).frozen? ⟨w.heap.size, 6, none⟩ = false := BT.out.frozen 6
              have d7 : (wr.setCell ⟨w.heap.size + 1, r, none⟩ (.pointer (some ⟨bN M i2, 0, none⟩))).cell? ⟨w.heap.size + 1, 7, none⟩ = some (.pointer (some ⟨bN M (pj 7), 0, none⟩)) := BS.out.cell 7 _ rfl
              have k7 : (wr.setCell ⟨w.heap.size + 1, r, none⟩ (.pointer (some ⟨bN M i2, 0, none⟩))).cell? ⟨w.heap.size, 7, none⟩ = some (.pointer none) := BT.out.cell 7 _ rfl
              have f7 : (wr.setCell ⟨w.heap.size + 1, r, none⟩ (.pointer (some ⟨bN M i2, 0, none⟩))).frozen? ⟨w.heap.size, 7, none⟩ = false := BT.out.frozen 7
              go_wp2_with fail
              (try simp only [Exit.jump])
              (try go_wp2_with fail)
              have B8 := box_put8' (b0 := .pointer (some ⟨bN M (pj 0), 0, none⟩)) (b1 := .pointer (some ⟨bN M (pj 1), 0, none⟩)) (b2 := .pointer (some ⟨bN M (pj 2), 0, none⟩)) (b3 := .pointer (some ⟨bN M (pj 3), 0, none⟩)) (b4 := .pointer (some ⟨bN M (pj 4), 0, none⟩)) (b5 := .pointer (some ⟨bN M (pj 5), 0, none⟩)) (b6 := .pointer (some ⟨bN M (pj 6), 0, none⟩)) (b7 := .pointer (some ⟨bN M (pj 7), 0, none⟩)) BT.out
              have G8 := below_put8' (.pointer (some ⟨bN M (pj 0), 0, none⟩)) (.pointer (some ⟨bN M (pj 1), 0, none⟩)) (.pointer (some ⟨bN M (pj 2), 0, none⟩)) (.pointer (some ⟨bN M (pj 3), 0, none⟩)) (.pointer (some ⟨bN M (pj 4), 0, none⟩)) (.pointer (some ⟨bN M (pj 5), 0, none⟩)) (.pointer (some ⟨bN M (pj 6), 0, none⟩)) (.pointer (some ⟨bN M (pj 7), 0, none⟩)) G3.out (Nat.le_refl _)
              exact ahead_end B8 G8 HPJ.out
            · have zr : decide (0 < (r : Int)) = true := by simp only [decide_eq_true_eq]; omega
              have zrn : decide (0 < r) = true := by simp only [decide_eq_true_eq]; omega
              obtain ⟨r, rfl⟩ : ∃ r', r = r' + 1 := ⟨r - 1, by omega⟩
              have hwr : IntKind.i64.wrap (((r + 1 : Nat) : Int) - 1) = (r : Int) := by rw [IntKind.wrap_i64]; omega
              have hwr2 : IntKind.i64.wrap ((r : Int) + 1 - 1) = (r : Int) := by rw [IntKind.wrap_i64]; omega
              have hwr3 : IntKind.i64.wrap (r : Int) = (r : Int) := by rw [IntKind.wrap_i64]; omega
              have HLV := Lib.hid (show r < lvN M i2 from by have := PR.out.lev; omega)
              have HIK := Lib.hid PR.out.lt
              clear hr0
              go_wp2_with fail
              go_step3
              first
                | exact ⟨rfl, r, i2, _, _, _, _, _, _, _, _, _, _, _, _, _, _, _, _, _, _, _, _, _, _, _, _, _, _, _, _, _, _, _, _, _, _, _, _, ⟨by omega, HIK.out, HLV.out, HL2.out, BT.out, BS.out, fun t h1 h2 => NPS.out t h1 h2, G3.out⟩, rfl⟩
                | exact ⟨rfl, ⟨r, i2, _, _, _, _, _, _, _, _, _, _, _, _, _, _, _, _, _, _, _, _, _, _, _, _, _, _, _, _, _, _, _, _, _, _, _, _, ⟨by omega, HIK.out, HLV.out, HL2.out, BT.out, BS.out, fun t h1 h2 => NPS.out t h1 h2, G3.out⟩, rfl⟩, by simp [intOf]⟩
end Go.Proofs.Ytigdkflknhdbgaa.Skp
