/- Layer 13 (the list of layer 12, of slices of versions), the project's: Drop. -/
import Derived.Test.YtigdkflknhdbgaaKh
import Derived.Test.YtigdkflknhdbgaaBE
import Derived.BigQuiet
import Derived.Deep.Cut
namespace Go.Proofs.Ytigdkflknhdbgaa.Skp
open Go.RowKit
set_option linter.unusedVariables false

theorem KeptF.of {S : Nat → Prop} {w w' : World} (h : Below w.heap.size w w') : KeptF S w w' := ⟨h.mono (Nat.zero_le _), fun i hi _ => h.block i hi⟩
theorem KeptF.trans {S : Nat → Prop} {w w' w2 : World} (h : KeptF S w w') (k : Below w'.heap.size w' w2) : KeptF S w w2 := ⟨h.below.trans (k.mono (Nat.zero_le _)), fun i hi hs => (k.block i (Nat.lt_of_lt_of_le hi h.below.size)).trans (h.other i hi hs)⟩
theorem KeptF.set {S : Nat → Prop} {w w' : World} (h : KeptF S w w') {n : Nat} (hn : S n ∨ w.heap.size ≤ n) (j : Nat) (u : Value) : KeptF S w (w'.setCell ⟨n, j, none⟩ u) :=
  ⟨h.below.setCell (p := ⟨n, j, none⟩) (Nat.zero_le _) u, fun i hi hs => (Below.heap_setCell w' ⟨n, j, none⟩ u i (fun e => by
    simp only at e
    rcases hn with h1 | h1
    · rw [e] at hs; exact hs h1
    · omega)).trans (h.other i hi hs)⟩
theorem KeptF.drew {S : Nat → Prop} {w w' : World} (h : KeptF S w w') : KeptF S w w'.drew := h.trans ((Below.refl _ _).drewN 1)
theorem bn_own {M : List Nd} {t : Nat} (ht : t < M.length) : OwnK M (bN M t) := own_iff.2 ⟨t, ht, rfl⟩
/-- One more row turned. -/
theorem turn_row {M M2 : List Nd} {K r p : Nat} {T : Nat → Value} (hs : SameN M M2) (hp : PredIs (lvN M) K r p)
    (h1 : ∀ i t, t < r → PredIs (lvN M) K t i → cN M2 i t = T t)
    (h2 : ∀ i t, t < lvN M i → ¬ (t < r ∧ PredIs (lvN M) K t i) → cN M2 i t = cN M i t) :
    (∀ i t, t < r + 1 → PredIs (lvN M) K t i → cN (setN M2 p r (T r)) i t = T t) ∧
    (∀ i t, t < lvN M i → ¬ (t < r + 1 ∧ PredIs (lvN M) K t i) → cN (setN M2 p r (T r)) i t = cN M i t) := by
  have hv : r < lvN M2 p := by rw [hs.lv]; exact hp.lev
  refine ⟨fun i t ht hi => ?_, fun i t ht hi => ?_⟩
  · rw [cN_set _ hv]
    by_cases e : p = i ∧ r = t
    · rw [if_pos e, e.2]
    · rw [if_neg e]
      rcases Nat.eq_or_lt_of_le (Nat.lt_succ_iff.1 ht) with rfl | h3
      · exact absurd ⟨hp.same hi, rfl⟩ e
      · exact h1 i t h3 hi
  · rw [cN_set _ hv]
    by_cases e : p = i ∧ r = t
    · obtain ⟨rfl, rfl⟩ := e
      exact absurd ⟨Nat.lt_succ_self _, hp⟩ hi
    · rw [if_neg e]
      exact h2 i t ht fun h3 => hi ⟨by omega, h3.2⟩

set_option maxHeartbeats 4000000 in
set_option maxRecDepth 100000 in
theorem p_drop (mk : Nat) (M : List Nd) (l : List It) (key : ByteArray) (w : World) (h : SkM mk w M l) (hl : l.length ≤ 1000) :
    Calls Try.prog 54 #[.pointer (some ⟨bN M 0, 0, none⟩), .string key] w fun z w' => z = .returned (.bool (dropI l key).2) ∧ ∃ M', SkM mk w' M' (dropI l key).1 ∧ bN M' 0 = bN M 0 ∧ (∀ i, OwnK M' i → OwnK M i ∨ w.heap.size ≤ i) ∧ KeptF (OwnK M) w w' := by
  have HS := Lib.hid h
  have HA := Lib.hid (p_ahead mk M l key w h)
  have AL := Lib.hid (at_le key l)
  have HL := Lib.hid hl
  clear h hl
  go_enter Try.func54, Try.ntmps54
  go_wp2_with fail
  refine (HA.out).mono ?_
  rintro z w1 ⟨pj, rfl, hp, hb⟩
  have E0 := Lib.hid (pred_at HS.out hp)
  have HP := Lib.hid hp
  have G1 := Lib.hid hb
  have BX := Lib.hid (Box.new w1 (eightV fun t => bN M (pj t)) 85 _ rfl)
  have G2 := Lib.hid (hb.trans ((alloc_below w1 (.cells (eightV fun t => bN M (pj t)) 85)).mono hb.size))
  have LA := Lib.hid hb.size
  unfold eightV
  unfold eightV at BX G2
  clear hp hb HA
  go_upto_region 2 with fail
  obtain ⟨W2, hW2⟩ : ∃ W2, w1.alloc (.cells #[.pointer (some ⟨bN M (pj 0), 0, none⟩), .pointer (some ⟨bN M (pj 1), 0, none⟩), .pointer (some ⟨bN M (pj 2), 0, none⟩), .pointer (some ⟨bN M (pj 3), 0, none⟩), .pointer (some ⟨bN M (pj 4), 0, none⟩), .pointer (some ⟨bN M (pj 5), 0, none⟩), .pointer (some ⟨bN M (pj 6), 0, none⟩), .pointer (some ⟨bN M (pj 7), 0, none⟩)] 85) = W2 := ⟨_, rfl⟩
  obtain ⟨A, hA⟩ : ∃ A, w1.heap.size = A := ⟨_, rfl⟩
  rw [hW2, hA] at BX
  rw [hW2] at G2
  rw [hA] at LA
  rw [hW2, hA]
  have BX := Lib.hid (show Box W2 A (eightV fun t => bN M (pj t)) 85 from BX.out)
  have S2 := Lib.hid (HS.out.on G2.out)
  have c0 : W2.cell? ⟨A, 0, none⟩ = some (.pointer (some ⟨bN M (pj 0), 0, none⟩)) := BX.out.cell 0 _ rfl
  have c1 := S2.out.read0 (at_le key l)
  rw [← E0.out] at c1
  have PH := Lib.hid (p_has mk M l key W2 S2.out)
  rw [← E0.out] at PH
  clear hW2 hA G1
  cases hh : hereI l key
  · rw [hh] at PH
    have HD := Lib.hid (show dropI l key = (l, false) from by unfold dropI; rw [hh]; rfl)
    clear hh
    generalize nodeP M l (pj 0) = np at *
    go_wp2_with fail
    refine PH.out.mono ?_
    rintro z w2 ⟨rfl, rfl⟩
    clear PH
    go_wp2_with fail
    go_ret
    rw [HD.out]
    exact ⟨rfl, M, S2.out, rfl, fun i hi => .inl hi, KeptF.of G2.out⟩
  · obtain ⟨hlt, -⟩ := here_lt hh
    rw [hh] at PH
    have NP : nodeP M l (pj 0) = .pointer (some ⟨bN M (atI key l + 1), 0, none⟩) := by rw [E0.out]; exact if_pos hlt
    rw [NP] at PH c1
    have HH := Lib.hid hh
    obtain ⟨K, hK⟩ : ∃ K, atI key l + 1 = K := ⟨_, rfl⟩
    have c2 := (S2.out.key hlt).2.2.1
    rw [← (S2.out.lev hlt).1] at c2
    have LV := Lib.hid (S2.out.lev hlt).2
    have HP := Lib.hid (show ∀ t, t < 8 → PredIs (lvN M) K t (pj t) from by rw [← hK]; exact HP.out)
    rw [hK] at PH c1 c2 LV
    have HK := Lib.hid hK
    have KM := Lib.hid (show K < M.length from by rw [HS.out.len]; omega)
    clear hh hlt NP hK
    obtain ⟨lv, hlv⟩ : ∃ lv, lvN M K = lv := ⟨_, rfl⟩
    rw [hlv] at c2 LV
    have HLV := Lib.hid hlv
    obtain ⟨kb, hkb⟩ : ∃ kb, bN M K = kb := ⟨_, rfl⟩
    rw [hkb] at PH c1 c2
    have HKB := Lib.hid hkb
    clear hlv hkb
    go_wp2_with fail
    refine PH.out.mono ?_
    rintro z w2 ⟨rfl, rfl⟩
    clear PH
    go_wp2_with fail
    clear c0 c1 c2
    go_loopw [25] (fun x wr => ∃ (r : Nat) (M2 : List Nd), x = .int .i64 r ∧ r ≤ lv ∧ SameN M M2 ∧ Nodes l.length mk wr M2 ∧ (∀ i t, t < r → PredIs (lvN M) K t i → cN M2 i t = cN M K t) ∧ (∀ i t, t < lvN M i → ¬ (t < r ∧ PredIs (lvN M) K t i) → cN M2 i t = cN M i t) ∧
      Box wr A (eightV fun t => bN M (pj t)) 85 ∧ KeptF (OwnK M) w wr) (fun x _ => lv - (intOf x).toNat)
    case atStart => exact ⟨0, M, rfl, Nat.zero_le _, SameN.refl M, S2.out.nodes, fun i t ht => absurd ht (by omega), fun _ _ _ _ => rfl, BX.out, KeptF.of G2.out⟩
    case round =>
      obtain ⟨r, M2, rfl, hr, hsame, hnod, hh1, hh2, hbx, hkf⟩ := hrel
      rename World => wr
      have SM := Lib.hid hsame
      have ND := Lib.hid hnod
      have T1 := Lib.hid hh1
      have T2 := Lib.hid hh2
      have BR := Lib.hid hbx
      have KF := Lib.hid hkf
      clear hsame hnod hh1 hh2 hbx hkf
      by_cases hlt : r < lv
      · have zl : decide ((r : Int) < (lv : Int)) = true := by rw [decide_eq_true_eq]; omega
        have zn : decide (r < lv) = true := by rw [decide_eq_true_eq]; exact hlt
        have hr8 : r < 8 := by have := LV.out; omega
        have hri : (r : Int) < 8 := by omega
        have hri2 : (r : Int) < ((8 : Nat) : Int) := by omega
        have hw64 : IntKind.i64.wrap ((r : Int) + 1) = (r : Int) + 1 := by rw [IntKind.wrap_i64]; omega
        have PR := HP.out r hr8
        have TT := Lib.hid (turn_row SM.out PR T1.out T2.out)
        have d0 : wr.cell? ⟨A, r, none⟩ = some (.pointer (some ⟨bN M (pj r), 0, none⟩)) := by
          refine BR.out.cell r _ ?_
          rcases (show r = 0 ∨ r = 1 ∨ r = 2 ∨ r = 3 ∨ r = 4 ∨ r = 5 ∨ r = 6 ∨ r = 7 from by omega) with rfl | rfl | rfl | rfl | rfl | rfl | rfl | rfl <;> rfl
        have hkr : r < lvN M K := by rw [HLV.out]; exact hlt
        have d1 := ND.out.reads (i := K) (r := r) (by rw [SM.out.lv]; exact hkr)
        rw [SM.out.bb, T2.out K r hkr (fun h => by have := h.2.lt; omega), HKB.out] at d1
        have hpr : r < lvN M2 (pj r) := by rw [SM.out.lv]; exact PR.lev
        have d2 := ND.out.reads hpr
        have f2 := ND.out.frozen (lvN_pos hpr) (4 + r)
        have N2 := Lib.hid (ND.out.set hpr (cN M K r))
        have PO := Lib.hid (bn_own (M := M) (by have := PR.lev; exact lvN_pos this))
        have PA := Lib.hid (show A ≠ bN M (pj r) from fun e => by
          have hq := (HS.out.nodes.at' _ _ (List.getElem?_eq_getElem (lvN_pos PR.lev))).lt
          rw [← bN_at, ← e] at hq
          have := LA.out
          omega)
        rw [SM.out.bb] at d2 f2 N2
        generalize cN M2 (pj r) r = uold at *
        obtain ⟨pp, hu⟩ : ∃ pp, cN M K r = .pointer pp := by
          obtain ⟨o, -, ho⟩ := HS.out.link K r hkr
          rw [ho]
          cases o <;> exact ⟨_, rfl⟩
        rw [hu] at d1 N2 TT
        obtain ⟨pb, hpb⟩ : ∃ pb, bN M (pj r) = pb := ⟨_, rfl⟩
        rw [hpb] at d0 d2 f2 N2 PO PA
        have SM2 := Lib.hid (SM.out.trans (same_set M2 (pj r) r (.pointer pp)))
        have BR2 := Lib.hid (show Box (wr.drew.setCell ⟨pb, 4 + r, none⟩ (.pointer pp)) A _ _ from (show Box wr.drew A _ _ from BR.out).other ⟨pb, 4 + r, none⟩ (.pointer pp) PA.out)
        have KF2 := Lib.hid (KF.out.drew.set (.inl PO.out) (4 + r) (.pointer pp))
        have N3 := Lib.hid (show Nodes l.length mk (wr.drew.setCell ⟨pb, 4 + r, none⟩ (.pointer pp)) (setN M2 (pj r) r (.pointer pp)) from ⟨N2.out.at', N2.out.bs⟩)
        have HLT := Lib.hid hlt
        clear PR hkr hpr hlt hpb hu
        go_upto_region 8 with fail
        have HI : (fun W => W = wr.drew) wr.drew := rfl
        refine regk_start [13] (fun W => W = wr.drew) (by kernel_rfl) ?_
        refine regk_free 0 28 (v := ?_) (T' := ?_) (fun _ => HI) (by kernel_rfl) (by kernel_rfl) (by kernel_rfl) (by kernel_rfl) (fun _ _ _ h => h) (fun o ho => ?_) ?_ ?_
        rotate_left 2
        · cases ho
          refine ⟨rfl, rfl, fun W => ?_⟩
          go_simp; (try with_reducible rfl)
        · simp only [List.setIfInBounds_toArray, List.set_cons_succ, List.set_cons_zero]; exact rfl
        refine regk_free 1 29 (v := ?_) (T' := ?_) (fun _ => HI) (by kernel_rfl) (by kernel_rfl) (by kernel_rfl) (by kernel_rfl) (fun _ _ _ h => h) (fun o ho => ?_) ?_ ?_
        rotate_left 2
        · cases ho
          refine ⟨rfl, rfl, fun W => ?_⟩
          go_simp; (try with_reducible rfl)
        · simp only [List.setIfInBounds_toArray, List.set_cons_succ, List.set_cons_zero]; exact rfl
        refine regk_take 2 30 (v := ?_) (T' := ?_) HI (by kernel_rfl) (by kernel_rfl) (by kernel_rfl) (by kernel_rfl) (by kernel_rfl) (by kernel_rfl) (fun _ _ _ h => h) (fun o ho => ?_) ?_ ?_
        rotate_left 2
        · cases ho
          refine ⟨rfl, rfl, fun W hW => ?_⟩
          have hW := (show W = _ from hW); subst hW; go_simp; (try with_reducible rfl)
        · simp only [List.setIfInBounds_toArray, List.set_cons_succ, List.set_cons_zero]; exact rfl
        refine regk_free 3 31 (v := ?_) (T' := ?_) (fun _ => HI) (by kernel_rfl) (by kernel_rfl) (by kernel_rfl) (by kernel_rfl) (fun _ _ _ h => h) (fun o ho => ?_) ?_ ?_
        rotate_left 2
        · cases ho
          refine ⟨rfl, rfl, fun W => ?_⟩
          go_simp; (try with_reducible rfl)
        · simp only [List.setIfInBounds_toArray, List.set_cons_succ, List.set_cons_zero]; exact rfl
        refine regk_free 4 32 (v := ?_) (T' := ?_) (fun _ => HI) (by kernel_rfl) (by kernel_rfl) (by kernel_rfl) (by kernel_rfl) (fun _ _ _ h => h) (fun o ho => ?_) ?_ ?_
        rotate_left 2
        · cases ho
          refine ⟨rfl, rfl, fun W => ?_⟩
          go_simp; (try with_reducible rfl)
        · simp only [List.setIfInBounds_toArray, List.set_cons_succ, List.set_cons_zero]; exact rfl
        refine regk_free 5 33 (v := ?_) (T' := ?_) (fun _ => HI) (by kernel_rfl) (by kernel_rfl) (by kernel_rfl) (by kernel_rfl) (fun _ _ _ h => h) (fun o ho => ?_) ?_ ?_
        rotate_left 2
        · cases ho
          refine ⟨rfl, rfl, fun W => ?_⟩
          go_simp; (try with_reducible rfl)
        · simp only [List.setIfInBounds_toArray, List.set_cons_succ, List.set_cons_zero]; exact rfl
        refine regk_take 6 34 (v := ?_) (T' := ?_) HI (by kernel_rfl) (by kernel_rfl) (by kernel_rfl) (by kernel_rfl) (by kernel_rfl) (by kernel_rfl) (fun _ _ _ h => h) (fun o ho => ?_) ?_ ?_
        rotate_left 2
        · cases ho
          refine ⟨rfl, rfl, fun W hW => ?_⟩
          have hW := (show W = _ from hW); subst hW; go_simp; (try with_reducible rfl)
        · simp only [List.setIfInBounds_toArray, List.set_cons_succ, List.set_cons_zero]; exact rfl
        refine regk_free 7 35 (v := ?_) (T' := ?_) (fun _ => HI) (by kernel_rfl) (by kernel_rfl) (by kernel_rfl) (by kernel_rfl) (fun _ _ _ h => h) (fun o ho => ?_) ?_ ?_
        rotate_left 2
        · cases ho
          refine ⟨rfl, rfl, fun W => ?_⟩
          go_simp; (try with_reducible rfl)
        · simp only [List.setIfInBounds_toArray, List.set_cons_succ, List.set_cons_zero]; exact rfl
        refine regk_free 8 36 (v := ?_) (T' := ?_) (fun _ => HI) (by kernel_rfl) (by kernel_rfl) (by kernel_rfl) (by kernel_rfl) (fun _ _ _ h => h) (fun o ho => ?_) ?_ ?_
        rotate_left 2
        · cases ho
          refine ⟨rfl, rfl, fun W => ?_⟩
          go_simp; (try with_reducible rfl)
        · simp only [List.setIfInBounds_toArray, List.set_cons_succ, List.set_cons_zero]; exact rfl
        refine regk_take 9 37 (v := ?_) (T' := ?_) HI (by kernel_rfl) (by kernel_rfl) (by kernel_rfl) (by kernel_rfl) (by kernel_rfl) (by kernel_rfl) (fun _ _ _ h => h) (fun o ho => ?_) ?_ ?_
        rotate_left 2
        · cases ho
          refine ⟨rfl, rfl, fun W hW => ?_⟩
          have hW := (show W = _ from hW); subst hW; go_simp; (try with_reducible rfl)
        · simp only [List.setIfInBounds_toArray, List.set_cons_succ, List.set_cons_zero]; exact rfl
        refine regk_take 10 38 (v := ?_) (T' := ?_) HI (by kernel_rfl) (by kernel_rfl) (by kernel_rfl) (by kernel_rfl) (by kernel_rfl) (by kernel_rfl) (fun _ _ _ h => h) (fun o ho => ?_) ?_ ?_
        rotate_left 2
        · cases ho
          refine ⟨rfl, rfl, fun W hW => ?_⟩
          have hW := (show W = _ from hW); subst hW; go_simp; (try with_reducible rfl)
        · simp only [List.setIfInBounds_toArray, List.set_cons_succ, List.set_cons_zero]; exact rfl
        refine regk_free 11 39 (v := ?_) (T' := ?_) (fun _ => HI) (by kernel_rfl) (by kernel_rfl) (by kernel_rfl) (by kernel_rfl) (fun _ _ _ h => h) (fun o ho => ?_) ?_ ?_
        rotate_left 2
        · cases ho
          refine ⟨rfl, rfl, fun W => ?_⟩
          go_simp; (try with_reducible rfl)
        · simp only [List.setIfInBounds_toArray, List.set_cons_succ, List.set_cons_zero]; exact rfl
        refine regk_free 12 40 (v := ?_) (T' := ?_) (fun _ => HI) (by kernel_rfl) (by kernel_rfl) (by kernel_rfl) (by kernel_rfl) (fun _ _ _ h => h) (fun o ho => ?_) ?_ ?_
        rotate_left 2
        · cases ho
          refine ⟨rfl, rfl, fun W => ?_⟩
          go_simp; (try with_reducible rfl)
        · simp only [List.setIfInBounds_toArray, List.set_cons_succ, List.set_cons_zero]; exact rfl
        refine regk_store (I' := (fun W => W = wr.drew)) (fun _ h => h) 13 (w' := (wr.drew.setCell ⟨pb, 4 + r, none⟩ (.pointer pp))) (by kernel_rfl) (fun o ho => ?_) (noB_no (by kernel_rfl)) ?_
        · cases ho
          refine ⟨rfl, rfl, ?_⟩
          go_simp; (try with_reducible rfl)
        refine regk_done (by kernel_rfl) ?_
        go_wp2_with fail
        go_roundw
        case rel => exact ⟨r + 1, _, by go_num, HLT.out, SM2.out, N3.out, TT.out.1, TT.out.2, BR2.out, KF2.out⟩
        case measure => have := HLT.out; simp [intOf]; omega
      · obtain rfl : r = lv := by omega
        have DR := Lib.hid (show dropI l key = ((dropI l key).1, true) from by unfold dropI; rw [if_pos HH.out])
        have hK2 := HK.out
        have hKl : K - 1 < l.length := by have := KM.out; have := HS.out.len; omega
        have hl1 : 1 ≤ l.length := by omega
        have hKM2 : K < M2.length := by rw [SM.out.len]; exact KM.out
        have ek : bN M2 K = kb := by rw [SM.out.bb]; exact HKB.out
        have e0 : bN M2 0 = bN M 0 := by rw [SM.out.bb]
        have h08 : lvN M2 0 = 8 := by rw [SM.out.lv]; exact HS.out.lv0
        have ed : delN M2 K = delN M2 (atI key l + 1) := by rw [hK2]
        have b0 : bN (delN M2 (atI key l + 1)) 0 = bN M 0 := by rw [bN_del (by omega), delV_lt (by omega), e0]
        have l0 : lvN (delN M2 (atI key l + 1)) 0 = 8 := by rw [lvN_del (by omega), delV_lt (by omega), h08]
        have hoff : ∀ (i : Nat) (x : Nd), (delN M2 (atI key l + 1))[i]? = some x → x.b ≠ kb := fun i x hx e => by
          rw [delN_get (by omega)] at hx
          rw [← ek, bN_at hKM2] at e
          split at hx
          · have := ND.out.bs _ _ _ _ hx (List.getElem?_eq_getElem hKM2) e
            omega
          · have := ND.out.bs _ _ _ _ hx (List.getElem?_eq_getElem hKM2) e
            omega
        have N4 := (ND.out.del (K := atI key l) (by omega)).off hoff 2 (.int .i64 0)
        have N5 := N4.keys l0 ((l.length : Int) - 1)
        have z12 := (N4.tail l0).1
        have g12 := N4.frozen (lvN_pos (M := delN M2 (atI key l + 1)) (i := 0) (r := 0) (by omega)) 12
        rw [b0] at N5 z12 g12
        have N5 := Lib.hid N5
        have SKF := Lib.hid (fun W hn => sk_drop (W := W) HS.out (key := key) HH.out SM.out hn (fun i t hi ht htK hp => by rw [hK2] at hp htK ⊢; exact T1.out i t (by rw [← HLV.out]; exact htK) hp) (fun i t ht hp => by rw [hK2, HLV.out] at hp; exact T2.out i t ht hp))
        have hbk := ND.out.at' K _ (List.getElem?_eq_getElem hKM2)
        rw [← bN_at hKM2, ek] at hbk
        obtain ⟨K', rfl⟩ : ∃ K', K = K' + 1 := ⟨K - 1, by omega⟩
        obtain ⟨vold, q2⟩ : ∃ v, wr.cell? ⟨kb, 2, none⟩ = some v := ⟨_, hbk.cell 2 _ rfl⟩
        have g2 := hbk.frozen 2
        have B0 := Lib.hid b0
        have OW := Lib.hid (show ∀ i, OwnK (delN M2 (atI key l + 1)) i → OwnK M i ∨ w.heap.size ≤ i from fun i hi => .inl ((SM.out.own i).1 (own_del hi)))
        have OK := Lib.hid (show OwnK M kb from by rw [← HKB.out]; exact bn_own KM.out)
        have O0 := Lib.hid (show OwnK M (bN M 0) from bn_own (by rw [HS.out.len]; omega))
        have hwl : IntKind.i64.wrap ((l.length : Int) - 1) = (l.length : Int) - 1 := by rw [IntKind.wrap_i64]; have := HL.out; omega
        clear hK2 hKl hl1 hKM2 ek e0 h08 ed b0 l0 hoff N4 hbk hlt hr
        go_wp2_with fail
        go_ret
        exact ⟨by rw [DR.out]; rfl, _, SKF.out _ N5.out, B0.out, OW.out, (KF.out.set (.inl OK.out) 2 (.int .i64 0)).set (.inl O0.out) 12 _⟩
end Go.Proofs.Ytigdkflknhdbgaa.Skp
