/- Layer 13 (the list of layer 12, of slices of versions), the project's: Put. -/
import Derived.Test.YtigdkflknhdbgaaKi
namespace Go.Proofs.Ytigdkflknhdbgaa.Skp
open Go.RowKit
set_option linter.unusedVariables false

def nodeH (key : ByteArray) (v : Sl) (m mk : Nat) : List Value := [.string key, .slice v.a v.n v.c, .int .i64 m, .int .i64 ((mk : Int) + 1)]
theorem clamp_nat (lv : Int) : ∃ m : Nat, (if 8 < (if lv < 1 then 1 else lv) then 8 else (if lv < 1 then 1 else lv)) = (m : Int) ∧ clampI lv = (m : Int) ∧ 1 ≤ m ∧ m ≤ 8 := by
  unfold clampI
  by_cases h1 : lv < 1
  · simp only [h1, if_true]
    exact ⟨1, rfl, rfl, by decide, by decide⟩
  · simp only [h1, if_false]
    by_cases h2 : 8 < lv
    · simp only [h2, if_true]
      exact ⟨8, rfl, rfl, by decide, by decide⟩
    · simp only [h2, if_false]
      exact ⟨lv.toNat, by omega, by omega, by omega, by omega⟩
theorem head_set (key : ByteArray) (v : Sl) (m mk r : Nat) (cs : List Value) (u : Value) : (nodeH key v m mk ++ cs).toArray.setIfInBounds (4 + r) u = (nodeH key v m mk ++ cs.set r u).toArray := by
  unfold nodeH
  rw [show 4 + r = r + 4 by omega]
  simp only [List.setIfInBounds_toArray, List.cons_append, List.nil_append, List.set_cons_succ]
theorem head_at (key : ByteArray) (v : Sl) (m mk r : Nat) (cs : List Value) : (nodeH key v m mk ++ cs).toArray[4 + r]? = cs[r]? := by
  unfold nodeH
  rw [show 4 + r = r + 4 by omega]
  simp only [List.getElem?_toArray, List.cons_append, List.nil_append, List.getElem?_cons_succ]
/-- The new node, when all its rows are laid. -/
theorem head_cells (B : Nat) (key : ByteArray) (v : Sl) (m mk : Nat) (cs : List Value) (k : Int) (hl : cs.length = 8) (hm : m ≤ 8) (hn : ∀ t, m ≤ t → t < 8 → cs[t]? = some nilP) :
    (nodeH key v m mk ++ cs).toArray = (cellsN k ((mk : Int) + 1) 1 ⟨B, mk + 1, key, .slice v.a v.n v.c, cs.take m⟩).toArray := by
  have hl2 : (cs.take m).length = m := by rw [List.length_take]; omega
  have e : cs = cs.take m ++ List.replicate (8 - m) nilP := by
    refine List.ext_getElem? fun t => ?_
    rcases Nat.lt_or_ge t m with h | h
    · rw [List.getElem?_append_left (by omega), List.getElem?_take, if_pos h]
    · rw [List.getElem?_append_right (by omega), hl2, List.getElem?_replicate]
      rcases Nat.lt_or_ge t 8 with h8 | h8
      · rw [if_pos (by omega)]; exact hn t h h8
      · rw [if_neg (by omega)]; exact List.getElem?_eq_none (by omega)
  unfold cellsN nodeH
  simp only [lvlN, hl2, tailN, List.append_nil]
  rw [← e]
  simp
set_option maxHeartbeats 4000000 in
set_option maxRecDepth 100000 in
theorem p_put (mk : Nat) (M : List Nd) (l : List It) (key : ByteArray) (lv : Int) (v : Sl) (w : World) (h : SkM mk w M l) (hm : mk ≤ 100000) (hl : l.length ≤ 1000) (hlv : inK lv) :
    Calls Try.prog 41 #[.pointer (some ⟨bN M 0, 0, none⟩), .string key, .int .i64 lv, .slice v.a v.n v.c] w fun z w' => z = .returned (.bool (putI l key lv v).2) ∧ ∃ mk' M', mk' ≤ mk + 1 ∧ (hereI l key = true → mk' = mk) ∧ SkM mk' w' M' (putI l key lv v).1 ∧ bN M' 0 = bN M 0 ∧ (∀ i, OwnK M' i → OwnK M i ∨ w.heap.size ≤ i) ∧ KeptF (OwnK M) w w' := by
  have HS := Lib.hid h
  have HA := Lib.hid (p_ahead mk M l key w h)
  have AL := Lib.hid (at_le key l)
  have HL := Lib.hid hl
  have HMK := Lib.hid hm
  clear h hl hm hlv
  go_enter Try.func41, Try.ntmps41
  go_wp2_with fail
  refine (HA.out).mono ?_
  rintro z w1 ⟨pj, rfl, hp, hb⟩
  have E0 := Lib.hid (pred_at HS.out hp)
  have HP := Lib.hid hp
  have G1 := Lib.hid hb
  have BX := Lib.hid (Box.new w1 (eightV fun t => bN M (pj t)) 85 _ rfl)
  have G2 := Lib.hid (hb.trans ((alloc_below w1 (.cells (eightV fun t => bN M (pj t)) 85)).mono hb.size))
  have LA := Lib.hid hb.size
  unfold eightV
  unfold eightV at BX G2
  clear hp hb HA
  go_upto_region 2 with fail
  obtain ⟨W2, hW2⟩ : ∃ W2, w1.alloc (.cells #[.pointer (some ⟨bN M (pj 0), 0, none⟩), .pointer (some ⟨bN M (pj 1), 0, none⟩), .pointer (some ⟨bN M (pj 2), 0, none⟩), .pointer (some ⟨bN M (pj 3), 0, none⟩), .pointer (some ⟨bN M (pj 4), 0, none⟩), .pointer (some ⟨bN M (pj 5), 0, none⟩), .pointer (some ⟨bN M (pj 6), 0, none⟩), .pointer (some ⟨bN M (pj 7), 0, none⟩)] 85) = W2 := ⟨_, rfl⟩
  obtain ⟨A, hA⟩ : ∃ A, w1.heap.size = A := ⟨_, rfl⟩
  rw [hW2, hA] at BX
  rw [hW2] at G2
  rw [hA] at LA
  rw [hW2, hA]
  have BX := Lib.hid (show Box W2 A (eightV fun t => bN M (pj t)) 85 from BX.out)
  have S2 := Lib.hid (HS.out.on G2.out)
  have c0 : W2.cell? ⟨A, 0, none⟩ = some (.pointer (some ⟨bN M (pj 0), 0, none⟩)) := BX.out.cell 0 _ rfl
  have c1 := S2.out.read0 (at_le key l)
  rw [← E0.out] at c1
  have PH := Lib.hid (p_has mk M l key W2 S2.out)
  rw [← E0.out] at PH
  clear hW2 hA G1
  cases hh : hereI l key
  case' true =>
    obtain ⟨hlt, -⟩ := here_lt hh
    rw [hh] at PH
    have NP : nodeP M l (pj 0) = .pointer (some ⟨bN M (atI key l + 1), 0, none⟩) := by rw [E0.out]; exact if_pos hlt
    rw [NP] at PH c1
    have PR := Lib.hid (show putI l key lv v = ((putI l key lv v).1, false) from by unfold putI; rw [if_pos hh])
    have hKM : atI key l + 1 < M.length := by rw [HS.out.len]; omega
    have c2 := (S2.out.key hlt).2.1
    have f2 := S2.out.nodes.frozen hKM 1
    have SV := Lib.hid (sk_val S2.out lv v hh)
    have KF := Lib.hid ((KeptF.of (S := OwnK M) G2.out).set (.inl (bn_own hKM)) 1 (.slice v.a v.n v.c))
    have HKM := Lib.hid hKM
    obtain ⟨kb, hkb⟩ : ∃ kb, bN M (atI key l + 1) = kb := ⟨_, rfl⟩
    rw [hkb] at PH c1 c2 f2 KF SV
    generalize (l[atI key l]'hlt).v = vold at *
    clear hh NP hKM hkb hlt
    go_wp2_with fail
    refine PH.out.mono ?_
    rintro z w2 ⟨rfl, rfl⟩
    clear PH
    go_wp2_with fail
    go_ret
    exact ⟨by rw [PR.out]; rfl, mk, _, Nat.le_succ _, fun _ => rfl, SV.out, by rw [bN_val], fun i hi => .inl ((own_val _ _ _ i).1 hi), KF.out⟩
  case' false =>
    rw [hh] at PH
    have HH := Lib.hid hh
    obtain ⟨np, hnp⟩ : ∃ np, nodeP M l (pj 0) = np := ⟨_, rfl⟩
    rw [hnp] at PH c1
    have z12 := (S2.out.nodes.tail S2.out.lv0).1
    have hML : 0 < M.length := by rw [HS.out.len]; omega
    have g12 := S2.out.nodes.frozen hML 12
    have N3 := Lib.hid (S2.out.nodes.keys S2.out.lv0 ((l.length : Int) + 1))
    have z13 := (N3.out.tail S2.out.lv0).2
    have g13 := N3.out.frozen hML 13
    have N4 := Lib.hid (N3.out.made S2.out.lv0 ((mk : Int) + 1))
    have z14 := (N4.out.tail S2.out.lv0).2
    have hwl : IntKind.i64.wrap ((l.length : Int) + 1) = (l.length : Int) + 1 := by rw [IntKind.wrap_i64]; have := HL.out; omega
    have hwm : IntKind.i64.wrap ((mk : Int) + 1) = (mk : Int) + 1 := by rw [IntKind.wrap_i64]; have := HMK.out; omega
    have O0 := Lib.hid (show OwnK M (bN M 0) from bn_own hML)
    have KF := Lib.hid (((KeptF.of (S := OwnK M) G2.out).set (.inl O0.out) 12 (.int .i64 ((l.length : Int) + 1))).set (.inl O0.out) 13 (.int .i64 ((mk : Int) + 1)))
    have HNP := Lib.hid hnp
    clear hh hML hnp
    go_wp2_with fail
    refine PH.out.mono ?_
    rintro z w2 ⟨rfl, rfl⟩
    clear PH c0 c1
    go_upto_region 9 with fail
    obtain ⟨m, hm1, hm2, hm3, hm4⟩ := clamp_nat lv
    rw [hm1]
    clear hm1
    generalize (if lv < 1 then (1 : Int) else lv) = l46
    have CL := Lib.hid hm2
    have M1 := Lib.hid hm3
    have M8 := Lib.hid hm4
    obtain ⟨W4, hW4⟩ : ∃ W4, (w2.setCell ⟨bN M 0, 12, none⟩ (.int .i64 ((l.length : Int) + 1))).setCell ⟨bN M 0, 13, none⟩ (.int .i64 ((mk : Int) + 1)) = W4 := ⟨_, rfl⟩
    rw [hW4] at N4 KF z14
    rw [hW4]
    have hsz : W4.heap.size = w2.heap.size := by rw [← hW4]; simp [World.setCell]
    have BA := Lib.hid (show Box W4 A _ _ from by
      rw [← hW4]
      exact (BX.out.other ⟨bN M 0, 12, none⟩ _ (fun e => by
        have hq := (HS.out.nodes.at' _ _ (List.getElem?_eq_getElem (show 0 < M.length by rw [HS.out.len]; omega))).lt
        rw [← bN_at] at hq
        simp only at e
        have := LA.out
        omega)).other ⟨bN M 0, 13, none⟩ _ (fun e => by
        have hq := (HS.out.nodes.at' _ _ (List.getElem?_eq_getElem (show 0 < M.length by rw [HS.out.len]; omega))).lt
        rw [← bN_at] at hq
        simp only at e
        have := LA.out
        omega))
    rw [← hsz]
    obtain ⟨B, hB⟩ : ∃ B, W4.heap.size = B := ⟨_, rfl⟩
    have BZ := Lib.hid (Box.new W4 #[.string key, .slice v.a v.n v.c, .int .i64 (m : Int), .int .i64 ((mk : Int) + 1), .pointer none, .pointer none, .pointer none, .pointer none, .pointer none, .pointer none, .pointer none, .pointer none] 87 B hB.symm)
    have KF := Lib.hid (KF.out.trans (alloc_below W4 (.cells #[.string key, .slice v.a v.n v.c, .int .i64 (m : Int), .int .i64 ((mk : Int) + 1), .pointer none, .pointer none, .pointer none, .pointer none, .pointer none, .pointer none, .pointer none, .pointer none] 87)))
    have N5 := Lib.hid (N4.out.on (alloc_below W4 (.cells #[.string key, .slice v.a v.n v.c, .int .i64 (m : Int), .int .i64 ((mk : Int) + 1), .pointer none, .pointer none, .pointer none, .pointer none, .pointer none, .pointer none, .pointer none, .pointer none] 87)))
    have BA5 := Lib.hid (BA.out.alloc (.cells #[.string key, .slice v.a v.n v.c, .int .i64 (m : Int), .int .i64 ((mk : Int) + 1), .pointer none, .pointer none, .pointer none, .pointer none, .pointer none, .pointer none, .pointer none, .pointer none] 87))
    have AB := Lib.hid (show A < B from by rw [← hB]; exact BA.out.lt)
    have MB := Lib.hid (show ∀ i, i < M.length → bN M i < w.heap.size from fun i hi => by rw [bN_at hi]; exact (HS.out.nodes.at' _ _ (List.getElem?_eq_getElem hi)).lt)
    have WA := Lib.hid (show w.heap.size ≤ A from LA.out)
    rw [hB]
    obtain ⟨W5, hW5⟩ : ∃ W5, W4.alloc (.cells #[.string key, .slice v.a v.n v.c, .int .i64 (m : Int), .int .i64 ((mk : Int) + 1), .pointer none, .pointer none, .pointer none, .pointer none, .pointer none, .pointer none, .pointer none, .pointer none] 87) = W5 := ⟨_, rfl⟩
    rw [hW5] at BZ KF N5 BA5
    rw [hW5]
    have c2 : W5.cell? ⟨B, 2, none⟩ = some (.int .i64 (m : Int)) := BZ.out.cell 2 _ rfl
    obtain ⟨K, hK⟩ : ∃ K, atI key l + 1 = K := ⟨_, rfl⟩
    have HP := Lib.hid (show ∀ t, t < 8 → PredIs (lvN M) K t (pj t) from by rw [← hK]; exact HP.out)
    have HK := Lib.hid hK
    clear hm2 hm3 hm4 hW4 hsz hB hW5 hK z12 z13 z14 g12 g13 N3 N4 BA BX LA
    go_wp2_with fail
    clear c2
    go_loopw [58] (fun x wr => ∃ (r : Nat) (M2 : List Nd) (cs : List Value), x = .int .i64 r ∧ r ≤ m ∧ SameN M M2 ∧ Nodes ((l.length : Int) + 1) ((mk : Int) + 1) wr M2 ∧ (∀ i t, t < r → PredIs (lvN M) K t i → cN M2 i t = .pointer (some ⟨B, 0, none⟩)) ∧ (∀ i t, t < lvN M i → ¬ (t < r ∧ PredIs (lvN M) K t i) → cN M2 i t = cN M i t) ∧
      cs.length = 8 ∧ (∀ t, t < r → ∃ p, PredIs (lvN M) K t p ∧ cs[t]? = some (cN M p t)) ∧ (∀ t, r ≤ t → t < 8 → cs[t]? = some nilP) ∧ Box wr B (nodeH key v m mk ++ cs).toArray 87 ∧
      Box wr A (eightV fun t => bN M (pj t)) 85 ∧ KeptF (OwnK M) w wr) (fun x _ => m - (intOf x).toNat)
    case atStart => exact ⟨0, M, List.replicate 8 nilP, rfl, Nat.zero_le _, SameN.refl M, N5.out, fun i t ht => absurd ht (by omega), fun _ _ _ _ => rfl, rfl, fun t ht => absurd ht (by omega), fun t _ ht => by rw [List.getElem?_replicate, if_pos ht], BZ.out, BA5.out, KF.out⟩
    case round =>
      obtain ⟨r, M2, cs, rfl, hr, hsame, hnod, hh1, hh2, hcl, hc1, hc2, hbz, hbx, hkf⟩ := hrel
      rename World => wr
      have SM := Lib.hid hsame
      have ND := Lib.hid hnod
      have T1 := Lib.hid hh1
      have T2 := Lib.hid hh2
      have CLN := Lib.hid hcl
      have C1 := Lib.hid hc1
      have C2 := Lib.hid hc2
      have ZR := Lib.hid hbz
      have BR := Lib.hid hbx
      have KR := Lib.hid hkf
      clear hsame hnod hh1 hh2 hcl hc1 hc2 hbz hbx hkf
      by_cases hlt : r < m
      · have zl : decide ((r : Int) < (m : Int)) = true := by rw [decide_eq_true_eq]; omega
        have zn : decide (r < m) = true := by rw [decide_eq_true_eq]; exact hlt
        have hr8 : r < 8 := by have := M8.out; omega
        have hri : (r : Int) < 8 := by omega
        have hw64 : IntKind.i64.wrap ((r : Int) + 1) = (r : Int) + 1 := by rw [IntKind.wrap_i64]; omega
        have PR := HP.out r hr8
        have hpM := lvN_pos PR.lev
        have TT := Lib.hid (turn_row (T := fun _ => .pointer (some ⟨B, 0, none⟩)) SM.out PR T1.out T2.out)
        have d0 : wr.cell? ⟨A, r, none⟩ = some (.pointer (some ⟨bN M (pj r), 0, none⟩)) := by
          refine BR.out.cell r _ ?_
          rcases (show r = 0 ∨ r = 1 ∨ r = 2 ∨ r = 3 ∨ r = 4 ∨ r = 5 ∨ r = 6 ∨ r = 7 from by omega) with rfl | rfl | rfl | rfl | rfl | rfl | rfl | rfl <;> rfl
        have d3 : wr.cell? ⟨B, 4 + r, none⟩ = some nilP := ZR.out.cell (4 + r) _ (by rw [head_at]; exact C2.out r (Nat.le_refl _) hr8)
        have f3 := ZR.out.frozen (4 + r)
        have hpr : r < lvN M2 (pj r) := by rw [SM.out.lv]; exact PR.lev
        have d2 := ND.out.reads hpr
        rw [T2.out (pj r) r PR.lev (fun h => by have := h.1; omega)] at d2
        have f2 := ND.out.frozen (lvN_pos hpr) (4 + r)
        have hoff : ∀ (i : Nat) (x : Nd), M2[i]? = some x → x.b ≠ B := fun i x hx e => by
          have hi := (List.getElem?_eq_some_iff.1 hx).1
          have h1 : bN M2 i = x.b := by unfold bN; rw [hx]; rfl
          rw [SM.out.bb] at h1
          have := MB.out i (by rw [← SM.out.len]; exact hi)
          have := AB.out
          have := WA.out
          omega
        obtain ⟨pp, hu⟩ : ∃ pp, cN M (pj r) r = .pointer pp := by
          obtain ⟨o, -, ho⟩ := HS.out.link (pj r) r PR.lev
          rw [ho]
          cases o <;> exact ⟨_, rfl⟩
        have NN := Lib.hid ((ND.out.off hoff (4 + r) (.pointer pp)).set hpr (.pointer (some ⟨B, 0, none⟩)))
        have PO := Lib.hid (bn_own (M := M) hpM)
        have PL := Lib.hid (MB.out _ hpM)
        have CN := Lib.hid (show ∀ t, t < r + 1 → ∃ p, PredIs (lvN M) K t p ∧ (cs.set r (.pointer pp))[t]? = some (cN M p t) from fun t ht => by
          rcases Nat.eq_or_lt_of_le (Nat.lt_succ_iff.1 ht) with rfl | h3
          · exact ⟨_, PR, by rw [hu, List.getElem?_set_self (by rw [CLN.out]; exact hr8)]⟩
          · obtain ⟨p, hp1, hp2⟩ := C1.out t h3
            exact ⟨p, hp1, by rw [List.getElem?_set_ne (by omega)]; exact hp2⟩)
        have CZ := Lib.hid (show ∀ t, r + 1 ≤ t → t < 8 → (cs.set r (.pointer pp))[t]? = some nilP from fun t h1 h2 => by
          rw [List.getElem?_set_ne (by omega)]
          exact C2.out t (by omega) h2)
        rw [SM.out.bb] at d2 f2 NN
        rw [hu] at d2
        obtain ⟨pb, hpb⟩ : ∃ pb, bN M (pj r) = pb := ⟨_, rfl⟩
        rw [hpb] at d0 d2 f2 NN PO PL
        have nAB : A ≠ B := by have := AB.out; omega
        have nPB : pb ≠ B := by have := AB.out; have := WA.out; have := PL.out; omega
        have nPA : pb ≠ A := by have := WA.out; have := PL.out; omega
        have nBA : B ≠ A := fun e => nAB e.symm
        have nBP : B ≠ pb := fun e => nPB e.symm
        have j2 : (wr.setCell ⟨B, 4 + r, none⟩ (.pointer pp)).cell? ⟨pb, 4 + r, none⟩ = some (.pointer pp) := by
          exact (World.cell?_setCell_other (w := wr) (a := ⟨B, 4 + r, none⟩) (b := ⟨pb, 4 + r, none⟩) (v := .pointer pp) (by simp)).trans d2
        have j0 : (wr.setCell ⟨B, 4 + r, none⟩ (.pointer pp)).cell? ⟨A, r, none⟩ = some (.pointer (some ⟨pb, 0, none⟩)) := by
          exact (World.cell?_setCell_other (w := wr) (a := ⟨B, 4 + r, none⟩) (b := ⟨A, r, none⟩) (v := .pointer pp) (by simp)).trans d0
        have HI : (fun W : World => W.cell? ⟨A, r, none⟩ = some (.pointer (some ⟨pb, 0, none⟩)) ∧ W.cell? ⟨pb, 4 + r, none⟩ = some (.pointer pp)) wr.drew := ⟨d0, d2⟩
        have HI2 : (fun W : World => W.cell? ⟨A, r, none⟩ = some (.pointer (some ⟨pb, 0, none⟩)) ∧ W.cell? ⟨pb, 4 + r, none⟩ = some (.pointer pp)) (wr.drew.setCell ⟨B, 4 + r, none⟩ (.pointer pp)) := ⟨j0, j2⟩
        have ZN := Lib.hid (show Box ((wr.drew.setCell ⟨B, 4 + r, none⟩ (.pointer pp)).setCell ⟨pb, 4 + r, none⟩ (.pointer (some ⟨B, 0, none⟩))) B (nodeH key v m mk ++ cs.set r (.pointer pp)).toArray 87 from by
          rw [← head_set]
          exact ((show Box wr.drew B _ _ from ZR.out).set (4 + r) (.pointer pp)).other _ _ nBP)
        have BN := Lib.hid (show Box ((wr.drew.setCell ⟨B, 4 + r, none⟩ (.pointer pp)).setCell ⟨pb, 4 + r, none⟩ (.pointer (some ⟨B, 0, none⟩))) A _ _ from ((show Box wr.drew A _ _ from BR.out).other ⟨B, 4 + r, none⟩ _ nAB).other ⟨pb, 4 + r, none⟩ _ (fun e => nPA e.symm))
        have KN := Lib.hid ((KR.out.drew.set (.inr (show w.heap.size ≤ B from by have := AB.out; have := WA.out; omega)) (4 + r) (.pointer pp)).set (.inl PO.out) (4 + r) (.pointer (some ⟨B, 0, none⟩)))
        have N6 := Lib.hid (show Nodes ((l.length : Int) + 1) ((mk : Int) + 1) ((wr.drew.setCell ⟨B, 4 + r, none⟩ (.pointer pp)).setCell ⟨pb, 4 + r, none⟩ (.pointer (some ⟨B, 0, none⟩))) (setN M2 (pj r) r (.pointer (some ⟨B, 0, none⟩))) from ⟨NN.out.at', NN.out.bs⟩)
        have SM2 := Lib.hid (SM.out.trans (same_set M2 (pj r) r (.pointer (some ⟨B, 0, none⟩))))
        have CL2 := Lib.hid (show (cs.set r (.pointer pp)).length = 8 from by rw [List.length_set]; exact CLN.out)
        have HLT := Lib.hid hlt
        clear PR hpM hpr hoff hlt hpb hu NN
        unfold nilP at d3
        go_upto_region 12 with fail
        refine regk_start [22] (fun W : World => W.cell? ⟨A, r, none⟩ = some (.pointer (some ⟨pb, 0, none⟩)) ∧ W.cell? ⟨pb, 4 + r, none⟩ = some (.pointer pp)) (by kernel_rfl) ?_
        refine regk_free 0 61 (v := ?_) (T' := ?_) (fun _ => HI) (by kernel_rfl) (by kernel_rfl) (by kernel_rfl) (by kernel_rfl) (fun _ _ _ h => h) (fun o ho => ?_) ?_ ?_
        rotate_left 2
        · cases ho
          refine ⟨rfl, rfl, fun W => ?_⟩
          go_simp; (try with_reducible rfl)
        · simp only [List.setIfInBounds_toArray, List.set_cons_succ, List.set_cons_zero]; exact rfl
        refine regk_free 1 62 (v := ?_) (T' := ?_) (fun _ => HI) (by kernel_rfl) (by kernel_rfl) (by kernel_rfl) (by kernel_rfl) (fun _ _ _ h => h) (fun o ho => ?_) ?_ ?_
        rotate_left 2
        · cases ho
          refine ⟨rfl, rfl, fun W => ?_⟩
          go_simp; (try with_reducible rfl)
        · simp only [List.setIfInBounds_toArray, List.set_cons_succ, List.set_cons_zero]; exact rfl
        refine regk_free 2 63 (v := ?_) (T' := ?_) (fun _ => HI) (by kernel_rfl) (by kernel_rfl) (by kernel_rfl) (by kernel_rfl) (fun _ _ _ h => h) (fun o ho => ?_) ?_ ?_
        rotate_left 2
        · cases ho
          refine ⟨rfl, rfl, fun W => ?_⟩
          go_simp; (try with_reducible rfl)
        · simp only [List.setIfInBounds_toArray, List.set_cons_succ, List.set_cons_zero]; exact rfl
        refine regk_free 3 64 (v := ?_) (T' := ?_) (fun _ => HI) (by kernel_rfl) (by kernel_rfl) (by kernel_rfl) (by kernel_rfl) (fun _ _ _ h => h) (fun o ho => ?_) ?_ ?_
        rotate_left 2
        · cases ho
          refine ⟨rfl, rfl, fun W => ?_⟩
          go_simp; (try with_reducible rfl)
        · simp only [List.setIfInBounds_toArray, List.set_cons_succ, List.set_cons_zero]; exact rfl
        refine regk_take 4 65 (v := ?_) (T' := ?_) HI (by kernel_rfl) (by kernel_rfl) (by kernel_rfl) (by kernel_rfl) (by kernel_rfl) (by kernel_rfl) (fun _ _ _ h => h) (fun o ho => ?_) ?_ ?_
        rotate_left 2
        · cases ho
          refine ⟨rfl, rfl, fun W hW => ?_⟩
          obtain ⟨i1, i2⟩ := (show W.cell? _ = _ ∧ W.cell? _ = _ from hW)
          go_simp; (try with_reducible rfl)
        · simp only [List.setIfInBounds_toArray, List.set_cons_succ, List.set_cons_zero]; exact rfl
        refine regk_free 5 66 (v := ?_) (T' := ?_) (fun _ => HI) (by kernel_rfl) (by kernel_rfl) (by kernel_rfl) (by kernel_rfl) (fun _ _ _ h => h) (fun o ho => ?_) ?_ ?_
        rotate_left 2
        · cases ho
          refine ⟨rfl, rfl, fun W => ?_⟩
          go_simp; (try with_reducible rfl)
        · simp only [List.setIfInBounds_toArray, List.set_cons_succ, List.set_cons_zero]; exact rfl
        refine regk_free 6 67 (v := ?_) (T' := ?_) (fun _ => HI) (by kernel_rfl) (by kernel_rfl) (by kernel_rfl) (by kernel_rfl) (fun _ _ _ h => h) (fun o ho => ?_) ?_ ?_
        rotate_left 2
        · cases ho
          refine ⟨rfl, rfl, fun W => ?_⟩
          go_simp; (try with_reducible rfl)
        · simp only [List.setIfInBounds_toArray, List.set_cons_succ, List.set_cons_zero]; exact rfl
        refine regk_free 7 68 (v := ?_) (T' := ?_) (fun _ => HI) (by kernel_rfl) (by kernel_rfl) (by kernel_rfl) (by kernel_rfl) (fun _ _ _ h => h) (fun o ho => ?_) ?_ ?_
        rotate_left 2
        · cases ho
          refine ⟨rfl, rfl, fun W => ?_⟩
          go_simp; (try with_reducible rfl)
        · simp only [List.setIfInBounds_toArray, List.set_cons_succ, List.set_cons_zero]; exact rfl
        refine regk_take 8 69 (v := ?_) (T' := ?_) HI (by kernel_rfl) (by kernel_rfl) (by kernel_rfl) (by kernel_rfl) (by kernel_rfl) (by kernel_rfl) (fun _ _ _ h => h) (fun o ho => ?_) ?_ ?_
        rotate_left 2
        · cases ho
          refine ⟨rfl, rfl, fun W hW => ?_⟩
          obtain ⟨i1, i2⟩ := (show W.cell? _ = _ ∧ W.cell? _ = _ from hW)
          go_simp; (try with_reducible rfl)
        · simp only [List.setIfInBounds_toArray, List.set_cons_succ, List.set_cons_zero]; exact rfl
        refine regk_free 9 70 (v := ?_) (T' := ?_) (fun _ => HI) (by kernel_rfl) (by kernel_rfl) (by kernel_rfl) (by kernel_rfl) (fun _ _ _ h => h) (fun o ho => ?_) ?_ ?_
        rotate_left 2
        · cases ho
          refine ⟨rfl, rfl, fun W => ?_⟩
          go_simp; (try with_reducible rfl)
        · simp only [List.setIfInBounds_toArray, List.set_cons_succ, List.set_cons_zero]; exact rfl
        refine regk_take 10 71 (v := ?_) (T' := ?_) HI (by kernel_rfl) (by kernel_rfl) (by kernel_rfl) (by kernel_rfl) (by kernel_rfl) (by kernel_rfl) (fun _ _ _ h => h) (fun o ho => ?_) ?_ ?_
        rotate_left 2
        · cases ho
          refine ⟨rfl, rfl, fun W hW => ?_⟩
          obtain ⟨i1, i2⟩ := (show W.cell? _ = _ ∧ W.cell? _ = _ from hW)
          go_simp; (try with_reducible rfl)
        · simp only [List.setIfInBounds_toArray, List.set_cons_succ, List.set_cons_zero]; exact rfl
        refine regk_free 11 72 (v := ?_) (T' := ?_) (fun _ => HI) (by kernel_rfl) (by kernel_rfl) (by kernel_rfl) (by kernel_rfl) (fun _ _ _ h => h) (fun o ho => ?_) ?_ ?_
        rotate_left 2
        · cases ho
          refine ⟨rfl, rfl, fun W => ?_⟩
          go_simp; (try with_reducible rfl)
        · simp only [List.setIfInBounds_toArray, List.set_cons_succ, List.set_cons_zero]; exact rfl
        refine regk_free 12 73 (v := ?_) (T' := ?_) (fun _ => HI) (by kernel_rfl) (by kernel_rfl) (by kernel_rfl) (by kernel_rfl) (fun _ _ _ h => h) (fun o ho => ?_) ?_ ?_
        rotate_left 2
        · cases ho
          refine ⟨rfl, rfl, fun W => ?_⟩
          go_simp; (try with_reducible rfl)
        · simp only [List.setIfInBounds_toArray, List.set_cons_succ, List.set_cons_zero]; exact rfl
        refine regk_take 13 74 (v := ?_) (T' := ?_) HI (by kernel_rfl) (by kernel_rfl) (by kernel_rfl) (by kernel_rfl) (by kernel_rfl) (by kernel_rfl) (fun _ _ _ h => h) (fun o ho => ?_) ?_ ?_
        rotate_left 2
        · cases ho
          refine ⟨rfl, rfl, fun W hW => ?_⟩
          obtain ⟨i1, i2⟩ := (show W.cell? _ = _ ∧ W.cell? _ = _ from hW)
          go_simp; (try with_reducible rfl)
        · simp only [List.setIfInBounds_toArray, List.set_cons_succ, List.set_cons_zero]; exact rfl
        refine regk_free 14 75 (v := ?_) (T' := ?_) (fun _ => HI) (by kernel_rfl) (by kernel_rfl) (by kernel_rfl) (by kernel_rfl) (fun _ _ _ h => h) (fun o ho => ?_) ?_ ?_
        rotate_left 2
        · cases ho
          refine ⟨rfl, rfl, fun W => ?_⟩
          go_simp; (try with_reducible rfl)
        · simp only [List.setIfInBounds_toArray, List.set_cons_succ, List.set_cons_zero]; exact rfl
        refine regk_take 15 76 (v := ?_) (T' := ?_) HI (by kernel_rfl) (by kernel_rfl) (by kernel_rfl) (by kernel_rfl) (by kernel_rfl) (by kernel_rfl) (fun _ _ _ h => h) (fun o ho => ?_) ?_ ?_
        rotate_left 2
        · cases ho
          refine ⟨rfl, rfl, fun W hW => ?_⟩
          obtain ⟨i1, i2⟩ := (show W.cell? _ = _ ∧ W.cell? _ = _ from hW)
          go_simp; (try with_reducible rfl)
        · simp only [List.setIfInBounds_toArray, List.set_cons_succ, List.set_cons_zero]; exact rfl
        refine regk_free 16 77 (v := ?_) (T' := ?_) (fun _ => HI) (by kernel_rfl) (by kernel_rfl) (by kernel_rfl) (by kernel_rfl) (fun _ _ _ h => h) (fun o ho => ?_) ?_ ?_
        rotate_left 2
        · cases ho
          refine ⟨rfl, rfl, fun W => ?_⟩
          go_simp; (try with_reducible rfl)
        · simp only [List.setIfInBounds_toArray, List.set_cons_succ, List.set_cons_zero]; exact rfl
        refine regk_free 17 78 (v := ?_) (T' := ?_) (fun _ => HI) (by kernel_rfl) (by kernel_rfl) (by kernel_rfl) (by kernel_rfl) (fun _ _ _ h => h) (fun o ho => ?_) ?_ ?_
        rotate_left 2
        · cases ho
          refine ⟨rfl, rfl, fun W => ?_⟩
          go_simp; (try with_reducible rfl)
        · simp only [List.setIfInBounds_toArray, List.set_cons_succ, List.set_cons_zero]; exact rfl
        refine regk_take 19 79 (v := ?_) (T' := ?_) HI (by kernel_rfl) (by kernel_rfl) (by kernel_rfl) (by kernel_rfl) (by kernel_rfl) (by kernel_rfl) (fun _ _ _ h => h) (fun o ho => ?_) ?_ ?_
        rotate_left 2
        · cases ho
          refine ⟨rfl, rfl, fun W hW => ?_⟩
          obtain ⟨i1, i2⟩ := (show W.cell? _ = _ ∧ W.cell? _ = _ from hW)
          go_simp; (try with_reducible rfl)
        · simp only [List.setIfInBounds_toArray, List.set_cons_succ, List.set_cons_zero]; exact rfl
        refine regk_free 20 80 (v := ?_) (T' := ?_) (fun _ => HI) (by kernel_rfl) (by kernel_rfl) (by kernel_rfl) (by kernel_rfl) (fun _ _ _ h => h) (fun o ho => ?_) ?_ ?_
        rotate_left 2
        · cases ho
          refine ⟨rfl, rfl, fun W => ?_⟩
          go_simp; (try with_reducible rfl)
        · simp only [List.setIfInBounds_toArray, List.set_cons_succ, List.set_cons_zero]; exact rfl
        refine regk_store (I' := (fun W : World => W.cell? ⟨A, r, none⟩ = some (.pointer (some ⟨pb, 0, none⟩)) ∧ W.cell? ⟨pb, 4 + r, none⟩ = some (.pointer pp))) (fun _ h => h) 18 (w' := (wr.drew.setCell ⟨B, 4 + r, none⟩ (.pointer pp))) (by kernel_rfl) (fun o ho => ?_) (fun _ => HI2) ?_
        · cases ho
          refine ⟨rfl, rfl, ?_⟩
          go_simp; (try with_reducible rfl)
        refine regk_free 21 81 (v := ?_) (T' := ?_) (fun _ => HI2) (by kernel_rfl) (by kernel_rfl) (by kernel_rfl) (by kernel_rfl) (fun _ _ _ h => h) (fun o ho => ?_) ?_ ?_
        rotate_left 2
        · cases ho
          refine ⟨rfl, rfl, fun W => ?_⟩
          go_simp; (try with_reducible rfl)
        · simp only [List.setIfInBounds_toArray, List.set_cons_succ, List.set_cons_zero]; exact rfl
        refine regk_store (I' := (fun W : World => W.cell? ⟨A, r, none⟩ = some (.pointer (some ⟨pb, 0, none⟩)) ∧ W.cell? ⟨pb, 4 + r, none⟩ = some (.pointer pp))) (fun _ h => h) 22 (w' := ((wr.drew.setCell ⟨B, 4 + r, none⟩ (.pointer pp)).setCell ⟨pb, 4 + r, none⟩ (.pointer (some ⟨B, 0, none⟩)))) (by kernel_rfl) (fun o ho => ?_) (noB_no (by kernel_rfl)) ?_
        · cases ho
          refine ⟨rfl, rfl, ?_⟩
          go_simp; (try with_reducible rfl)
        refine regk_done (by kernel_rfl) ?_
        go_wp2_with fail
        go_roundw
        case rel => exact ⟨r + 1, _, _, by go_num, HLT.out, SM2.out, N6.out, TT.out.1, TT.out.2, CL2.out, CN.out, CZ.out, ZN.out, BN.out, KN.out⟩
        case measure => have := HLT.out; simp [intOf]; omega
      · obtain rfl : r = m := by omega
        have PT := Lib.hid (show putI l key lv v = ((putI l key lv v).1, true) from by unfold putI; rw [HH.out]; rfl)
        have hoff : ∀ (i : Nat) (x : Nd), M2[i]? = some x → x.b ≠ B := fun i x hx e => by
          have hi := (List.getElem?_eq_some_iff.1 hx).1
          have h1 : bN M2 i = x.b := by unfold bN; rw [hx]; rfl
          rw [SM.out.bb] at h1
          have := MB.out i (by rw [← SM.out.len]; exact hi)
          have := AB.out
          have := WA.out
          omega
        have hl2 : (cs.take r).length = r := by rw [List.length_take, CLN.out]; have := M8.out; omega
        have hZ := ZR.out
        rw [head_cells B key v r mk cs ((l.length : Int) + 1) CLN.out M8.out C2.out] at hZ
        have hKK := HK.out
        have SKP := Lib.hid (sk_put HS.out (lv := lv) (v := v) HH.out SM.out (x := ⟨B, mk + 1, key, .slice v.a v.n v.c, cs.take r⟩) ND.out hZ hoff rfl rfl (by simp only; rw [hl2]; exact CL.out.symm) (Nat.le_refl _)
          (fun i t _ _ ht hp => by simp only [hl2] at ht; rw [hKK] at hp; exact T1.out i t ht hp)
          (fun i t ht hp => by simp only [hl2] at hp; rw [hKK] at hp; exact T2.out i t ht hp)
          (fun t ht => by
            simp only [hl2] at ht
            rw [hKK]
            obtain ⟨p, hp1, hp2⟩ := C1.out t ht
            refine ⟨p, hp1, ?_⟩
            simp only [List.getD_eq_getElem?_getD]
            rw [List.getElem?_take, if_pos ht, hp2]
            rfl))
        have B0 := Lib.hid (show bN (insN M2 (atI key l + 1) ⟨B, mk + 1, key, .slice v.a v.n v.c, cs.take r⟩) 0 = bN M 0 from by
          rw [bN_ins _ (by rw [SM.out.len, HS.out.len]; have := AL.out; omega), insV_lt (by omega), SM.out.bb])
        have OW := Lib.hid (show ∀ i, OwnK (insN M2 (atI key l + 1) ⟨B, mk + 1, key, .slice v.a v.n v.c, cs.take r⟩) i → OwnK M i ∨ w.heap.size ≤ i from fun i hi => by
          rcases own_ins hi with h | h
          · exact .inl ((SM.out.own i).1 h)
          · simp only at h
            have := AB.out
            have := WA.out
            exact .inr (by omega))
        clear hoff hl2 hZ hKK hlt hr
        go_wp2_with fail
        go_ret
        exact ⟨by rw [PT.out]; rfl, mk + 1, _, Nat.le_refl _, (fun h => by rw [HH.out] at h; cases h), SKP.out, B0.out, OW.out, KR.out⟩
end Go.Proofs.Ytigdkflknhdbgaa.Skp
