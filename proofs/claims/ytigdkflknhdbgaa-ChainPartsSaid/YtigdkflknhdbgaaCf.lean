/- Layer 13: an index of versions, and the document's list, as the law fills them. -/
import Derived.Test.YtigdkflknhdbgaaCe
import Derived.BigQuiet
namespace Go.Proofs.Ytigdkflknhdbgaa
open Go.RowKit Go.Shelf
set_option linter.unusedVariables false

/-- The document's example, as the law asks it. -/
def LivesC : Prop := ∀ w : World, Calls Try.prog 15 #[] w fun z w' => z = .returned (.bool true) ∧ Below w.heap.size w w'
structure PutC where
  v : Ver
  lv : Int
def putL : Lay PutC := ⟨9, fun x => verL.enc x.v ++ [.int .i64 x.lv], fun x => by rw [List.length_append, verL.len]; rfl, fun x u hu => by
  rcases List.mem_append.1 hu with h | h
  · exact verL.one x.v u h
  · rw [List.mem_singleton.1 h]; rfl, by omega⟩
structure GoodV (r : List Ver) : Prop where
  asc : AscV r
  may : ∀ x ∈ r, mayV x = true
  key : ∀ x ∈ r, x.key.size ≤ 110
theorem cut_key (v : Ver) : (cutV v).key.size ≤ 110 := by
  unfold cutV
  simp only
  split
  · rw [ByteArray.size_extract]; omega
  · omega
theorem good_add {r : List Ver} (h : GoodV r) {v : Ver} (hv : v.key.size ≤ 110) : GoodV (addV r v).1 := by
  refine ⟨asc_addV h.asc v, may_addV h.may v, ?_⟩
  unfold addV
  split
  · split
    · exact h.key
    · intro x hx
      rcases (mem_insA v x r).1 hx with rfl | hx
      · exact hv
      · exact h.key x hx
  · exact h.key
theorem RdX.putC {w : World} {B n c : Nat} {A : Option Addr} {l : List PutC} (h : RdX putL w B (.slice A n c) l) (k : Nat) (hk : k < l.length) {kk : ByteArray} {bb ee ss xx yy lv : Int} {uu : ByteArray} {gg : Bool} (e : l[k] = ⟨⟨kk, bb, ee, ss, (xx, yy), uu, gg⟩, lv⟩) : ∃ b o, A = some ⟨b, o, none⟩ ∧ b < B ∧
    w.cell? ⟨b, o + k * 9, none⟩ = some (.string kk) ∧ w.cell? ⟨b, o + k * 9 + 1, none⟩ = some (.int .i64 bb) ∧ w.cell? ⟨b, o + k * 9 + 2, none⟩ = some (.int .i64 ee) ∧ w.cell? ⟨b, o + k * 9 + 3, none⟩ = some (.int .i64 ss) ∧
    w.cell? ⟨b, o + k * 9 + 4, none⟩ = some (.int .i64 xx) ∧ w.cell? ⟨b, o + k * 9 + 5, none⟩ = some (.int .i64 yy) ∧ w.cell? ⟨b, o + k * 9 + 6, none⟩ = some (.string uu) ∧ w.cell? ⟨b, o + k * 9 + 7, none⟩ = some (.bool gg) ∧ w.cell? ⟨b, o + k * 9 + 8, none⟩ = some (.int .i64 lv) := by
  obtain ⟨b, o, rfl, hb, hc⟩ := h.at k hk
  rw [e] at hc
  exact ⟨b, o, rfl, hb, hc 0 _ rfl, hc 1 _ rfl, hc 2 _ rfl, hc 3 _ rfl, hc 4 _ rfl, hc 5 _ rfl, hc 6 _ rfl, hc 7 _ rfl, hc 8 _ rfl⟩
set_option maxHeartbeats 8000000 in
set_option maxRecDepth 100000 in
theorem law13_filled {Ch : Nat → World → (Nat → Prop) → Value → List Ver → Int → Prop} (K : ChF Ch) (va : Value) (l : List PutC) (w : World) (ha : RdX putL w w.heap.size va l) (hok : ∀ x ∈ l, inK x.lv) :
    Calls Try.prog 8 #[va] w fun z w' => ∃ g S v' r h, z = .returned (.tuple #[.pointer (some ⟨g, 0, none⟩), v', .bool true]) ∧ Ch 40 w' S (.pointer (some ⟨g, 0, none⟩)) r h ∧ (∀ i, S i → w.heap.size ≤ i) ∧ OwnVr w' w.heap.size v' r ∧ (∀ k, v'.ownBlock = some k → ¬ S k) ∧ GoodV r ∧ r.length ≤ 40 ∧ Below w.heap.size w w' := by
  have K := Lib.hid K
  have HA := Lib.hid ha
  have HO := Lib.hid hok
  obtain ⟨A, ca, rfl, hla, hca, -⟩ := id ha
  have HCA := Lib.hid (Nat.le_trans hla hca)
  clear ha hok hla hca
  go_enter Try.func8, Try.ntmps8
  go_wp2_with fail
  refine (K.out.new _).mono ?_
  rintro z w1 ⟨p, S1, rfl, hc1, hs1, hb1⟩
  obtain ⟨gp, ep⟩ := K.out.ptr hc1
  subst ep
  have C1 := Lib.hid hc1
  have HS1 := Lib.hid hs1
  have G1 := Lib.hid hb1
  clear hc1 hs1 hb1
  go_wp2_with fail
  go_loopw [6, 7] (fun x i wr => ∃ (k : Nat) (r : List Ver) (S : Nat → Prop) (h : Int), i = .int .i64 k ∧ k ≤ l.length ∧ k ≤ 40 ∧ r.length ≤ k ∧ GoodV r ∧ Ch k wr S (.pointer (some ⟨gp, 0, none⟩)) r h ∧ (∀ i, S i → w.heap.size ≤ i) ∧ OwnVr wr w.heap.size x r ∧ (∀ j, x.ownBlock = some j → ¬ S j) ∧ Below w.heap.size w wr) (fun _ i _ => l.length - (intOf i).toNat)
  case atStart => exact ⟨0, [], S1, 0, rfl, Nat.zero_le _, Nat.zero_le _, Nat.le_refl _, ⟨List.Pairwise.nil, (fun x hx => by cases hx), (fun x hx => by cases hx)⟩, C1.out, HS1.out, OwnX.nil _ _, (fun j h => by cases h), G1.out⟩
  case round =>
    obtain ⟨k, r, S, h, rfl, hk, hk4, hrl, hgood, hch, hsb, ho, hns, hbw⟩ := hrel
    rename World => wo
    have G := Lib.hid hbw
    have CH := Lib.hid hch
    have O := Lib.hid ho
    have GOOD := Lib.hid hgood
    have HSB := Lib.hid hsb
    have HNS := Lib.hid hns
    have HRL := Lib.hid hrl
    obtain ⟨A2, c2, ev, -⟩ := ho.rd
    subst ev
    clear hbw hch ho hgood hsb hns hrl C1 HS1 G1
    by_cases hlt : k < l.length ∧ k < 40
    · obtain ⟨hlt, hlt4⟩ := hlt
      have zl : decide ((k : Int) < (l.length : Int)) = true := by simp; omega
      have z4 : decide ((k : Int) < 40) = true := by simp; omega
      have hki : (k : Int) < (l.length : Int) := by omega
      have hw64 : IntKind.i64.wrap ((k : Int) + 1) = (k : Int) + 1 := by rw [IntKind.wrap_i64]; omega
      obtain ⟨x, hx⟩ : ∃ x, l[k] = x := ⟨_, rfl⟩
      have HX := Lib.hid (HO.out x (by rw [← hx]; exact List.getElem_mem hlt))
      obtain ⟨⟨kk, bb, ee, ss, ⟨xx, yy⟩, uu, gg⟩, lv⟩ := x
      have HXX := Lib.hid hx
      have HLT := Lib.hid hlt
      obtain ⟨gb, o, rfl, -, d0, d1, d2, d3, d4, d5, d6, d7, d8⟩ := RdX.putC (HA.out.below G.out) k hlt hx
      have CU := Lib.hid (ref6_cut ⟨kk, bb, ee, ss, (xx, yy), uu, gg⟩)
      have CK := cut_key ⟨kk, bb, ee, ss, (xx, yy), uu, gg⟩
      generalize cutV ⟨kk, bb, ee, ss, (xx, yy), uu, gg⟩ = c at *
      have AR := Lib.hid (fun (w2 : World) (h2 : OwnVr w2 w.heap.size (.slice A2 r.length c2) r) (h3 : w.heap.size ≤ w2.heap.size) => ref13_add (.slice A2 r.length c2) r c w2 w.heap.size h2 h3 (by have := HRL.out; omega) (by omega))
      have AD := Lib.hid (fun (w2 : World) S p h0 (_ : Unit) (hc : Ch k w2 S p r h0) => K.out.add w2 S p r h0 c lv hc (by omega) (by have := HRL.out; omega) (by omega) HX.out)
      have AL := Lib.hid (addV_len r c)
      have AG := Lib.hid (good_add GOOD.out CK)
      obtain ⟨q, hq⟩ : ∃ q, addV r c = q := ⟨_, rfl⟩
      rw [hq] at AR AD AL AG
      obtain ⟨k2, b2, e2, s2, ⟨x2, y2⟩, u2, g2⟩ := c
      unfold verV at CU AR AD
      simp only at CU AR AD
      obtain ⟨r2, er⟩ := q
      simp only at AR AD AL AG
      have y1 : (er != er) = false := by simp
      have y3 : (er == er) = true := by simp
      clear hx hq CK
      go_wp2_with fail
      refine (CU.out _).mono ?_
      rintro z w2 ⟨rfl, hb2⟩
      have CH := Lib.hid (K.out.on CH.out hb2)
      have O := Lib.hid (O.out.on hb2)
      have G := Lib.hid (G.out.trans (hb2.mono G.out.size))
      clear hb2 d0 d1 d2 d3 d4 d5 d6 d7 d8
      obtain ⟨W3, hW3⟩ : ∃ W3, w2.alloc (.cells #[.string k2, .int .i64 b2, .int .i64 e2, .int .i64 s2, .int .i64 x2, .int .i64 y2, .string u2, .bool g2] 47) = W3 := ⟨_, rfl⟩
      have hb3 : Below w2.heap.size w2 W3 := by rw [← hW3]; exact alloc_below _ _
      have BX := Lib.hid (show Box W3 w2.heap.size #[.string k2, .int .i64 b2, .int .i64 e2, .int .i64 s2, .int .i64 x2, .int .i64 y2, .string u2, .bool g2] 47 from by rw [← hW3]; exact Box.new _ _ _ _ rfl)
      have CH := Lib.hid (K.out.on CH.out hb3)
      have O := Lib.hid (O.out.on hb3)
      have G := Lib.hid (G.out.trans (hb3.mono G.out.size))
      have SLT := Lib.hid (K.out.lt CH.out)
      clear hb3
      have z0 := BX.out.cell 0 _ rfl
      have z1 := BX.out.cell 1 _ rfl
      have z2 := BX.out.cell 2 _ rfl
      have z3 := BX.out.cell 3 _ rfl
      have z4' := BX.out.cell 4 _ rfl
      have z5 := BX.out.cell 5 _ rfl
      have z6 := BX.out.cell 6 _ rfl
      have z7 := BX.out.cell 7 _ rfl
      go_wp2_with fail
      clear z0 z1 z2 z3 z4' z5 z6 z7 hW3
      refine (AR.out _ O.out G.out.size).mono ?_
      rintro z w4 ⟨v4, rfl, ho4, hown4, hb4⟩
      have CH := Lib.hid (K.out.on CH.out hb4)
      have O4 := Lib.hid ho4
      have NS4 := Lib.hid (show ∀ j, v4.ownBlock = some j → ¬ S j from fun j hj => by
        rcases hown4 with rfl | h4
        · exact HNS.out j hj
        · intro hs
          have h5 := h4 j hj
          have h6 := SLT.out j hs
          omega)
      have G := Lib.hid (G.out.trans (hb4.mono G.out.size))
      have BX := Lib.hid (BX.out.later hb4)
      obtain ⟨A4, c4, ev, -⟩ := ho4.rd
      subst ev
      clear hb4 ho4 hown4
      have z0 := BX.out.cell 0 _ rfl
      have z1 := BX.out.cell 1 _ rfl
      have z2 := BX.out.cell 2 _ rfl
      have z3 := BX.out.cell 3 _ rfl
      have z4' := BX.out.cell 4 _ rfl
      have z5 := BX.out.cell 5 _ rfl
      have z6 := BX.out.cell 6 _ rfl
      have z7 := BX.out.cell 7 _ rfl
      obtain ⟨_, _, e9, -, d0, d1, d2, d3, d4, d5, d6, d7, d8⟩ := RdX.putC (HA.out.below G.out) k HLT.out HXX.out
      cases e9
      clear d0 d1 d2 d3 d4 d5 d6 d7
      go_wp2_with fail
      have HI : (fun W => W = w4.drew) w4.drew := rfl
      refine regk_start [7] (fun W => W = w4.drew) (by kernel_rfl) ?_
      refine regk_free 0 36 (v := ?_) (T' := ?_) (fun _ => HI) (by kernel_rfl) (by kernel_rfl) (by kernel_rfl) (by kernel_rfl) (fun _ _ _ h => h) (fun o ho => ?_) ?_ ?_
      rotate_left 2
      · cases ho
        refine ⟨rfl, rfl, fun W => ?_⟩
        go_simp; (try with_reducible rfl)
      · simp only [List.setIfInBounds_toArray, List.set_cons_succ, List.set_cons_zero]; exact rfl
      refine regk_take 1 37 (v := ?_) (T' := ?_) HI (by kernel_rfl) (by kernel_rfl) (by kernel_rfl) (by kernel_rfl) (by kernel_rfl) (by kernel_rfl) (fun _ _ _ h => h) (fun o ho => ?_) ?_ ?_
      rotate_left 2
      · cases ho
        refine ⟨rfl, rfl, fun W hW => ?_⟩
        have hW := (show W = _ from hW); subst hW; go_simp; (try with_reducible rfl)
      · simp only [List.setIfInBounds_toArray, List.set_cons_succ, List.set_cons_zero]; exact rfl
      refine regk_free 2 38 (v := ?_) (T' := ?_) (fun _ => HI) (by kernel_rfl) (by kernel_rfl) (by kernel_rfl) (by kernel_rfl) (fun _ _ _ h => h) (fun o ho => ?_) ?_ ?_
      rotate_left 2
      · cases ho
        refine ⟨rfl, rfl, fun W => ?_⟩
        go_simp; (try with_reducible rfl)
      · simp only [List.setIfInBounds_toArray, List.set_cons_succ, List.set_cons_zero]; exact rfl
      refine regk_free 3 39 (v := ?_) (T' := ?_) (fun _ => HI) (by kernel_rfl) (by kernel_rfl) (by kernel_rfl) (by kernel_rfl) (fun _ _ _ h => h) (fun o ho => ?_) ?_ ?_
      rotate_left 2
      · cases ho
        refine ⟨rfl, rfl, fun W => ?_⟩
        go_simp; (try with_reducible rfl)
      · simp only [List.setIfInBounds_toArray, List.set_cons_succ, List.set_cons_zero]; exact rfl
      refine regk_free 4 40 (v := ?_) (T' := ?_) (fun _ => HI) (by kernel_rfl) (by kernel_rfl) (by kernel_rfl) (by kernel_rfl) (fun _ _ _ h => h) (fun o ho => ?_) ?_ ?_
      rotate_left 2
      · cases ho
        refine ⟨rfl, rfl, fun W => ?_⟩
        go_simp; (try with_reducible rfl)
      · simp only [List.setIfInBounds_toArray, List.set_cons_succ, List.set_cons_zero]; exact rfl
      refine regk_free 5 41 (v := ?_) (T' := ?_) (fun _ => HI) (by kernel_rfl) (by kernel_rfl) (by kernel_rfl) (by kernel_rfl) (fun _ _ _ h => h) (fun o ho => ?_) ?_ ?_
      rotate_left 2
      · cases ho
        refine ⟨rfl, rfl, fun W => ?_⟩
        go_simp; (try with_reducible rfl)
      · simp only [List.setIfInBounds_toArray, List.set_cons_succ, List.set_cons_zero]; exact rfl
      refine regk_take 6 42 (v := ?_) (T' := ?_) HI (by kernel_rfl) (by kernel_rfl) (by kernel_rfl) (by kernel_rfl) (by kernel_rfl) (by kernel_rfl) (fun _ _ _ h => h) (fun o ho => ?_) ?_ ?_
      rotate_left 2
      · cases ho
        refine ⟨rfl, rfl, fun W hW => ?_⟩
        have hW := (show W = _ from hW); subst hW; go_simp; (try with_reducible rfl)
      · simp only [List.setIfInBounds_toArray, List.set_cons_succ, List.set_cons_zero]; exact rfl
      refine regk_free 8 44 (v := ?_) (T' := ?_) (fun _ => HI) (by kernel_rfl) (by kernel_rfl) (by kernel_rfl) (by kernel_rfl) (fun _ _ _ h => h) (fun o ho => ?_) ?_ ?_
      rotate_left 2
      · cases ho
        refine ⟨rfl, rfl, fun W => ?_⟩
        go_simp; (try with_reducible rfl)
      · simp only [List.setIfInBounds_toArray, List.set_cons_succ, List.set_cons_zero]; exact rfl
      refine regk_call (I' := (fun W => W = w4.drew)) (fun _ h => h) 7 43 (by kernel_rfl) 19 #[.pointer (some ⟨gp, 0, none⟩), .agg #[.string k2, .int .i64 b2, .int .i64 e2, .int .i64 s2, .int .i64 x2, .int .i64 y2, .string u2, .bool g2], .int .i64 lv] (fun o ho => by cases ho; exact ⟨rfl, rfl, fun W => by go_simp⟩) ?_
      refine (AD.out _ _ _ _ () (K.out.on CH.out (Below.refl _ _).drew)).mono ?_
      rintro z w5 ⟨rfl, S', h', hc5, hs5, hk5, -, -⟩
      have C5 := Lib.hid hc5
      have HS5 := Lib.hid hs5
      have K5 := Lib.hid hk5
      clear hc5 hs5 hk5
      refine ⟨_, _, rfl, noB_no (by kernel_rfl), (by simp only [List.setIfInBounds_toArray, List.set_cons_succ, List.set_cons_zero]; exact rfl), ?_⟩
      refine regk_free 9 45 (v := ?_) (T' := ?_) (noB_no (by kernel_rfl)) (by kernel_rfl) (by kernel_rfl) (by kernel_rfl) (by kernel_rfl) (fun _ _ _ h => h) (fun o ho => ?_) ?_ ?_
      rotate_left 2
      · cases ho
        refine ⟨rfl, rfl, fun W => ?_⟩
        go_simp; (try with_reducible rfl)
      · simp only [List.setIfInBounds_toArray, List.set_cons_succ, List.set_cons_zero]; exact rfl
      refine regk_done (by kernel_rfl) ?_
      clear z0 z1 z2 z3 z4' z5 z6 z7 d8
      have O5 := Lib.hid (K5.out.own (show OwnVr w4.drew w.heap.size (.slice A4 r2.length c4) r2 from O4.out) NS4.out)
      have NS5 := Lib.hid (show ∀ j, (Value.slice A4 r2.length c4).ownBlock = some j → ¬ S' j from fun j hj hs => by
        rcases HS5.out j hs with h | h
        · exact NS4.out j hj h
        · have := (O4.out.lt j hj).2
          have h6 : w4.drew.heap.size = w4.heap.size := rfl
          omega)
      have SB5 := Lib.hid (show ∀ i, S' i → w.heap.size ≤ i from fun i hi => by
        rcases HS5.out i hi with h | h
        · exact HSB.out i h
        · exact Nat.le_trans G.out.size h)
      have G5 := Lib.hid (G.out.drew.trans (K5.out.under (show w.heap.size ≤ w4.drew.heap.size from G.out.size) HSB.out))
      go_wp2_with fail
      go_roundw
      case rel => exact ⟨k + 1, r2, S', h', by go_num, by have := HLT.out; omega, by omega, Nat.le_trans AL.out (Nat.succ_le_succ HRL.out), AG.out, C5.out, SB5.out, O5.out, NS5.out, G5.out⟩
      case measure => simp [intOf]; have := HLT.out; omega
    · by_cases hl1 : k < l.length
      case' pos =>
        have h40 : ¬ k < 40 := fun h => hlt ⟨hl1, h⟩
        have zl : decide ((k : Int) < (l.length : Int)) = true := by simp; omega
        have z40 : decide ((k : Int) < 40) = false := by rw [decide_eq_false_iff_not]; omega
      case' neg =>
        have zl : decide ((k : Int) < (l.length : Int)) = false := by rw [decide_eq_false_iff_not]; omega
      all_goals
        have H40 := Lib.hid (Nat.le_trans HRL.out hk4)
        have HK4 := Lib.hid hk4
        go_wp2_with fail
        go_ret3
        exact ⟨gp, S, _, r, h, rfl, K.out.more CH.out HK4.out, HSB.out, O.out, HNS.out, GOOD.out, H40.out, G.out⟩
end Go.Proofs.Ytigdkflknhdbgaa
