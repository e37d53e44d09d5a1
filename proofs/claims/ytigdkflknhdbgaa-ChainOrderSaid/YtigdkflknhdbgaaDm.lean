/- Layer 13: the versions that go are taken away, key by key, by the project. -/
import Derived.Test.YtigdkflknhdbgaaDl
namespace Go.Proofs.Ytigdkflknhdbgaa
open Go.RowKit Go.Shelf
set_option linter.unusedVariables false

/-- When j keys have been looked at. -/
def TakeR (n g b : Nat) (S S0 : Nat → Prop) (l : List Skp.It) (Ls : List (List Ver)) (q : Ver → Bool) (w1 : World) (j : Nat) (wr : World) (S1 : Nat → Prop) (lj : List Skp.It) (Lj : List (List Ver)) : Prop :=
  ChL n wr S1 (.pointer (some ⟨b, 0, none⟩)) lj Lj ∧ Lj.flatten = Ls.flatten.filter (stayK ((l.map (·.key)).take j) q) ∧ Box wr g #[.pointer (some ⟨b, 0, none⟩), .int .i64 (Lj.flatten.length : Int)] 67 ∧
    (∀ k, S1 k → S0 k ∨ w1.heap.size ≤ k) ∧ KeptF S w1 wr
section
variable {n g b : Nat} {S S0 S1 S2 : Nat → Prop} {l lj l' : List Skp.It} {Ls Lj L' : List (List Ver)} {q : Ver → Bool} {w1 wr w2 w3 w5 : World} {j : Nat}
theorem take_stepT (gS : S g) (gs : ¬ S0 g) (g1 : g < w1.heap.size) (sub : ∀ k, S0 k → S k) (hS1 : ∀ k, S1 k → S0 k ∨ w1.heap.size ≤ k) (hk : KeptF S w1 wr) (h2 : Below wr.heap.size wr w2) {c0 : Value} (hB : Box wr g #[.pointer (some ⟨b, 0, none⟩), c0] 67)
    {row row' : Value} (hrow : ∀ k, row.ownBlock = some k → S1 k) (hG : Grew w2 w3 row row') {m : Int} (hk5 : Skp.KeptF S1 (w3.setCell ⟨g, 1, none⟩ (.int .i64 m)) w5) (hc5 : ChL n w5 S2 (.pointer (some ⟨b, 0, none⟩)) l' L')
    (hf : L'.flatten = Ls.flatten.filter (stayK ((l.map (·.key)).take (j + 1)) q)) (hS2 : ∀ k, S2 k → S1 k ∨ w2.heap.size ≤ k) (hx : m = (L'.flatten.length : Int)) :
    TakeR n g b S S0 l Ls q w1 (j + 1) w5 S2 l' L' := by
  have z1 := hk.below.size
  have z2 := h2.size
  have z3 := hG.grown.size
  have z4 : (w3.setCell ⟨g, 1, none⟩ (.int .i64 m)).heap.size = w3.heap.size := by simp [World.setCell]
  have gS1 : ¬ S1 g := fun h => by
    rcases hS1 g h with h | h
    · exact gs h
    · omega
  have out : ∀ k, k ≠ g → (w3.setCell ⟨g, 1, none⟩ (.int .i64 m)).heap[k]? = w3.heap[k]? := fun k hk => Below.heap_setCell w3 ⟨g, 1, none⟩ _ k hk
  have e3 : w3.heap[g]? = wr.heap[g]? := (hG.grown.block g (by omega) fun e => gS1 (hrow g e.symm)).trans (h2.block g (by omega))
  have B3 : Box w3 g #[.pointer (some ⟨b, 0, none⟩), c0] 67 := e3.trans hB
  refine ⟨hc5, hf, ?_, fun k hk2 => ?_, ?_, fun i hi hn => ?_⟩
  · have := B3.set 1 (.int .i64 m)
    rw [← hx]
    exact (hk5.other g (by omega) gS1).trans this
  · rcases hS2 k hk2 with h | h
    · exact hS1 k h
    · exact .inr (by omega)
  · exact (((hk.below.trans (h2.mono (Nat.zero_le _))).trans (hG.below (Nat.zero_le _) fun _ _ => Nat.zero_le _)).setCell (p := ⟨g, 1, none⟩) (Nat.zero_le _) _).trans hk5.below
  · have hn1 : ¬ S1 i := fun h => by
      rcases hS1 i h with h | h
      · exact hn (sub i h)
      · omega
    rw [hk5.other i (by omega) hn1, out i (fun e => hn (e ▸ gS)), hG.grown.block i (by omega) (fun e => hn1 (hrow i e.symm)), h2.block i (by omega)]
    exact hk.other i hi hn
end
theorem inK0 : Skp.inK 0 := by constructor <;> decide

set_option maxHeartbeats 8000000 in
set_option maxRecDepth 100000 in
theorem ch_take {n : Nat} (w : World) (S : Nat → Prop) (p : Value) (r : List Ver) (h : Int) (hc : ChS n w S p r h) (hn : n ≤ 100000) (hr : r.length ≤ 1000) (va : Value) (gone : List Ver) (hg : RdVr w w.heap.size va gone) (hs : AscV gone) (hgl : gone.length ≤ 1000) (hoff : ∀ k, va.ownBlock = some k → ¬ S k) :
    Calls Try.prog 34 #[p, va] w fun z w' => (∃ v, z = .returned v) ∧ ∃ S' h', ChS n w' S' p (r.filter fun v => !goneA gone v) h' ∧ (∀ i, S' i → S i ∨ w.heap.size ≤ i) ∧ KeptF S w w' := by
  have HC := Lib.hid hc
  obtain ⟨g, pl, l, Ls, S0, rfl, hb, hl, er, eh, hgS, hS⟩ := hc
  obtain ⟨b, rfl⟩ := hl.ptr
  have hll : l.length ≤ 1000 := Nat.le_trans hl.keys_len (by rw [← er]; exact hr)
  have hgr := hl.grp
  obtain ⟨A, c, rfl, -⟩ := id hg
  obtain ⟨W0, hW0⟩ : ∃ W0, w.alloc (.cells #[.slice A gone.length c] 24) = W0 := ⟨_, rfl⟩
  have hb0 : Below w.heap.size w W0 := by rw [← hW0]; exact alloc_below _ _
  have hs0 : W0.heap.size = w.heap.size + 1 := by rw [← hW0]; exact World.size_alloc _ _
  have BG := Lib.hid (show Box W0 w.heap.size #[.slice A gone.length c] 24 from by rw [← hW0]; exact Box.new w _ _ _ rfl)
  have KY := Lib.hid (ch_keys W0 S (.pointer (some ⟨g, 0, none⟩)) r h (HC.out.stay fun i hi => hb0.block i (HC.out.lt i hi)) hr)
  have KS : keysV r = l.map (·.key) := by rw [er]; exact hgr.keys_is
  rw [KS] at KY
  obtain ⟨q, hq⟩ : ∃ q : Ver → Bool, (fun v => !goneA gone v) = q := ⟨_, rfl⟩
  have HQ := Lib.hid hq
  have GO := Lib.hid (p_gone gone hs hgl w.heap.size A c)
  have ENT := Lib.hid (enters_of (P := Try.prog) Try.func53 (by kernel_rfl) rfl)
  have LT := Lib.hid (fun k (hk : S k) => HC.out.lt k hk)
  have SUB := Lib.hid (fun k (hk : S0 k) => (hS k).2 (.inr hk))
  have GIN := Lib.hid ((hS g).2 (.inl rfl))
  have HS := Lib.hid hS
  have GS := Lib.hid hgS
  have ER := Lib.hid er
  have HR := Lib.hid hr
  have HN := Lib.hid hn
  have HLL := Lib.hid hll
  have GRP := Lib.hid hgr
  have HG := Lib.hid hg
  have OFF := Lib.hid hoff
  have G0 := Lib.hid hb0
  have Z0 := Lib.hid hs0
  have BI := Lib.hid hb
  have CL := Lib.hid hl
  have RLN := Lib.hid (show Ls.flatten.length ≤ 1000 from by rw [← er]; exact hr)
  clear hb hl er eh hgS hS hr hn hll hgr hs hgl hoff hb0 hs0 KS hg
  rw [hq]
  clear hq
  have hmf : ∀ (fn : Fn) (first cap : Array Value) (w : World), (Instr.makeFunc fn first cap).run Try.prog w = .ok (.func fn first cap) w := fun _ _ _ _ => rfl
  go_enter Try.func34, Try.ntmps34
  go_wp2_with fail
  clear hW0
  refine KY.out.mono ?_
  rintro z w1 ⟨v1, rfl, ho1, hb1⟩
  have G1 := Lib.hid hb1
  have GW1 := Lib.hid (G0.out.trans (hb1.mono G0.out.size))
  have KR := Lib.hid ho1.rd
  have KB := Lib.hid ho1.base
  have KL := Lib.hid (show (l.map (·.key)).length = l.length from List.length_map _)
  have KAT := Lib.hid (show ∀ j (h : j < l.length) (h2 : j < (l.map (·.key)).length), (l.map (·.key))[j] = l[j].key from fun j h h2 => List.getElem_map _)
  obtain ⟨A1, c1, rfl, -⟩ := ho1.rd
  rw [KL.out] at KR KB ⊢
  have T0 := Lib.hid (show TakeR n g b S S0 l Ls q w1 0 w1 S0 l Ls from ⟨CL.out.stay fun k hk => GW1.out.block k (CL.out.lt hk), by rw [List.take_zero, stayK_nil], by rw [← ER.out]; exact BI.out.later GW1.out, fun k hk => .inl hk, ⟨Below.refl _ _, fun i hi _ => rfl⟩⟩)
  clear ho1 hb1 KY CL
  go_wp2_with fail
  go_loopw [12] (fun i wr => ∃ (j : Nat) (S1 : Nat → Prop) (lj : List Skp.It) (Lj : List (List Ver)), i = .int .i64 j ∧ j ≤ l.length ∧ TakeR n g b S S0 l Ls q w1 j wr S1 lj Lj) (fun i _ => l.length - (intOf i).toNat)
  case atStart => exact ⟨0, S0, l, Ls, rfl, Nat.zero_le _, T0.out⟩
  case round =>
    obtain ⟨j, S1, lj, Lj, rfl, hj, hc1, hf1, hbx, hsub, hkp⟩ := hrel
    rename World => wr
    have C := Lib.hid hc1
    have F := Lib.hid hf1
    have BX := Lib.hid hbx
    have SU := Lib.hid hsub
    have KP := Lib.hid hkp
    clear hc1 hf1 hbx hsub hkp T0
    by_cases hlt : j < l.length
    · have zl : decide ((j : Int) < (l.length : Int)) = true := by simp; omega
      have hji : (j : Int) < (l.length : Int) := by omega
      have hw64 : IntKind.i64.wrap ((j : Int) + 1) = (j : Int) + 1 := by rw [IntKind.wrap_i64]; have := HLL.out; omega
      have hL : j < Ls.length := by rw [GRP.out.len]; exact hlt
      have hk2 : j < (l.map (·.key)).length := by rw [KL.out]; exact hlt
      have ka := GRP.out.keep_at hlt hL C.out.grp F.out
      have kn := GRP.out.keep_next hlt hL C.out.grp F.out
      have hsz1 := KP.out.below.size
      have h0z := GW1.out.size
      have h01 := G1.out.size
      have h0e := Z0.out
      have nS : ∀ k, w.heap.size ≤ k → ¬ S k := fun k hk h => by have := LT.out k h; omega
      have KRR := Lib.hid (RdX.stay (w' := wr) (B' := wr.heap.size) KR.out (by omega) fun k hp e => KP.out.other k (KR.out.old hp k e) (nS k (by have := KB.out k e; omega)))
      have GW := Lib.hid (show GoneW w.heap.size A c gone wr from ⟨((KP.out.other w.heap.size (by omega) (nS _ (Nat.le_refl _))).trans (G1.out.block _ (by omega))).trans BG.out, RdX.stay HG.out (by omega) fun k hp e => by
        have h2 := HG.out.old hp k e
        exact (KP.out.other k (by omega) (OFF.out k e)).trans (GW1.out.block k h2)⟩)
      obtain ⟨kj, hkj⟩ : ∃ kj, l[j].key = kj := ⟨_, rfl⟩
      obtain ⟨bb, oo, rfl, -, k0⟩ := RdX.strE KRR.out j hk2 ((KAT.out j hlt hk2).trans hkj)
      rw [hkj] at ka kn
      obtain ⟨hh, hi, eLj⟩ := ka
      obtain ⟨kn1, kn2⟩ := kn
      have HH := Lib.hid hh
      have KN1 := Lib.hid kn1
      have KN2 := Lib.hid kn2
      have GT := Lib.hid (chl_get C.out kj)
      have ql : Ls[j].length ≤ Lj.flatten.length := by
        rw [← eLj, flat_at hi]
        simp only [List.length_append]; omega
      have ljl : Lj.flatten.length ≤ 1000 := by rw [F.out]; exact Nat.le_trans (List.length_filter_le _ _) RLN.out
      have hcb : Box wr g #[.pointer (some ⟨b, 0, none⟩), .int .i64 (Lj.flatten.length : Int)] 67 := BX.out
      have i0 := hcb.cell 0 _ rfl
      have QE := Lib.hid (show (Lj.flatten.filter fun v => decide (v.key = kj)) = Ls[j] from by
        obtain ⟨hi2, e⟩ := C.out.grp.of_here hh
        exact e.trans eLj)
      rw [QE.out] at GT
      have THN := Lib.hid (fun x => thin_len hi x)
      have TDN := Lib.hid (drop_len2 hi)
      rw [eLj] at THN TDN
      have LJL := Lib.hid (show lj.length ≤ 1000 from Nat.le_trans C.out.keys_len ljl)
      have QL := Lib.hid ql
      have LL := Lib.hid ljl
      have SZ := Lib.hid (And.intro hsz1 (And.intro h0z (And.intro h01 h0e)))
      have NS := Lib.hid nS
      generalize Ls[j] = Q at *
      obtain ⟨cn, hcn⟩ : ∃ cn, Lj.flatten.length = cn := ⟨_, rfl⟩
      rw [hcn] at BX i0 QL LL THN TDN
      obtain ⟨Q2, hq2⟩ : ∃ Q2, Q.filter q = Q2 := ⟨_, rfl⟩
      have Q2E := Lib.hid hq2
      have Q2L := Lib.hid (show Q2.length ≤ Q.length from by rw [← hq2]; exact List.length_filter_le _ _)
      rw [hq2] at KN1 KN2
      clear hcn hq2
      clear hh hi eLj kn1 kn2 hkj hcb ql ljl hsz1 h0z h01 h0e nS hL hk2
      go_wp2_with fail
      refine GT.out.mono ?_
      rintro z w2 ⟨u, rfl, hu, eu, hb2⟩
      have C2 := Lib.hid (C.out.stay fun k hk => hb2.block k (C.out.lt hk))
      obtain ⟨ow1, ow2⟩ := chl_own C2.out kj
      rw [QE.out, ← eu] at ow1
      rw [← eu] at ow2
      have GW2 := Lib.hid (GW.out.on hb2)
      have B2 := Lib.hid (BX.out.later hb2)
      have G2 := Lib.hid hb2
      have EU := Lib.hid eu
      obtain ⟨A2, c2, rfl, -⟩ := hu
      have OW2 := Lib.hid ow2
      have gne : (Value.slice A2 Q.length c2).ownBlock ≠ some g := fun e => by
        rcases SU.out g (ow2 g e) with h | h
        · exact GS.out h
        · have := SZ.out; have := LT.out g GIN.out; omega
      have GNE := Lib.hid gne
      have DF := Lib.hid (p_deleteFunc (.slice A2 Q.length c2) Q 53 #[.pointer (some ⟨w.heap.size, 0, none⟩)] (goneA gone) (GoneW w.heap.size A c gone) ENT.out GO.out 0 w2 (fun W hW => GW2.out.keep hW (fun e => by
        rcases SU.out _ (ow2 _ e) with h | h
        · exact NS.out _ (Nat.le_refl _) (SUB.out _ h)
        · have := SZ.out; omega) (fun hp e => by
        obtain ⟨A', c', e0, -, -, h3⟩ := HG.out
        cases e0
        obtain ⟨bg, og, rfl, hbg, -⟩ := h3 hp
        rcases SU.out bg (ow2 bg e) with h | h
        · exact OFF.out bg rfl (SUB.out bg h)
        · have := SZ.out; omega)) ow1 (by have := QL.out; have := LL.out; omega))
      rw [HQ.out, Q2E.out] at DF
      clear ow1 ow2 hb2 eu i0 k0 GT
      go_wp2_with fail
      refine DF.out.mono ?_
      rintro z w3 ⟨v3, rfl, ho3, hg3⟩
      have O3 := Lib.hid ho3
      have G3 := Lib.hid hg3
      obtain ⟨A3, c3, rfl, -⟩ := ho3.rd
      have hb3 : Box w3 g #[.pointer (some ⟨b, 0, none⟩), .int .i64 (cn : Int)] 67 := (hg3.grown.block g B2.out.lt fun e => GNE.out e.symm).trans B2.out
      have i0 := hb3.cell 0 _ rfl
      have i1 := hb3.cell 1 _ rfl
      have f1 := hb3.frozen 1
      have q1 := QL.out
      have q2 := Q2L.out
      have q3 := LL.out
      have hw1 : IntKind.i64.wrap ((Q.length : Int) - (Q2.length : Int)) = (Q.length : Int) - (Q2.length : Int) := by rw [IntKind.wrap_i64]; omega
      have hw2 : IntKind.i64.wrap ((cn : Int) - ((Q.length : Int) - (Q2.length : Int))) = (cn : Int) - ((Q.length : Int) - (Q2.length : Int)) := by rw [IntKind.wrap_i64]; omega
      obtain ⟨W4, hW4⟩ : ∃ W4, w3.setCell ⟨g, 1, none⟩ (.int .i64 ((cn : Int) - ((Q.length : Int) - (Q2.length : Int)))) = W4 := ⟨_, rfl⟩
      have b4 : Box W4 g #[.pointer (some ⟨b, 0, none⟩), .int .i64 ((cn : Int) - ((Q.length : Int) - (Q2.length : Int)))] 67 := by rw [← hW4]; exact hb3.set 1 _
      have j0 := b4.cell 0 _ rfl
      have HW4 := Lib.hid hW4
      clear ho3 hg3 DF hb3 q1 q2 q3 b4
      by_cases hm : 0 < Q2.length
      · have zg : decide ((0 : Int) < (Q2.length : Int)) = true := by simp; omega
        have HM := Lib.hid hm
        clear hm
        have gl1 : g < w1.heap.size := by have := SZ.out; have := LT.out g GIN.out; omega
        have hk1 : ¬ S1 g := fun h => by
          rcases SU.out g h with h | h
          · exact GS.out h
          · omega
        have sz4 : w2.heap.size ≤ W4.heap.size := by rw [← HW4.out]; have := G3.out.grown.size; simpa [World.setCell] using this
        have hb4 : ∀ k, S1 k → (slV (Skp.getI lj kj)).ownBlock ≠ some k → W4.heap[k]? = w2.heap[k]? := fun k hk hne => by
          rw [← EU.out] at hne
          rw [← HW4.out, Below.heap_setCell w3 ⟨g, 1, none⟩ _ k (fun e => hk1 (show S1 g from (show k = g from e) ▸ hk))]
          exact G3.out.grown.block k (C2.out.lt hk) fun e => hne e.symm
        have g2 : g < w2.heap.size := B2.out.lt
        have ho4 : OwnVr W4 0 (slV ⟨A3, Q2.length, c3⟩) Q2 := OwnX.stay O3.out fun k hk => by
          rw [← HW4.out]
          refine Below.heap_setCell w3 ⟨g, 1, none⟩ _ k fun e => ?_
          have e' : k = g := e
          subst e'
          rcases G3.out.own with h | ⟨g3, h, h3⟩
          · exact GNE.out (h.symm.trans hk)
          · rw [show (slV ⟨A3, Q2.length, c3⟩ : Value) = .slice A3 Q2.length c3 from rfl, h] at hk
            injection hk with hk
            omega
        have hS4 : ∀ k, (slV ⟨A3, Q2.length, c3⟩).ownBlock = some k → (slV (Skp.getI lj kj)).ownBlock = some k ∨ w2.heap.size ≤ k := fun k hk => by
          rw [← EU.out]
          rcases G3.out.own with h | ⟨g3, h, h3⟩
          · exact .inl (h.symm.trans hk)
          · right
            rw [show (slV ⟨A3, Q2.length, c3⟩ : Value) = .slice A3 Q2.length c3 from rfl, h] at hk
            injection hk with hk
            omega
        have hne : Q2 ≠ [] := fun e => by have := HM.out; rw [e] at this; exact absurd this (by decide)
        obtain ⟨kg1, kg2⟩ := KN1.out hne 0 ⟨A3, Q2.length, c3⟩
        have PT := Lib.hid (chl_put_turn C2.out HN.out LJL.out kj 0 inK0 ⟨A3, Q2.length, c3⟩ Q2 HH.out sz4 hb4 ho4 hS4 kg1)
        have KG2 := Lib.hid kg2
        have GL1 := Lib.hid gl1
        clear hk1 sz4 hb4 g2 ho4 hS4 hne kg1 kg2 gl1
        go_wp2_with fail
        clear hW4
        refine PT.out.mono ?_
        rintro z w5 ⟨⟨bz, rfl⟩, S2, hc5, hs5, hk5⟩
        have TN := Lib.hid (take_stepT GIN.out GS.out GL1.out SUB.out SU.out KP.out G2.out BX.out OW2.out G3.out (by rw [HW4.out]; exact hk5) hc5 KG2.out hs5 (by have := THN.out Q2; omega))
        clear hc5 hs5 hk5 PT
        go_wp2_with fail
        go_roundw
        case rel => exact ⟨j + 1, S2, _, _, by go_num, by omega, TN.out⟩
        case measure => simp [intOf]; omega
      · have zg : decide ((0 : Int) < (Q2.length : Int)) = false := by rw [decide_eq_false_iff_not]; omega
        have HM := Lib.hid hm
        clear hm
        have gl1 : g < w1.heap.size := by have := SZ.out; have := LT.out g GIN.out; omega
        have hk1 : ¬ S1 g := fun h => by
          rcases SU.out g h with h | h
          · exact GS.out h
          · omega
        have sz4 : w2.heap.size ≤ W4.heap.size := by rw [← HW4.out]; have := G3.out.grown.size; simpa [World.setCell] using this
        have hb4 : ∀ k, S1 k → (slV (Skp.getI lj kj)).ownBlock ≠ some k → W4.heap[k]? = w2.heap[k]? := fun k hk hne => by
          rw [← EU.out] at hne
          rw [← HW4.out, Below.heap_setCell w3 ⟨g, 1, none⟩ _ k (fun e => hk1 (show S1 g from (show k = g from e) ▸ hk))]
          exact G3.out.grown.block k (C2.out.lt hk) fun e => hne e.symm
        have hne : Q2 = [] := List.eq_nil_of_length_eq_zero (by have := HM.out; omega)
        have hz : Q2.length = 0 := by rw [hne]; rfl
        obtain ⟨kg1, kg2⟩ := KN2.out hne
        have PT := Lib.hid (chl_drop_turn C2.out LJL.out kj HH.out sz4 hb4 kg1)
        have KG2 := Lib.hid kg2
        have GL1 := Lib.hid gl1
        have HZ := Lib.hid hz
        clear hk1 sz4 hb4 hne kg1 kg2 gl1 hz
        go_wp2_with fail
        clear hW4
        refine PT.out.mono ?_
        rintro z w5 ⟨⟨bz, rfl⟩, S2, hc5, hs5, hk5⟩
        have TN := Lib.hid (take_stepT GIN.out GS.out GL1.out SUB.out SU.out KP.out G2.out BX.out OW2.out G3.out (by rw [HW4.out]; exact hk5) hc5 KG2.out hs5 (by have := TDN.out; have := HZ.out; omega))
        clear hc5 hs5 hk5 PT
        go_wp2_with fail
        go_roundw
        case rel => exact ⟨j + 1, S2, _, _, by go_num, by omega, TN.out⟩
        case measure => simp [intOf]; omega
    · have hj2 : j = l.length := by omega
      subst hj2
      have zl : decide ((l.length : Int) < (l.length : Int)) = false := by simp
      clear hlt
      have FE := Lib.hid (show r.filter q = Lj.flatten from by rw [ER.out]; exact (GRP.out.keep_all F.out).symm)
      go_wp2_with fail
      refine bodyPost_end (v := .tuple #[]) (results_none rfl _ _ _) rfl ?_
      have gS1 : ¬ S1 g := fun h => by
        rcases SU.out g h with h | h
        · exact GS.out h
        · have := LT.out g GIN.out; have := GW1.out.size; omega
      refine ⟨⟨_, rfl⟩, fun k => k = g ∨ S1 k, Skp.heightI lj, ⟨g, _, lj, Lj, S1, rfl, by rw [FE.out]; exact BX.out, C.out, FE.out, rfl, gS1, fun k => Iff.rfl⟩, fun i hi => ?_, ⟨(GW1.out.mono (Nat.zero_le _)).trans KP.out.below, fun i hi hn => (KP.out.other i (Nat.lt_of_lt_of_le hi GW1.out.size) hn).trans (GW1.out.block i hi)⟩⟩
      rcases hi with rfl | hi
      · exact .inl GIN.out
      · rcases SU.out i hi with h | h
        · exact .inl (SUB.out i h)
        · exact .inr (Nat.le_trans GW1.out.size h)
end Go.Proofs.Ytigdkflknhdbgaa
