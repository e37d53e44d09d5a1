/- Layer 13: the versions of a range of keys, out of what an index's list tells one by one. -/
import Derived.Test.YtigdkflknhdbgaaDf
namespace Go.Proofs.Ytigdkflknhdbgaa
open Go.RowKit Go.Shelf
set_option linter.unusedVariables false
attribute [local go_sem] Oper.semAt_some

theorem range_told {l : List Skp.It} {Ls : List (List Ver)} (hg : GrpV l Ls) (fr tt : ByteArray) (j : Nat) (hj : j ≤ (Skp.kvI (Skp.fromI l fr)).length)
    (h0 : ∀ (i : Nat) (x : ByteArray × Skp.Sl), i < j → (Skp.kvI (Skp.fromI l fr))[i]? = some x → Op.bytesLess x.1.toList tt.toList = true)
    (h1 : j = (Skp.kvI (Skp.fromI l fr)).length ∨ ∃ x, (Skp.kvI (Skp.fromI l fr))[j]? = some x ∧ Op.bytesLess x.1.toList tt.toList = false) :
    ((Ls.drop (Skp.atI fr l)).take j).flatten = ((Ls.take (Skp.atI tt l)).drop (Skp.atI fr l)).flatten := by
  have hlen : (Skp.kvI (Skp.fromI l fr)).length = l.length - Skp.atI fr l := by unfold Skp.kvI Skp.fromI; rw [List.length_map, List.length_drop]
  have hbl := Skp.at_le tt l
  have hal := Skp.at_le fr l
  have F1 : ∀ i (hi : i < l.length), i < Skp.atI tt l → Op.bytesLess l[i].key.toList tt.toList = true := fun i hi h => Skp.before_less (List.mem_take_iff_getElem.2 ⟨i, by omega, rfl⟩)
  have F2 : ∀ i (hi : i < l.length), Skp.atI tt l ≤ i → Op.bytesLess l[i].key.toList tt.toList = false := fun i hi h => by
    have hb : Skp.atI tt l < l.length := by omega
    have h2 := Skp.at_at hb
    unfold Skp.geK at h2
    have h3 : Op.bytesLess l[Skp.atI tt l].key.toList tt.toList = false := by simpa using h2
    rcases Nat.lt_or_ge (Skp.atI tt l) i with h4 | h4
    · cases h5 : Op.bytesLess l[i].key.toList tt.toList
      · rfl
      · have := Skp.less_transK _ _ _ (hg.less h4 hi) h5
        rw [h3] at this; cases this
    · have : i = Skp.atI tt l := by omega
      subst this
      exact h3
  have G : ∀ i (hi : Skp.atI fr l + i < l.length), (Skp.kvI (Skp.fromI l fr))[i]? = some (l[Skp.atI fr l + i].key, l[Skp.atI fr l + i].v) := fun i hi => by
    rw [from_at, List.getElem?_eq_getElem hi]; rfl
  rw [List.take_drop]
  have main : (Skp.atI tt l ≤ Skp.atI fr l ∧ j = 0) ∨ Skp.atI tt l = Skp.atI fr l + j := by
    rcases Nat.lt_or_ge (Skp.atI fr l) (Skp.atI tt l) with hab | hab
    · right
      have up : Skp.atI fr l + j ≤ Skp.atI tt l := by
        rcases Nat.eq_zero_or_pos j with hz | hz
        · omega
        · have hi : Skp.atI fr l + (j - 1) < l.length := by omega
          have h2 := h0 (j - 1) _ (by omega) (G _ hi)
          rcases Nat.lt_or_ge (Skp.atI fr l + (j - 1)) (Skp.atI tt l) with h3 | h3
          · omega
          · rw [F2 _ hi h3] at h2; cases h2
      rcases h1 with h1 | ⟨x, hx, h1⟩
      · omega
      · have hjl := (List.getElem?_eq_some_iff.1 hx).1
        have hi : Skp.atI fr l + j < l.length := by omega
        rw [G _ hi] at hx
        injection hx with hx
        subst hx
        rcases Nat.lt_or_ge (Skp.atI fr l + j) (Skp.atI tt l) with h3 | h3
        · rw [F1 _ hi h3] at h1; cases h1
        · omega
    · left
      refine ⟨hab, ?_⟩
      rcases Nat.eq_zero_or_pos j with hz | hz
      · exact hz
      · have hi : Skp.atI fr l + 0 < l.length := by omega
        have h2 := h0 0 _ hz (G _ hi)
        rw [F2 _ hi (by omega)] at h2; cases h2
  rcases main with ⟨h2, rfl⟩ | h2
  · rw [List.drop_eq_nil_of_le (by rw [List.length_take]; omega), List.drop_eq_nil_of_le (by rw [List.length_take]; omega)]
  · rw [h2]

set_option maxRecDepth 100000 in
set_option maxHeartbeats 4000000 in
theorem ch_range {n : Nat} (w : World) (S : Nat → Prop) (p : Value) (r : List Ver) (h : Int) (fr tt : ByteArray) (hc : ChS n w S p r h) (hr : r.length ≤ 1000) :
    Calls Try.prog 13 #[p, .string fr, .string tt] w fun z w' => ∃ v', z = .returned v' ∧ OwnVr w' w.heap.size v' (r.filter fun v => !Op.bytesLess v.key.toList fr.toList && Op.bytesLess v.key.toList tt.toList) ∧ Below w.heap.size w w' := by
  obtain ⟨g, pl, l, Ls, S0, rfl, hb, hl, er, -⟩ := hc
  obtain ⟨b, rfl⟩ := hl.ptr
  have hll : l.length ≤ 1000 := Nat.le_trans hl.keys_len (by rw [← er]; exact hr)
  obtain ⟨W1, hW1⟩ : ∃ W1, (w.alloc (.cells #[.string tt] 9)).alloc (.cells #[.slice none 0 0] 24) = W1 := ⟨_, rfl⟩
  have hb1 : Below w.heap.size w W1 := by rw [← hW1]; exact (alloc_below _ _).alloc (by simp) _
  have b2 : Box W1 (w.heap.size + 1) #[.slice none 0 0] 24 := by rw [← hW1]; exact Box.new _ _ _ _ (by simp)
  have t2 : Box W1 w.heap.size #[.string tt] 9 := by rw [← hW1]; exact (Box.new w _ _ _ rfl).alloc _
  have hs1 : W1.heap.size = w.heap.size + 2 := by rw [← hW1]; simp
  have FR := Lib.hid (chl_from (T := TAV) (hl.stay fun k hk => hb1.block k (hl.lt hk)) fr hll)
  have LT := Lib.hid (fun k (hk : S0 k) => hl.lt hk)
  have HROW := Lib.hid (fun (X : World) (hX : Below w.heap.size w X) (j : Nat) (x : ByteArray × Skp.Sl) (hx : (Skp.kvI (Skp.fromI l fr))[j]? = some x) => chl_row (hl.stay (w' := X) fun k hk => hX.block k (hl.lt hk)) hx)
  have HLEN := Lib.hid (told_len (key := fr) hl.grp.len.symm)
  have RT := Lib.hid (range_told hl.grp fr tt)
  have RL := Lib.hid (show (Ls.drop (Skp.atI fr l)).flatten.length ≤ Ls.flatten.length from by
    have : Ls.flatten = (Ls.take (Skp.atI fr l)).flatten ++ (Ls.drop (Skp.atI fr l)).flatten := by rw [← List.flatten_append, List.take_append_drop]
    rw [this, List.length_append]
    omega)
  have HR := Lib.hid (show Ls.flatten.length ≤ 1000 from by rw [← er]; exact hr)
  have ER := Lib.hid (show (r.filter fun v => !Op.bytesLess v.key.toList fr.toList && Op.bytesLess v.key.toList tt.toList) = ((Ls.take (Skp.atI tt l)).drop (Skp.atI fr l)).flatten from by rw [er]; exact hl.grp.range fr tt)
  have g0 := (hb1.block g hb.lt).trans hb
  have c0 := Box.cell g0 0 _ rfl
  generalize Skp.fromI l fr = fs at *
  generalize (r.filter fun v => !Op.bytesLess v.key.toList fr.toList && Op.bytesLess v.key.toList tt.toList) = R at *
  generalize ((Ls.take (Skp.atI tt l)).drop (Skp.atI fr l)).flatten = R2 at *
  generalize Ls.drop (Skp.atI fr l) = Rs at *
  clear hl hb er hr hll g0
  refine (callsIn_wide (n := 4)).1 ?_
  refine callsIn_of_wp_marks Try.func13 rfl trivial ?_ rfl
  simp only [Try.ntmps13, List.size_toArray, List.length_cons, List.length_nil, Nat.reduceAdd, Nat.reduceSub, Array.replicate_succ, Array.replicate_zero, List.push_toArray, List.append_toArray, List.nil_append, List.cons_append]
  have B2 := Lib.hid b2
  have T2 := Lib.hid t2
  have G1 := Lib.hid hb1
  clear b2 t2 hb1
  gi_wp2_with fail
  clear hW1
  refine ⟨trivial, (callsIn_wide.2 FR.out).mono ?_⟩
  rintro e W2 ⟨gf, lb, rfl, eg, hb2, hT⟩
  have TL := Lib.hid (hT True w.heap.size (Nat.le_trans (by omega) hb2.size))
  have EG := Lib.hid eg
  have GW := Lib.hid (G1.out.trans (hb2.mono G1.out.size))
  have b2 : Box W2 (w.heap.size + 1) #[.slice none 0 0] 24 := B2.out.later hb2
  have t2 : Box W2 w.heap.size #[.string tt] 9 := T2.out.later hb2
  have hs2 := hb2.size
  clear hT eg FR hb2 B2 T2 c0
  generalize Skp.kvI fs = ks at *
  have Z1 := Lib.hid hs1
  have Z2 := Lib.hid hs2
  have Q2 := Lib.hid b2
  have U2 := Lib.hid t2
  clear b2 t2 hs1 hs2
  gi_wp2_with fail
  have hs1 := Z1.out
  have hs2 := Z2.out
  refine wpIn_rangeTell2 (P := Try.prog) (Z := True) (T := TAV) (Kp := fun k => S0 k ∨ (W1.heap.size ≤ k ∧ k < W2.heap.size)) (n₀ := w.heap.size) (gf := gf) (lb := lb) rfl EG.out TL.out (by omega) (fun k h => by
      rcases h with h | h
      · have := LT.out k h; omega
      · exact h.2) (Below.refl _ _) (fun _ => rfl)
    (fun pre X => (∀ y ∈ pre, Op.bytesLess y.1.toList tt.toList = true) ∧ (∃ v, Box X (w.heap.size + 1) #[v] 24 ∧ OwnVr X W2.heap.size v ((Rs.take pre.length).flatten)) ∧ Box X w.heap.size #[.string tt] 9 ∧ Below w.heap.size w X ∧ W2.heap.size ≤ X.heap.size)
    (fun c pre X => c = .exit 0 ∧ ∃ pre0 x, pre = pre0 ++ [x] ∧ (∀ y ∈ pre0, Op.bytesLess y.1.toList tt.toList = true) ∧ Op.bytesLess x.1.toList tt.toList = false ∧ (∃ v, Box X (w.heap.size + 1) #[v] 24 ∧ OwnVr X W2.heap.size v ((Rs.take pre0.length).flatten)) ∧ Box X w.heap.size #[.string tt] 9 ∧ Below w.heap.size w X ∧ W2.heap.size ≤ X.heap.size)
    (fun s X Y hs htw => by
      obtain ⟨h0, ⟨v, h1, h2⟩, h5, h3, h4⟩ := hs
      exact ⟨h0, ⟨v, htw.cells _ _ _ _ h1 (by decide), htw.own h2 (by decide)⟩, (htw.low _ h5.lt (by omega)).trans h5, h3.trans (htw.below (by omega) (by omega)), Nat.le_trans h4 htw.size⟩)
    (fun c s X Y hs htw => by
      obtain ⟨hc, pre0, x, e, h0, h9, ⟨v, h1, h2⟩, h5, h3, h4⟩ := hs
      exact ⟨hc, pre0, x, e, h0, h9, ⟨v, htw.cells _ _ _ _ h1 (by decide), htw.own h2 (by decide)⟩, (htw.low _ h5.lt (by omega)).trans h5, h3.trans (htw.below (by omega) (by omega)), Nat.le_trans h4 htw.size⟩)
    ⟨fun y hy => (by cases hy), ⟨_, Q2.out, OwnX.nil _ _⟩, U2.out, GW.out, Nat.le_refl _⟩
    (fun x a' X => a' = { tmps := #[.pointer (some ⟨g, 0, none⟩), .string fr, .string tt, undef, undef, .pointer (some ⟨w.heap.size, 0, none⟩), .slice none 0 0, .pointer (some ⟨w.heap.size + 1, 0, none⟩), .string x.1, .slice x.2.a x.2.n x.2.c, .pointer (some ⟨g, 0, none⟩), .pointer (some ⟨g, 0, none⟩), .pointer (some ⟨g, 0, none⟩), .pointer (some ⟨b, 0, none⟩), .string fr, .func (.func gf) #[] lb, .string x.1, .slice x.2.a x.2.n x.2.c, undef, undef, undef, undef, undef, undef, undef], defers := [] })
    (fun x a' _ X Y hs htw => hs)
    ?assign ?body ?done ?stop
  case assign =>
    rintro l2 pre x X K hlt hI hK
    obtain ⟨xk, xv⟩ := x
    have HI := Lib.hid hI
    unfold Skp.encKV
    clear hs1 hs2 hI
    gi_wp2_with fail
    exact hK _ _ (Kr.refl _ _ _ _ X) HI.out rfl
  case body =>
    rintro l2 pre x a' X hX ⟨h0, ⟨v, h1, h2⟩, h6, h3, h4⟩ hsp rfl hlen
    obtain ⟨q, hq, hrow⟩ := HROW.out X h3 _ x (told_next hsp)
    obtain ⟨xk, xv⟩ := x
    have NX := Lib.hid (rows_next hq)
    have hlq : ((Rs.take (pre.length + 1)).flatten).length ≤ 1000 := Nat.le_trans (rows_len _) (Nat.le_trans RL.out HR.out)
    rw [NX.out, List.length_append] at hlq
    have P0 := Lib.hid h0
    have V := Lib.hid h1
    have O := Lib.hid h2
    have G := Lib.hid h3
    have HX := Lib.hid h4
    have TX := Lib.hid h6
    have RW := Lib.hid hrow
    have HLQ := Lib.hid hlq
    have c0 := h1.cell 0 _ rfl
    have f0 := h1.frozen 0
    have t0 := h6.cell 0 _ rfl
    cases hk : Op.bytesLess xk.toList tt.toList
    · have HK := Lib.hid hk
      clear h0 h1 h2 h3 h4 h6 hsp hlen hs1 hs2 hrow hq hlq
      gi_wp2_with fail
      exact ⟨trivial, Kr.refl _ _ _ _ X, rfl, pre, xk, ⟨xv, rfl⟩, fun a b h => P0.out (a, b) h, HK.out, ⟨v, V.out, O.out⟩, TX.out, G.out, HX.out⟩
    · have HK := Lib.hid hk
      generalize (Rs.take pre.length).flatten = acc at *
      obtain ⟨A0, k0, ev, -⟩ := h2.rd
      subst ev
      clear h0 h1 h2 h3 h4 h6 hsp hlen hs1 hs2 hrow hq hlq
      gi_wp2_with (gi_at_builtin; refine wpiX_app_rd (L := verL) rfl (.tmp 21) (.tmp 22) rfl Try.underlying24 ver_info rfl W2.heap.size X.heap.size _ _ _ q rfl rfl O.out RW.out HX.out (by have := HLQ.out; omega) (by decide) ?_; intro v5 w5 ho5 hg5; obtain ⟨A5, k5, e5', -⟩ := ho5.rd; rw [List.length_append] at e5'; subst e5'; have hv5 := V.out.keep hg5.grown (fun e => by have := O.out.base (w.heap.size + 1) e.symm; have := Z1.out; have := Z2.out; omega); have hc5 := hv5.cell 0 _ rfl; have hf5 := hv5.frozen 0)
      have hs1 := Z1.out
      have hs2 := Z2.out
      have hx := HX.out
      have K2 : Kr TAV (fun k => S0 k ∨ (W1.heap.size ≤ k ∧ k < W2.heap.size)) w.heap.size W2.heap.size X w5 := kr_row O.out (by decide) (by omega) (fun k h => by
        rcases h with h | h
        · have := LT.out k h; omega
        · exact h.2) (by omega) hg5.grown
      have h5 := hg5.grown.size
      have K3 : Kr TAV (fun k => S0 k ∨ (W1.heap.size ≤ k ∧ k < W2.heap.size)) w.heap.size W2.heap.size w5 (w5.setCell ⟨w.heap.size + 1, 0, none⟩ (.slice A5 (acc.length + q.length) k5)) := Kr.of_grown (grownBy_setCell' w5 _ _) (by omega) (fun j hj => by
        cases hj
        refine ⟨Nat.le_succ _, fun hk => ?_, fun o ho => ?_⟩
        · rcases hk with hk | hk
          · have := LT.out _ hk; omega
          · have := hk.1; omega
        · rw [show w5.heap[w.heap.size + 1]? = _ from hv5] at ho
          cases ho
          exact ⟨_, _, _, rfl, by decide⟩)
      have e5 : ((Rs.take (pre ++ [(xk, xv)]).length).flatten) = acc ++ q := by rw [List.length_append, List.length_singleton]; exact NX.out
      have tk5 : w5.heap[w.heap.size]? = X.heap[w.heap.size]? := hg5.grown.block _ TX.out.lt (fun e => by have := O.out.base w.heap.size e.symm; omega)
      refine ⟨K2.trans K3, fun yk yv hy => ?_, ⟨_, hv5.set 0 _, by rw [e5]; exact ho5.keep (grownBy_setCell' w5 _ _) (.inr fun e => by have := ho5.base _ e; omega)⟩, ((grownBy_setCell' w5 _ _ : w5.grownBy (w5.setCell ⟨w.heap.size + 1, 0, none⟩ (.slice A5 (acc.length + q.length) k5)) _).block _ (by have := TX.out.lt; omega) (fun e => by injection e with e; simp at e)).trans (tk5.trans TX.out), G.out.trans ((hg5.below (base := w.heap.size) (by omega) (fun k hk => by have := O.out.base k hk; omega)).setCell (p := ⟨w.heap.size + 1, 0, none⟩) (Nat.le_succ _) _), Nat.le_trans hx (Nat.le_trans h5 (grownBy_setCell' w5 _ _).size)⟩
      rcases List.mem_append.1 hy with h1 | h1
      · exact P0.out (yk, yv) h1
      · have e := List.mem_singleton.1 h1
        injection e with e1 e2
        rw [e1]; exact HK.out
  case done =>
    rintro D ys X hD rfl ⟨h0, ⟨v, h1, h2⟩, h6, h3, h4⟩ hK
    have hfin : (Rs.take ys.length).flatten = R := by rw [ER.out]; exact RT.out _ (Nat.le_refl _) (fun i x hi hx => h0 x (List.mem_of_getElem? hx)) (.inl rfl)
    rw [hfin] at h2
    have hc := h1.cell 0 _ rfl
    have H2 := Lib.hid h2
    obtain ⟨A0, c0', ev, -⟩ := h2.rd
    subst ev
    clear h2 hs1 hs2 hfin h0
    gi_wp2_with fail
    have hs1 := Z1.out
    have hs2 := Z2.out
    refine ⟨by simp, .inl ⟨_, _, rfl, run_takeDeferred (show X.heap[D]? = _ from hK), ?_⟩⟩
    exact ⟨_, results_tmp rfl _ _ _, _, rfl, OwnX.mono (ownX_put H2.out hK _) (by omega), h3.trans (belowK_b (w := w) (Nat.le_refl _) X D _ _ (by omega) hK rfl rfl)⟩
  case stop =>
    rintro D c pre X hD hsp ⟨rfl, pre0, x, rfl, h0, h9, ⟨v, h1, h2⟩, h6, h3, h4⟩ hK
    have hfin : (Rs.take pre0.length).flatten = R := by
      have hx := told_next hsp
      rw [ER.out]
      refine RT.out _ (Nat.le_of_lt (List.getElem?_eq_some_iff.1 hx).1) (fun i y hi hy => ?_) (.inr ⟨x, hx, h9⟩)
      obtain ⟨-, r2, e2⟩ := hsp
      rw [e2, List.append_assoc, List.getElem?_append_left hi] at hy
      exact h0 y (List.mem_of_getElem? hy)
    rw [hfin] at h2
    have hc := h1.cell 0 _ rfl
    have H2 := Lib.hid h2
    obtain ⟨A0, c0', ev, -⟩ := h2.rd
    subst ev
    clear h2 hs1 hs2 hfin h0 hsp
    gi_wp2_with fail
    have hs1 := Z1.out
    have hs2 := Z2.out
    refine ⟨by simp, .inl ⟨_, _, rfl, run_takeDeferred (show X.heap[D]? = _ from hK), ?_⟩⟩
    exact ⟨_, results_tmp rfl _ _ _, _, rfl, OwnX.mono (ownX_put H2.out hK _) (by omega), h3.trans (belowK_b (w := w) (Nat.le_refl _) X D _ _ (by omega) hK rfl rfl)⟩
end Go.Proofs.Ytigdkflknhdbgaa
