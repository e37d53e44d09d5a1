/- Layer 13: the keys of an index, out of what its list tells one by one. -/
import Derived.Test.YtigdkflknhdbgaaDf
import Derived.Test.YtigdkflknhdbgaaCc
namespace Go.Proofs.Ytigdkflknhdbgaa
open Go.RowKit Go.Shelf
set_option linter.unusedVariables false
attribute [local go_sem] Oper.semAt_some

/-- What a round of Keys may turn. -/
def TKV (t : TypeId) : Bool := t == 9 || t == 53
set_option maxRecDepth 100000 in
set_option maxHeartbeats 4000000 in
theorem ch_keys {n : Nat} (w : World) (S : Nat → Prop) (p : Value) (r : List Ver) (h : Int) (hc : ChS n w S p r h) (hr : r.length ≤ 1000) :
    Calls Try.prog 22 #[p] w fun z w' => ∃ v', z = .returned v' ∧ OwnX strL 9 w' w.heap.size v' (keysV r) ∧ Below w.heap.size w w' := by
  obtain ⟨g, pl, l, Ls, S0, rfl, hb, hl, er, -⟩ := hc
  obtain ⟨b, rfl⟩ := hl.ptr
  have hll : l.length ≤ 1000 := Nat.le_trans hl.keys_len (by rw [← er]; exact hr)
  obtain ⟨W1, hW1⟩ : ∃ W1, w.alloc (.cells #[.slice none 0 0] 53) = W1 := ⟨_, rfl⟩
  have hb1 : Below w.heap.size w W1 := by rw [← hW1]; exact alloc_below _ _
  have b2 : Box W1 w.heap.size #[.slice none 0 0] 53 := by rw [← hW1]; exact Box.new w _ _ _ rfl
  have hs1 : W1.heap.size = w.heap.size + 1 := by rw [← hW1]; simp
  have FR := Lib.hid (chl_from (T := TKV) (hl.stay fun k hk => hb1.block k (hl.lt hk)) ⟨#[]⟩ hll)
  have LT := Lib.hid (fun k (hk : S0 k) => hl.lt hk)
  have KS := Lib.hid (show (Skp.kvI (Skp.fromI l ⟨#[]⟩)).map (·.1) = keysV r from by rw [er, hl.grp.keys_is]; unfold Skp.kvI Skp.fromI; rw [at_empty, List.drop_zero, List.map_map]; rfl)
  have KL := Lib.hid (show (Skp.kvI (Skp.fromI l ⟨#[]⟩)).length ≤ 1000 from by unfold Skp.kvI Skp.fromI; rw [List.length_map, List.length_drop]; omega)
  have g0 := (hb1.block g hb.lt).trans hb
  have c0 := Box.cell g0 0 _ rfl
  generalize Skp.fromI l ⟨#[]⟩ = fs at *
  clear hl hb er hr hll g0
  refine (callsIn_wide (n := 4)).1 ?_
  refine callsIn_of_wp_marks Try.func22 rfl trivial ?_ rfl
  simp only [Try.ntmps22, List.size_toArray, List.length_cons, List.length_nil, Nat.reduceAdd, Nat.reduceSub, Array.replicate_succ, Array.replicate_zero, List.push_toArray, List.append_toArray, List.nil_append, List.cons_append]
  have B2 := Lib.hid b2
  have G1 := Lib.hid hb1
  clear b2 hb1
  gi_wp2_with fail
  clear hW1
  refine ⟨trivial, (callsIn_wide.2 FR.out).mono ?_⟩
  rintro e W2 ⟨gf, lb, rfl, eg, hb2, hT⟩
  have TL := Lib.hid (hT False w.heap.size (Nat.le_trans (by omega) hb2.size))
  have EG := Lib.hid eg
  have GW := Lib.hid (G1.out.trans (hb2.mono G1.out.size))
  have b2 : Box W2 w.heap.size #[.slice none 0 0] 53 := B2.out.later hb2
  have hs2 := hb2.size
  clear hT eg FR hb2 B2 c0
  generalize Skp.kvI fs = ks at *
  have Z1 := Lib.hid hs1
  have Z2 := Lib.hid hs2
  have Q2 := Lib.hid b2
  clear b2 hs1 hs2
  gi_wp2_with fail
  have hs1 := Z1.out
  have hs2 := Z2.out
  refine wpIn_rangeTell2 (P := Try.prog) (Z := False) (T := TKV) (Kp := fun k => S0 k ∨ (W1.heap.size ≤ k ∧ k < W2.heap.size)) (n₀ := w.heap.size) (gf := gf) (lb := lb) rfl EG.out TL.out (by omega) (fun k h => by
      rcases h with h | h
      · have := LT.out k h; omega
      · exact h.2) (Below.refl _ _) (fun _ => rfl)
    (fun pre X => (∃ v, Box X w.heap.size #[v] 53 ∧ OwnX strL 9 X W2.heap.size v (pre.map (·.1))) ∧ Below w.heap.size w X ∧ W2.heap.size ≤ X.heap.size)
    (fun _ _ _ => False)
    (fun s X Y hs htw => by
      obtain ⟨⟨v, h1, h2⟩, h3, h4⟩ := hs
      exact ⟨⟨v, htw.cells _ _ _ _ h1 (by decide), htw.own h2 (by decide)⟩, h3.trans (htw.below (by omega) (by omega)), Nat.le_trans h4 htw.size⟩)
    (fun _ _ _ _ hs _ => hs)
    ⟨⟨_, Q2.out, OwnX.nil _ _⟩, GW.out, Nat.le_refl _⟩
    (fun x a' X => a' = { tmps := #[.pointer (some ⟨g, 0, none⟩), undef, .slice none 0 0, .pointer (some ⟨w.heap.size, 0, none⟩), .string x.1, .pointer (some ⟨g, 0, none⟩), .pointer (some ⟨g, 0, none⟩), .pointer (some ⟨g, 0, none⟩), .pointer (some ⟨b, 0, none⟩), .func (.func gf) #[] lb, .string x.1, .slice x.2.a x.2.n x.2.c, undef, undef, undef, undef, undef], defers := [] })
    (fun x a' _ X Y hs htw => hs)
    ?assign ?body ?done ?stop
  case assign =>
    rintro l2 pre x X K hlt hI hK
    obtain ⟨xk, xv⟩ := x
    have HI := Lib.hid hI
    unfold Skp.encKV
    clear hs1 hs2 hI
    gi_wp2_with fail
    exact hK _ _ (Kr.refl _ _ _ _ X) HI.out rfl
  case body =>
    rintro l2 pre x a' X hX ⟨⟨v, h1, h2⟩, h3, h4⟩ hsp rfl hlen
    obtain ⟨xk, xv⟩ := x
    have V := Lib.hid h1
    have O := Lib.hid h2
    have G := Lib.hid h3
    have HX := Lib.hid h4
    have HLQ := Lib.hid (show (pre.map (·.1)).length ≤ 1000 from by rw [List.length_map]; omega)
    have c0 := h1.cell 0 _ rfl
    have f0 := h1.frozen 0
    have MP := Lib.hid (show (pre ++ [(xk, xv)]).map (·.1) = pre.map (·.1) ++ [xk] from by rw [List.map_append]; rfl)
    generalize pre.map (·.1) = acc at *
    obtain ⟨A0, k0, ev, -⟩ := h2.rd
    subst ev
    clear h1 h2 h3 h4 hsp hlen hs1 hs2
    gi_wp2_with (gi_at_builtin; refine wpiX_app (L := strL) rfl (.tmp 12) (.tmp 14) rfl Try.underlying53 str_info rfl W2.heap.size _ acc [xk] _ _ _ rfl rfl rfl rfl O.out HX.out (by rw [List.length_singleton]; have := HLQ.out; omega) (by decide) ?_; intro v5 w5 ho5 hg5; obtain ⟨A5, k5, e5', -⟩ := ho5.rd; rw [List.length_append, List.length_singleton] at e5'; subst e5'; have hv5 := (Box.alloc V.out (.cells #[.string xk] 9)).keep hg5.grown (fun e => by have := O.out.base w.heap.size e.symm; have := Z1.out; have := Z2.out; omega); have hc5 := hv5.cell 0 _ rfl; have hf5 := hv5.frozen 0)
    have hs1 := Z1.out
    have hs2 := Z2.out
    have hx := HX.out
    have hal : (X.alloc (.cells #[.string xk] 9)).heap.size = X.heap.size + 1 := by simp
    have hKp : ∀ k, (S0 k ∨ (W1.heap.size ≤ k ∧ k < W2.heap.size)) → k < W2.heap.size := fun k h => by
      rcases h with h | h
      · have := LT.out k h; omega
      · exact h.2
    have K1 : Kr TKV (fun k => S0 k ∨ (W1.heap.size ≤ k ∧ k < W2.heap.size)) w.heap.size W2.heap.size X (X.alloc (.cells #[.string xk] 9)) := (Kr.refl _ _ _ _ X).alloc (by omega) _
    have OA := O.out.on (alloc_below X (.cells #[.string xk] 9))
    have K2 : Kr TKV (fun k => S0 k ∨ (W1.heap.size ≤ k ∧ k < W2.heap.size)) w.heap.size W2.heap.size (X.alloc (.cells #[.string xk] 9)) w5 := kr_row OA (by decide) (by omega) hKp (by omega) hg5.grown
    have h5 := hg5.grown.size
    have K3 : Kr TKV (fun k => S0 k ∨ (W1.heap.size ≤ k ∧ k < W2.heap.size)) w.heap.size W2.heap.size w5 (w5.setCell ⟨w.heap.size, 0, none⟩ (.slice A5 (acc.length + 1) k5)) := Kr.of_grown (grownBy_setCell' w5 _ _) (by omega) (fun j hj => by
      cases hj
      refine ⟨Nat.le_refl _, fun hk => ?_, fun o ho => ?_⟩
      · rcases hk with hk | hk
        · have := LT.out _ hk; omega
        · have := hk.1; omega
      · rw [show w5.heap[w.heap.size]? = _ from hv5] at ho
        cases ho
        exact ⟨_, _, _, rfl, by decide⟩)
    refine ⟨(K1.trans K2).trans K3, ⟨_, hv5.set 0 _, by rw [MP.out]; exact ho5.keep (grownBy_setCell' w5 _ _) (.inr fun e => by have := ho5.base _ e; omega)⟩, (G.out.trans ((Below.refl w.heap.size X).alloc (by omega) _)).trans ((hg5.below (base := w.heap.size) (by omega) (fun k hk => by have := O.out.base k hk; omega)).setCell (p := ⟨w.heap.size, 0, none⟩) (Nat.le_refl _) _), ?_⟩
    have := (grownBy_setCell' w5 _ _ : w5.grownBy (w5.setCell ⟨w.heap.size, 0, none⟩ (.slice A5 (acc.length + 1) k5)) _).size
    omega
  case done =>
    rintro D ys X hD rfl ⟨⟨v, h1, h2⟩, h3, h4⟩ hK
    obtain ⟨kr, hkr⟩ : ∃ kr, keysV r = kr := ⟨_, rfl⟩
    rw [KS.out, hkr] at h2
    have HKR := Lib.hid hkr
    clear hkr
    have hc := h1.cell 0 _ rfl
    have H2 := Lib.hid h2
    obtain ⟨A0, c0', ev, -⟩ := h2.rd
    subst ev
    clear h2 hs1 hs2
    gi_wp2_with fail
    have hs1 := Z1.out
    have hs2 := Z2.out
    have OP := ownX_put H2.out hK (.deferred none)
    have OM := OwnX.mono (base' := w.heap.size) OP (by omega)
    refine ⟨by simp, .inl ⟨_, _, rfl, run_takeDeferred (show X.heap[D]? = _ from hK), ?_⟩⟩
    exact ⟨_, results_tmp rfl _ _ _, .slice A0 kr.length c0', rfl, (by rw [HKR.out]; exact OM), h3.trans (belowK_b (w := w) (Nat.le_refl _) X D _ _ (by omega) hK rfl rfl)⟩
  case stop =>
    rintro D c pre X _ _ h _
    exact h.elim
end Go.Proofs.Ytigdkflknhdbgaa
