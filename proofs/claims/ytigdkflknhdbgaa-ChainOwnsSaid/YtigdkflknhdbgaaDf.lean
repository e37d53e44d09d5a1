/- Layer 13: all versions of an index, out of what its list tells one by one. -/
import Derived.Test.YtigdkflknhdbgaaDe
import Derived.Test.YtigdkflknhdbgaaKg
import Derived.Test.YtigdkflknhdbgaaBwx
import Derived.RangeFuncBound
import Derived.RangeFuncLeaves
import Derived.Shelf.Abstract
import Derived.Shelf.RegionOpen
import Derived.OwnWalkIn
import Derived.TacticsInMore
import Derived.LoopNIn
import Derived.LoopIn
namespace Go.Proofs.Ytigdkflknhdbgaa
open Go.RowKit Go.Shelf
set_option linter.unusedVariables false
attribute [local go_sem] Oper.semAt_some

section
variable {α : Type} {L : Lay α} {e : TypeId} {P : Program} {F : Fence} {n : Nat}
theorem wpiX_app_rd {w : World} {ops : Array Oper} {rest : List Oper} {o : Oper} {a : Act} {Q : Exit → Act → World → Prop} {t : TypeId} {z : Value} {bytes : Nat} (hgd : o.guard = none) (s x : Operand)
    (ho : o.op = .call { callee := .builtin .append, args := #[s, x], argTypes := #[t, t] })
    (ht : P.underlying t = some (.slice e)) (hinfo : (P.info? e).map (fun i => (i.zero, i.size, i.bytes)) = some (some z, L.sz, bytes)) (hzs : z.cells.size = L.sz)
    (base B : Nat) (v u : Value) (l r : List α) (hs : a.eval s = v) (hx : a.eval x = u)
    (hown : OwnX L e w base v l) (hrd : RdX L w B u r) (hb : base ≤ w.heap.size) (hlen : l.length + r.length ≤ 1000000000) (hbytes : bytes ≤ 1000)
    (h : ∀ v' w', OwnX L e w' base v' (l ++ r) → Grew w w' v v' → wpListIn F n P ops Q rest (a.put o.dst v') w') :
    wpListIn F n P ops Q (o :: rest) a w := by
  obtain ⟨v', w', hrun, h2, h3, -⟩ := appX_rd (P := P) (W := w) (ty := o.type) ht hinfo hzs hown hrd hb hlen hbytes
  refine wpListIn_plain hgd fun K hK' => ?_
  unfold Oper.wpIn
  refine ⟨by simp [Oper.about, ho, resolve, Target.leads, Sem.run_pure], ?_⟩
  rw [Oper.semAt_plain F _ _ (by rw [ho]; intro c hc'; cases hc')]
  simp [execOp, ho, resolve, invoke, builtin, hs, hx, hrun, Result.andThen]
  exact hK' _ _ (h v' w' h2 h3)
end

section
variable {n : Nat} {w : World} {S : Nat → Prop} {p : Value} {l : List Skp.It} {Ls : List (List Ver)}
theorem chl_from {T : TypeId → Bool} (h : ChL n w S p l Ls) (key : ByteArray) (hl : l.length ≤ 1000) :
    Calls Try.prog 30 #[p, .string key] w (Skp.FromI T (fun w w' k => S k ∨ (w.heap.size ≤ k ∧ k < w'.heap.size)) (Skp.fromI l key) w) := by
  obtain ⟨mk, M, h1, rfl, hs, ht, hg, ho, hS⟩ := h
  exact Skp.p_from mk M l key w S (fun i hi => (hS i).2 (.inl hi)) hs hl
/-- The row of what is told next. -/
theorem chl_row (h : ChL n w S p l Ls) {key : ByteArray} {j : Nat} {x : ByteArray × Skp.Sl} (hx : (Skp.kvI (Skp.fromI l key))[j]? = some x) :
    ∃ q, (Ls.drop (Skp.atI key l))[j]? = some q ∧ RdVr w w.heap.size (.slice x.2.a x.2.n x.2.c) q := by
  obtain ⟨mk, M, h1, rfl, hs, ht, hg, ho, hS⟩ := h
  rw [from_at] at hx
  rw [Option.map_eq_some_iff] at hx
  obtain ⟨y, hy, rfl⟩ := hx
  obtain ⟨q, hq⟩ := ht.both hy
  exact ⟨q, by rw [List.getElem?_drop]; exact hq, (ht.own _ _ _ hy hq).rd⟩
theorem told_next {ks pre : List (ByteArray × Skp.Sl)} {x : ByteArray × Skp.Sl} (h : pre ++ [x] ≠ [] ∧ ∃ r, ks = pre ++ [x] ++ r) : ks[pre.length]? = some x := by
  obtain ⟨-, r, rfl⟩ := h
  rw [List.append_assoc, List.getElem?_append_right (Nat.le_refl _), Nat.sub_self]
  rfl
theorem rows_next {Rs : List (List Ver)} {j : Nat} {q : List Ver} (h : Rs[j]? = some q) : (Rs.take (j + 1)).flatten = (Rs.take j).flatten ++ q := by
  rw [List.take_add_one, h, List.flatten_append]
  simp
theorem rows_len {Rs : List (List Ver)} (j : Nat) : (Rs.take j).flatten.length ≤ Rs.flatten.length := by
  have : Rs.flatten = (Rs.take j).flatten ++ (Rs.drop j).flatten := by rw [← List.flatten_append, List.take_append_drop]
  rw [this, List.length_append]
  omega
theorem told_len {key : ByteArray} (h : l.length = Ls.length) : (Skp.kvI (Skp.fromI l key)).length = (Ls.drop (Skp.atI key l)).length := by
  unfold Skp.kvI Skp.fromI
  rw [List.length_map, List.length_drop, List.length_drop, h]
end

/-- What a round of All may turn. -/
def TAV (t : TypeId) : Bool := t == 47 || t == 24
set_option maxRecDepth 100000 in
set_option maxHeartbeats 4000000 in
theorem ch_all {n : Nat} (w : World) (S : Nat → Prop) (p : Value) (r : List Ver) (h : Int) (hc : ChS n w S p r h) (hr : r.length ≤ 1000) :
    Calls Try.prog 21 #[p] w fun z w' => ∃ v', z = .returned v' ∧ OwnVr w' w.heap.size v' r ∧ Below w.heap.size w w' := by
  obtain ⟨g, pl, l, Ls, S0, rfl, hb, hl, er, -⟩ := hc
  obtain ⟨b, rfl⟩ := hl.ptr
  have hll : l.length ≤ 1000 := Nat.le_trans hl.keys_len (by rw [← er]; exact hr)
  obtain ⟨W1, hW1⟩ : ∃ W1, w.alloc (.cells #[.slice none 0 0] 24) = W1 := ⟨_, rfl⟩
  have hb1 : Below w.heap.size w W1 := by rw [← hW1]; exact alloc_below _ _
  have b2 : Box W1 w.heap.size #[.slice none 0 0] 24 := by rw [← hW1]; exact Box.new w _ _ _ rfl
  have hs1 : W1.heap.size = w.heap.size + 1 := by rw [← hW1]; simp
  have FR := Lib.hid (chl_from (T := TAV) (hl.stay fun k hk => hb1.block k (hl.lt hk)) ⟨#[]⟩ hll)
  have LT := Lib.hid (fun k (hk : S0 k) => hl.lt hk)
  have HROW := Lib.hid (fun (X : World) (hX : Below w.heap.size w X) (j : Nat) (x : ByteArray × Skp.Sl) (hx : (Skp.kvI (Skp.fromI l ⟨#[]⟩))[j]? = some x) => chl_row (hl.stay (w' := X) fun k hk => hX.block k (hl.lt hk)) hx)
  have HLEN := Lib.hid (told_len (key := ⟨#[]⟩) hl.grp.len.symm)
  have ED := Lib.hid (show Ls.drop (Skp.atI ⟨#[]⟩ l) = Ls from by rw [at_empty]; rfl)
  have HR := Lib.hid (show Ls.flatten.length ≤ 1000 from by rw [← er]; exact hr)
  rw [ED.out] at HROW HLEN
  have ER := Lib.hid er
  have g0 := (hb1.block g hb.lt).trans hb
  have c0 := Box.cell g0 0 _ rfl
  generalize Skp.fromI l ⟨#[]⟩ = fs at *
  clear hl hb er hr hll g0
  refine (callsIn_wide (n := 4)).1 ?_
  refine callsIn_of_wp_marks Try.func21 rfl trivial ?_ rfl
  simp only [Try.ntmps21, List.size_toArray, List.length_cons, List.length_nil, Nat.reduceAdd, Nat.reduceSub, Array.replicate_succ, Array.replicate_zero, List.push_toArray, List.append_toArray, List.nil_append, List.cons_append]
  have B2 := Lib.hid b2
  have G1 := Lib.hid hb1
  clear b2 hb1
  gi_wp2_with fail
  clear hW1
  refine ⟨trivial, (callsIn_wide.2 FR.out).mono ?_⟩
  rintro e W2 ⟨gf, lb, rfl, eg, hb2, hT⟩
  have TL := Lib.hid (hT False w.heap.size (Nat.le_trans (by omega) hb2.size))
  have EG := Lib.hid eg
  have GW := Lib.hid (G1.out.trans (hb2.mono G1.out.size))
  have b2 : Box W2 w.heap.size #[.slice none 0 0] 24 := B2.out.later hb2
  have hs2 := hb2.size
  clear hT eg FR hb2 B2 c0
  generalize Skp.kvI fs = ks at *
  have Z1 := Lib.hid hs1
  have Z2 := Lib.hid hs2
  have Q2 := Lib.hid b2
  clear b2 hs1 hs2
  gi_wp2_with fail
  have hs1 := Z1.out
  have hs2 := Z2.out
  refine wpIn_rangeTell2 (P := Try.prog) (Z := False) (T := TAV) (Kp := fun k => S0 k ∨ (W1.heap.size ≤ k ∧ k < W2.heap.size)) (n₀ := w.heap.size) (gf := gf) (lb := lb) rfl EG.out TL.out (by omega) (fun k h => by
      rcases h with h | h
      · have := LT.out k h; omega
      · exact h.2) (Below.refl _ _) (fun _ => rfl)
    (fun pre X => (∃ v, Box X w.heap.size #[v] 24 ∧ OwnVr X W2.heap.size v ((Ls.take pre.length).flatten)) ∧ Below w.heap.size w X ∧ W2.heap.size ≤ X.heap.size)
    (fun _ _ _ => False)
    (fun s X Y hs htw => by
      obtain ⟨⟨v, h1, h2⟩, h3, h4⟩ := hs
      exact ⟨⟨v, htw.cells _ _ _ _ h1 (by decide), htw.own h2 (by decide)⟩, h3.trans (htw.below (by omega) (by omega)), Nat.le_trans h4 htw.size⟩)
    (fun _ _ _ _ hs _ => hs)
    ⟨⟨_, Q2.out, OwnX.nil _ _⟩, GW.out, Nat.le_refl _⟩
    (fun x a' X => a' = { tmps := #[.pointer (some ⟨g, 0, none⟩), undef, .slice none 0 0, .pointer (some ⟨w.heap.size, 0, none⟩), undef, .slice x.2.a x.2.n x.2.c, .pointer (some ⟨g, 0, none⟩), .pointer (some ⟨g, 0, none⟩), .pointer (some ⟨g, 0, none⟩), .pointer (some ⟨b, 0, none⟩), .func (.func gf) #[] lb, .string x.1, .slice x.2.a x.2.n x.2.c, undef, undef, undef, undef], defers := [] })
    (fun x a' _ X Y hs htw => hs)
    ?assign ?body ?done ?stop
  case assign =>
    rintro l2 pre x X K hlt hI hK
    obtain ⟨xk, xv⟩ := x
    have HI := Lib.hid hI
    unfold Skp.encKV
    clear hs1 hs2 hI
    gi_wp2_with fail
    exact hK _ _ (Kr.refl _ _ _ _ X) HI.out rfl
  case body =>
    rintro l2 pre x a' X hX ⟨⟨v, h1, h2⟩, h3, h4⟩ hsp rfl hlen
    obtain ⟨q, hq, hrow⟩ := HROW.out X h3 _ x (told_next hsp)
    obtain ⟨xk, xv⟩ := x
    have NX := Lib.hid (rows_next hq)
    have hlq : ((Ls.take (pre.length + 1)).flatten).length ≤ 1000 := Nat.le_trans (rows_len _) HR.out
    rw [NX.out, List.length_append] at hlq
    generalize (Ls.take pre.length).flatten = acc at *
    have V := Lib.hid h1
    have O := Lib.hid h2
    have G := Lib.hid h3
    have HX := Lib.hid h4
    have RW := Lib.hid hrow
    have HLQ := Lib.hid hlq
    have c0 := h1.cell 0 _ rfl
    have f0 := h1.frozen 0
    obtain ⟨A0, k0, ev, -⟩ := h2.rd
    subst ev
    clear h1 h2 h3 h4 hsp hlen hs1 hs2 hrow hq hlq
    gi_wp2_with (gi_at_builtin; refine wpiX_app_rd (L := verL) rfl (.tmp 13) (.tmp 14) rfl Try.underlying24 ver_info rfl W2.heap.size X.heap.size _ _ _ q rfl rfl O.out RW.out HX.out (by have := HLQ.out; omega) (by decide) ?_; intro v5 w5 ho5 hg5; obtain ⟨A5, k5, e5', -⟩ := ho5.rd; rw [List.length_append] at e5'; subst e5'; have hv5 := V.out.keep hg5.grown (fun e => by have := O.out.base w.heap.size e.symm; have := Z1.out; have := Z2.out; omega); have hc5 := hv5.cell 0 _ rfl; have hf5 := hv5.frozen 0)
    have hs1 := Z1.out
    have hs2 := Z2.out
    have hx := HX.out
    have K2 : Kr TAV (fun k => S0 k ∨ (W1.heap.size ≤ k ∧ k < W2.heap.size)) w.heap.size W2.heap.size X w5 := kr_row O.out (by decide) (by omega) (fun k h => by
      rcases h with h | h
      · have := LT.out k h; omega
      · exact h.2) (by omega) hg5.grown
    have h5 := hg5.grown.size
    have K3 : Kr TAV (fun k => S0 k ∨ (W1.heap.size ≤ k ∧ k < W2.heap.size)) w.heap.size W2.heap.size w5 (w5.setCell ⟨w.heap.size, 0, none⟩ (.slice A5 (acc.length + q.length) k5)) := Kr.of_grown (grownBy_setCell' w5 _ _) (by omega) (fun j hj => by
      cases hj
      refine ⟨Nat.le_refl _, fun hk => ?_, fun o ho => ?_⟩
      · rcases hk with hk | hk
        · have := LT.out _ hk; omega
        · have := hk.1; omega
      · rw [show w5.heap[w.heap.size]? = _ from hv5] at ho
        cases ho
        exact ⟨_, _, _, rfl, by decide⟩)
    have e5 : ((Ls.take (pre ++ [(xk, xv)]).length).flatten) = acc ++ q := by rw [List.length_append, List.length_singleton]; exact NX.out
    refine ⟨K2.trans K3, ⟨_, hv5.set 0 _, by rw [e5]; exact ho5.keep (grownBy_setCell' w5 _ _) (.inr fun e => by have := ho5.base _ e; omega)⟩, G.out.trans ((hg5.below (base := w.heap.size) (by omega) (fun k hk => by have := O.out.base k hk; omega)).setCell (p := ⟨w.heap.size, 0, none⟩) (Nat.le_refl _) _), Nat.le_trans hx (Nat.le_trans h5 (grownBy_setCell' w5 _ _).size)⟩
  case done =>
    rintro D ys X hD rfl ⟨⟨v, h1, h2⟩, h3, h4⟩ hK
    have hfin : (Ls.take ys.length).flatten = r := by rw [HLEN.out, List.take_length]; exact ER.out.symm
    rw [hfin] at h2
    have hc := h1.cell 0 _ rfl
    have H2 := Lib.hid h2
    obtain ⟨A0, c0', ev, -⟩ := h2.rd
    subst ev
    clear h2 hs1 hs2 hfin
    gi_wp2_with fail
    have hs1 := Z1.out
    have hs2 := Z2.out
    refine ⟨by simp, .inl ⟨_, _, rfl, run_takeDeferred (show X.heap[D]? = _ from hK), ?_⟩⟩
    exact ⟨_, results_tmp rfl _ _ _, _, rfl, OwnX.mono (ownX_put H2.out hK _) (by omega), h3.trans (belowK_b (w := w) (Nat.le_refl _) X D _ _ (by omega) hK rfl rfl)⟩
  case stop =>
    rintro D c pre X _ _ h _
    exact h.elim
end Go.Proofs.Ytigdkflknhdbgaa
