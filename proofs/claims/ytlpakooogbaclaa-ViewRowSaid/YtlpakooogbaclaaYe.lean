/- Layer 14: the value at a time, by the project: a range over slices.Backward that a break, or a return, leaves. -/
import Derived.Test.YtlpakooogbaclaaYc
import Derived.Test.YtlpakooogbaclaaGg
import Derived.Test.YtlpakooogbaclaaPa
import Derived.RangeFuncNested
import Derived.RangeFuncBound
import Derived.RangeFuncCalls
import Derived.RangeFuncLeaves
import Derived.RangeFuncBox
import Derived.Shelf.Abstract
import Derived.Shelf.RegionOpen
import Derived.OwnWalkIn
import Derived.TacticsInMore
import Derived.LoopNIn
import Derived.LoopIn
namespace Go.Proofs.Ytlpakooogbaclaa
open Go.RowKit Go.Shelf
set_option linter.unusedVariables false
attribute [local go_sem] Oper.semAt_some

theorem results_cell2 {fn : Func} {p q : Tmp} {ty tq : TypeId} {a b : Addr} {x y : Value} (h : fn.results = #[.cell p ty, .cell q tq]) (tmps : Array Value) (P : Program) (w : World)
    (ha : tmps.getD p undef = .pointer (some a)) (hb : tmps.getD q undef = .pointer (some b)) (hx : (loadVar ty a).run P w = .ok x w) (hy : (loadVar tq b).run P w = .ok y w) : (results fn tmps).run P w = .ok (.tuple #[x, y]) w := by
  have h1 : (asAddr (tmps.getD p undef)).run P w = .ok a w := by rw [ha]; rfl
  have h2 : (asAddr (tmps.getD q undef)).run P w = .ok b w := by rw [hb]; rfl
  simp only [Array.getD_eq_getD_getElem?] at h1 h2
  simp only [results, h]
  simp [Sem.run_bind, Result.andThen, h1, h2, hx, hy]

theorem p_backward (A : Option Addr) (n c : Nat) (w : World) :
    Calls Try.prog 43 #[.slice A n c] w fun e w' => e = .returned (.func (.func 64) #[] #[.pointer (some ⟨w.heap.size, 0, none⟩)]) ∧ w' = w.alloc (.cells #[.slice A n c] 22) := by
  have hmf : ∀ (fn : Fn) (first cap : Array Value) (w : World), (Instr.makeFunc fn first cap).run Try.prog w = .ok (.func fn first cap) w := fun _ _ _ _ => rfl
  go_enter Try.func43, Try.ntmps43
  go_wp2_with fail
  go_ret
  exact ⟨rfl, rfl⟩

theorem keeps_belowG {w w' : World} (hb : Below w.heap.size w w') : KeepsOthers w w' := ⟨hb.size, fun k o hk _ => (hb.block k (Array.getElem?_eq_some_iff.1 hk).1).trans hk⟩
theorem drop_rev {o : List Ver} {k : Nat} (h : k < o.length) : (o.drop k).reverse = (o.drop (k + 1)).reverse ++ [o[k]] := by
  rw [List.drop_eq_getElem_cons h, List.reverse_cons]

set_option maxRecDepth 100000 in
set_option maxHeartbeats 1000000 in
theorem back_stops (n n₀ s1 : Nat) (v : Value) (o : List Ver) (w : World) (hn : n₀ ≤ w.heap.size) (hs : s1 < n₀) (h1 : Box w s1 #[v] 22) (hr : RdVr w n₀ v o) (hl : o.length ≤ 1000) :
    SeqStopsK Fence.wide n Try.prog 64 #[.pointer (some ⟨s1, 0, none⟩)] (fun x : Nat × Ver => #[.int .i64 (x.1 : Int), verV x.2]) (Below n₀)
      (fun xs => xs.map Prod.snd = o.reverse) (fun pre => pre.map Prod.snd <+: o.reverse) o.length w := fun L J Jx W hW hJ hJx hY h0 => by
  have B1 := Lib.hid h1
  have R := Lib.hid hr
  have HY := Lib.hid hY
  have H0 := Lib.hid h0
  have G := Lib.hid (hW.mono hn)
  have b0 : W.cell? ⟨s1, 0, none⟩ = some v := (h1.on (hW.mono hn) hs).cell 0 _ rfl
  clear hY hJ hJx h0 hW h1
  obtain ⟨A, c, rfl, hlc, hcc, -⟩ := hr
  have hw0 : IntKind.i64.wrap ((o.length : Int) - 1) = (o.length : Int) - 1 := by rw [IntKind.wrap_i64]; omega
  refine callsIn_of_wp Try.func64 rfl trivial ?_ rfl
  simp only [Try.ntmps64, List.size_toArray, List.length_cons, List.length_nil, Nat.reduceAdd, Nat.reduceSub, Array.replicate_succ, Array.replicate_zero, List.push_toArray, List.append_toArray, List.nil_append, List.cons_append]
  gi_wp2_with fail
  clear b0 hw0
  gi_loopw [3] (fun i wr => ∃ (k : Nat) (pre : List (Nat × Ver)), i = .int .i64 ((k : Int) - 1) ∧ k ≤ o.length ∧ pre.length + k = o.length ∧ pre.map Prod.snd = (o.drop k).reverse ∧ J pre wr ∧ Below n₀ W wr) (fun i _ => (intOf i + 1).toNat)
  case atStart => exact ⟨o.length, [], rfl, Nat.le_refl _, by simp, by rw [List.drop_length]; rfl, H0.out, Below.refl _ _⟩
  case round =>
    obtain ⟨k1, pre, rfl, hk, hpl, hps, hjp, hb⟩ := hrel
    have HP := Lib.hid hps
    have HJP := Lib.hid hjp
    have GB := Lib.hid hb
    have HPL := Lib.hid hpl
    have b1 : wr.cell? ⟨s1, 0, none⟩ = some (.slice A o.length c) := (B1.out.on (G.out.trans hb) hs).cell 0 _ rfl
    clear hps hjp hb hpl
    cases k1 with
    | zero =>
      have zl : decide ((0 : Int) ≤ ((0 : Nat) : Int) - 1) = false := by decide
      have HE := Lib.hid (show pre.map Prod.snd = o.reverse from by rw [HP.out]; rfl)
      gi_wp2_with fail
      go_end0
      exact ⟨⟨_, rfl⟩, .inl ⟨pre, HE.out, HJP.out⟩⟩
    | succ k =>
      have e1 : ((k + 1 : Nat) : Int) - 1 = (k : Int) := by omega
      rw [e1]
      clear e1
      have zl : decide ((0 : Int) ≤ (k : Int)) = true := by rw [decide_eq_true_eq]; omega
      have hki : (k : Int) < (o.length : Int) := by omega
      have hwk : IntKind.i64.wrap ((k : Int) - 1) = (k : Int) - 1 := by rw [IntKind.wrap_i64]; omega
      obtain ⟨b, oo, rfl, hbb, c0, c1, c2, c3, c4, c5, c6, c7⟩ := RdVr.here (R.out.below (G.out.trans GB.out)) k hk
      have HD := Lib.hid (drop_rev hk)
      obtain ⟨q, hq⟩ : ∃ q, (o[k]'hk) = q := ⟨_, rfl⟩
      rw [hq] at c0 c1 c2 c3 c4 c5 c6 c7 HD
      have HK := Lib.hid hk
      clear hbb hq
      have HX := Lib.hid (show (pre ++ [(k, q)]).map Prod.snd = (o.drop k).reverse from by rw [List.map_append, HP.out, HD.out]; rfl)
      have HX2 := Lib.hid (show (pre ++ [(k, q)]).map Prod.snd <+: o.reverse from by
        rw [HX.out]
        refine ⟨(o.take k).reverse, ?_⟩
        rw [← List.reverse_append, List.take_append_drop])
      obtain ⟨fn, tmps, assign, body, hy, hR⟩ := HY.out pre (k, q) wr HJP.out (by have := HPL.out; omega)
      obtain ⟨kk, bb, ee, ss, ⟨xx, yy⟩, uu, gg⟩ := q
      unfold verV at hy
      dsimp only at hy c0 c1 c2 c3 c4 c5 c6 c7
      gi_wp2_with fail
      refine ⟨fun h => (by cases h), hR.mono ?_⟩
      clear hy hR b1 c0 c1 c2 c3 c4 c5 c6 c7
      rintro e W3 (⟨rfl, hJ3, hk3⟩ | ⟨rfl, hJx3⟩)
      · have J3 := Lib.hid hJ3
        have K3 := Lib.hid (GB.out.trans hk3)
        clear hJ3 hk3
        gi_wp2_with fail
        go_roundw
        case rel => exact ⟨k, _, rfl, Nat.le_of_lt HK.out, by rw [List.length_append, List.length_singleton]; have := HPL.out; omega, HX.out, J3.out, K3.out⟩
        case measure => simp [intOf]
      · have J3 := Lib.hid hJx3
        clear hJx3
        gi_wp2_with fail
        refine bodyPost_ret (results_none rfl _ _ _) rfl ?_
        exact ⟨⟨_, rfl⟩, .inr ⟨_, HX2.out, J3.out⟩⟩

/-- A round that leaves: the last version that came has the time. -/
def GetX (w : World) (n₀ : Nat) (w2 : World) (t : Int) (c : Code) (pre : List (Nat × Ver)) (W : World) : Prop :=
  ∃ (pre0 : List (Nat × Ver)) (x : Nat × Ver), pre = pre0 ++ [x] ∧ (∀ y ∈ pre0, hasB y.2.sp t = false) ∧ hasB x.2.sp t = true ∧
    ((c = .exit 0 ∧ x.2.gone = true ∧ Below n₀ w2 W) ∨
     (c = .ret ∧ x.2.gone = false ∧ Box W (w.heap.size + 1) #[.string x.2.val] 9 ∧ Box W (w.heap.size + 2) #[.bool true] 4 ∧ Below w.heap.size w W ∧ n₀ ≤ W.heap.size))
theorem GetX.own {w w2 : World} {n₀ : Nat} {t : Int} (h2 : w.heap.size + 3 ≤ n₀) (hn : n₀ = w2.heap.size) (c : Code) : OwnFrom n₀ (GetX w n₀ w2 t c) := by
  rintro s X Y row ⟨pre0, x, e, h0, h1, h⟩ hg hr
  refine ⟨pre0, x, e, h0, h1, ?_⟩
  rcases h with ⟨e1, e2, e3⟩ | ⟨e1, e2, e3, e4, e5, e6⟩
  · exact .inl ⟨e1, e2, e3.grown hg (by have := e3.size; omega) (fun k e => (hr k e).1)⟩
  · exact .inr ⟨e1, e2, e3.keep hg (fun e => by have := (hr _ e.symm).1; omega), e4.keep hg (fun e => by have := (hr _ e.symm).1; omega), e5.grown hg (by omega) (fun k e => by have := (hr k e).1; omega), Nat.le_trans e6 hg.size⟩
theorem find_stop {o : List Ver} {t : Int} {pre0 : List (Nat × Ver)} {x : Nat × Ver} (hp : (pre0 ++ [x]).map Prod.snd <+: o.reverse) (h0 : ∀ y ∈ pre0, hasB y.2.sp t = false) (h1 : hasB x.2.sp t = true) : getV o t = tellV x.2 := by
  have : findO o t = some x.2 := by
    unfold findO
    obtain ⟨r, hr⟩ := hp
    rw [← hr, List.map_append, List.append_assoc, List.find?_append]
    rw [List.find?_eq_none.2 (fun y hy => by
      obtain ⟨z, hz, rfl⟩ := List.mem_map.1 hy
      rw [h0 z hz]; decide)]
    show Option.or none (List.find? _ (x.2 :: r)) = _
    rw [List.find?_cons, h1]; rfl
  rw [get_find, this]
theorem find_done {o : List Ver} {t : Int} {xs : List (Nat × Ver)} (hp : xs.map Prod.snd = o.reverse) (h0 : ∀ y ∈ xs, hasB y.2.sp t = false) : getV o t = (⟨#[]⟩, false) := by
  have : findO o t = none := by
    unfold findO
    rw [← hp, List.find?_eq_none]
    intro y hy
    obtain ⟨z, hz, rfl⟩ := List.mem_map.1 hy
    rw [h0 z hz]; decide
  rw [get_find, this]

theorem get_end {W : World} {n D : Nat} {s : ByteArray} {k : Bool} {tmps : Array Value} (b1 : Box W (n + 1) #[.string s] 9) (b2 : Box W (n + 2) #[.bool k] 4) (hD : n + 2 < D)
    (h6 : tmps.getD 6 undef = .pointer (some ⟨n + 1, 0, none⟩)) (h7 : tmps.getD 7 undef = .pointer (some ⟨n + 1 + 1, 0, none⟩)) :
    (results Try.f20 tmps).run Try.prog (W.putObj D (.deferred none)) = .ok (.tuple #[.string s, .bool k]) (W.putObj D (.deferred none)) := by
  have c1 := (b1.keep (grownBy_putObj' W D (.deferred none)) (fun e => by injection e with e; omega)).cell 0 _ rfl
  have c2 := (b2.keep (grownBy_putObj' W D (.deferred none)) (fun e => by injection e with e; omega)).cell 0 _ rfl
  refine results_cell2 (Try.results20) _ _ _ h6 h7 ?_ ?_
  · go_simp
  · go_simp

set_option maxRecDepth 100000 in
set_option maxHeartbeats 4000000 in
theorem p_get (w : World) (va vp : Value) (l : List Ver) (p : List (Int × Int)) (t : Int) (ha : RdVr w w.heap.size va l) (hp : RdX lgL w w.heap.size vp p) (hl : l.length ≤ 20) (hpl : p.length ≤ 1000) :
    Calls Try.prog 20 #[va, vp, .int .i64 t] w fun z w' => z = .returned (.tuple #[.string (getV (orderV l p) t).1, .bool (getV (orderV l p) t).2]) ∧ Below w.heap.size w w' := by
  obtain ⟨W0, hW0⟩ : ∃ W0, ((w.alloc (.cells #[.int .i64 t] 3)).alloc (.cells #[.string ⟨#[]⟩] 9)).alloc (.cells #[.bool false] 4) = W0 := ⟨_, rfl⟩
  have hs0 : W0.heap.size = w.heap.size + 3 := by rw [← hW0]; simp
  have hb0 : Below w.heap.size w W0 := by rw [← hW0]; exact ((alloc_below w _).alloc (by simp) _).alloc (by simp; omega) _
  have bt : Box W0 w.heap.size #[.int .i64 t] 3 := by rw [← hW0]; exact ((Box.new w _ _ _ rfl).alloc _).alloc _
  have bv : Box W0 (w.heap.size + 1) #[.string ⟨#[]⟩] 9 := by rw [← hW0]; exact (Box.new _ _ _ _ (by simp)).alloc _
  have bo : Box W0 (w.heap.size + 2) #[.bool false] 4 := by rw [← hW0]; exact Box.new _ _ _ _ (by simp)
  have OR := Lib.hid (p_order W0 va vp l p (ha.on hb0) (hp.on hb0) hl hpl)
  have OL := Lib.hid (Nat.le_trans (order_len l p) hl)
  obtain ⟨A, ca, rfl, -⟩ := ha
  obtain ⟨Ap, cp, rfl, -⟩ := hp
  obtain ⟨o, ho⟩ : ∃ o, orderV l p = o := ⟨_, rfl⟩
  rw [ho] at OR OL ⊢
  have BT := Lib.hid bt
  have BV := Lib.hid bv
  have BO := Lib.hid bo
  have G0 := Lib.hid hb0
  have S0 := Lib.hid hs0
  have FS := Lib.hid (fun pre0 x h1 h2 h3 => find_stop (o := o) (t := t) (pre0 := pre0) (x := x) h1 h2 h3)
  have FD := Lib.hid (fun xs h1 h2 => find_done (o := o) (t := t) (xs := xs) h1 h2)
  obtain ⟨gv, hgv⟩ : ∃ gv, getV o t = gv := ⟨_, rfl⟩
  rw [hgv] at FS FD ⊢
  clear hl hpl ho hb0 bt bv bo hs0 hgv
  refine (callsIn_wide (n := 4)).1 ?_
  refine callsIn_of_wp_marks Try.func20 rfl trivial ?_ rfl
  simp only [Try.ntmps20, List.size_toArray, List.length_cons, List.length_nil, Nat.reduceAdd, Nat.reduceSub, Array.replicate_succ, Array.replicate_zero, List.push_toArray, List.append_toArray, List.nil_append, List.cons_append]
  gi_wp2_with fail
  refine ⟨trivial, (callsIn_wide.2 OR.out).mono ?_⟩
  rintro e w1 ⟨v1, rfl, ho1, hb1⟩
  have O1 := Lib.hid ho1
  have BT := Lib.hid (BT.out.later hb1)
  have BV := Lib.hid (BV.out.later hb1)
  have BO := Lib.hid (BO.out.later hb1)
  have G1 := Lib.hid (G0.out.trans (hb1.mono G0.out.size))
  have S1 := Lib.hid (Nat.le_trans (Nat.le_of_eq S0.out.symm) hb1.size)
  obtain ⟨OA, oc, rfl, -⟩ := ho1.rd
  clear ho1 hb1 OR hW0 G0
  gi_wp2_with fail
  refine ⟨trivial, (callsIn_wide.2 (p_backward _ _ _ _)).mono ?_⟩
  rintro e w2 ⟨rfl, hw2⟩
  have hb2 : Below w1.heap.size w1 w2 := by rw [hw2]; exact alloc_below _ _
  have BS := Lib.hid (show Box w2 w1.heap.size #[.slice OA o.length oc] 22 from by rw [hw2]; exact Box.new _ _ _ _ rfl)
  have BT := Lib.hid (BT.out.later hb2)
  have BV := Lib.hid (BV.out.later hb2)
  have BO := Lib.hid (BO.out.later hb2)
  have G2 := Lib.hid (G1.out.trans (hb2.mono G1.out.size))
  have S2 := Lib.hid (Nat.le_trans S1.out hb2.size)
  have R2 := Lib.hid (O1.out.on hb2).rd
  have HS2 := Lib.hid BS.out.lt
  clear hb2 hw2 O1 G1
  gi_wp2_with fail
  refine wpIn_rangeFunc_ownH rfl (by omega) (gf := 64) (lb := #[.pointer (some ⟨w1.heap.size, 0, none⟩)]) rfl trivial (enters_of Try.func64 (by kernel_rfl) rfl)
    (back_stops 3 w2.heap.size w1.heap.size _ o w2 (Nat.le_refl _) HS2.out BS.out R2.out (by have := OL.out; omega)) belowK_t (belowK_b (Nat.le_refl _)) (Below.refl _ _) (fun _ => rfl)
    (fun pre W => (∀ y ∈ pre, hasB y.2.sp t = false) ∧ Below w2.heap.size w2 W) (GetX w w2.heap.size w2 t)
    (OwnFrom.and (ownFrom_pure _ _) (ownFrom_below (Nat.le_refl _) (Nat.le_refl _))) (GetX.own (by have := S2.out; omega) rfl)
    ⟨fun y hy => (by cases hy), Below.refl _ _⟩
    (fun x a' W => ∃ Bx, Box W Bx #[.string x.2.key, .int .i64 x.2.b, .int .i64 x.2.e, .int .i64 x.2.s, .int .i64 x.2.sp.1, .int .i64 x.2.sp.2, .string x.2.val, .bool x.2.gone] 50 ∧ a' = { tmps := #[.slice A l.length ca, .slice Ap p.length cp, .int .i64 t, undef, undef, .pointer (some ⟨w.heap.size, 0, none⟩), .pointer (some ⟨w.heap.size + 1, 0, none⟩), .pointer (some ⟨w.heap.size + 2, 0, none⟩), undef, .pointer (some ⟨Bx, 0, none⟩), .slice A l.length ca, .slice Ap p.length cp, .slice OA o.length oc, .func (.func 64) #[] #[.pointer (some ⟨w1.heap.size, 0, none⟩)], .int .i64 (x.1 : Int), verV x.2, undef, undef, undef, undef, undef, undef, undef, undef, undef], defers := [] })
    (fun x a' s X Y row hs hg hr => by
      obtain ⟨Bx, hB, e⟩ := hs
      refine ⟨Bx, hB.keep hg (fun e' => ?_), e⟩
      obtain ⟨-, o, ho, hc⟩ := hr _ e'.symm
      rw [show X.heap[Bx]? = _ from hB] at ho; cases ho; cases hc)
    ?assign ?body ?done ?stop
  case assign =>
    rintro L pre x W K ⟨h0, h1⟩ hK
    obtain ⟨xi, ⟨kk, bb, ee, ss, ⟨xx, yy⟩, uu, gg⟩⟩ := x
    have H0 := Lib.hid h0
    have H1 := Lib.hid h1
    unfold verV at hK ⊢
    simp only at hK ⊢
    clear h0 h1
    gi_wp2_with fail
    exact hK _ _ ((KeepsOthers.alloc W _).from _) ((Below.refl _ W).alloc H1.out.size _) ⟨H0.out, H1.out.alloc H1.out.size _⟩ ⟨W.heap.size, Box.new W _ _ _ rfl, rfl⟩
  case body =>
    rintro L pre x a' W hL - ⟨h0, h1⟩ ⟨Bx, hB, rfl⟩ hlt
    obtain ⟨xi, ⟨kk, bb, ee, ss, ⟨xx, yy⟩, uu, gg⟩⟩ := x
    have H0 := Lib.hid h0
    have H1 := Lib.hid h1
    have BX := Lib.hid hB
    have HA := Lib.hid (fun w => p_has (xx, yy) t w)
    have hbt := (BT.out.on h1 (by have := S2.out; omega)).cell 0 _ rfl
    have hbv := BV.out.on h1 (by have := S2.out; omega)
    have hbo := BO.out.on h1 (by have := S2.out; omega)
    unfold spV at HA
    unfold verV
    simp only at HA hB ⊢
    have z4 := hB.cell 4 _ rfl
    have z5 := hB.cell 5 _ rfl
    have BVW := Lib.hid hbv
    have BOW := Lib.hid hbo
    clear h0 h1 hB hlt hbv hbo
    gi_wp2_with fail
    refine ⟨trivial, (CallsIn.inRound L (callsIn_wide.2 (HA.out _))).mono ?_⟩
    rintro e w3 ⟨rfl, hb3⟩
    have K3 := Lib.hid (keeps_belowG hb3)
    have P3 := Lib.hid (hb3.mono H1.out.size)
    have BX := Lib.hid (BX.out.later hb3)
    have BVW := Lib.hid (BVW.out.later hb3)
    have BOW := Lib.hid (BOW.out.later hb3)
    have z6 := BX.out.cell 6 _ rfl
    have z7 := BX.out.cell 7 _ rfl
    obtain ⟨hb, hhb⟩ : ∃ hb, hasB (xx, yy) t = hb := ⟨_, rfl⟩
    rw [hhb]
    have HH := Lib.hid hhb
    clear hb3 z4 z5 hbt hhb HA
    cases hb
    · clear z6 z7
      gi_wp2_with fail
      exact ⟨K3.out.from _, P3.out, fun y hy => by
        rcases List.mem_append.1 hy with h | h
        · exact H0.out y h
        · obtain rfl := List.mem_singleton.1 h
          exact HH.out, H1.out.trans P3.out⟩
    · cases gg
      · have v0 := BVW.out.cell 0 _ rfl
        have v1 := BVW.out.frozen 0
        have BO2 := Lib.hid (BOW.out.other ⟨w.heap.size + 1, 0, none⟩ (.string uu) (by simp))
        have o0 := BO2.out.cell 0 _ rfl
        have o1 := BO2.out.frozen 0
        gi_wp2_with fail
        refine ⟨((K3.out.trans (KeepsOthers.setCell _ _ _)).trans (KeepsOthers.setCell _ _ _)).from _, pre, _, rfl, H0.out, HH.out, .inr ⟨rfl, rfl, ?_, ?_, ?_, ?_⟩⟩
        · exact (BVW.out.set 0 (.string uu)).other ⟨w.heap.size + 2, 0, none⟩ (.bool true) (by simp)
        · exact BO2.out.set 0 (.bool true)
        · exact ((G2.out.trans ((H1.out.trans P3.out).mono G2.out.size)).setCell (p := ⟨w.heap.size + 1, 0, none⟩) (Nat.le_succ _) _).setCell (p := ⟨w.heap.size + 2, 0, none⟩) (by simp) _
        · have := (H1.out.trans P3.out).size
          simp [World.setCell]; omega
      · clear z6
        gi_wp2_with fail
        exact ⟨K3.out.from _, pre, _, rfl, H0.out, HH.out, .inl ⟨rfl, rfl, H1.out.trans P3.out⟩⟩
  case done =>
    rintro D xs W hD hS ⟨h0, h1⟩ hK
    have GV := Lib.hid (FD.out xs hS h0)
    have H1 := Lib.hid h1
    have HK := Lib.hid hK
    have HD := Lib.hid hD
    have BVW := Lib.hid (BV.out.on h1 (by have := S2.out; omega))
    have v0 := BVW.out.cell 0 _ rfl
    have v1 := BVW.out.frozen 0
    have BO2 := Lib.hid ((BO.out.on h1 (by have := S2.out; omega)).other ⟨w.heap.size + 1, 0, none⟩ (.string ⟨#[]⟩) (by simp))
    have o0 := BO2.out.cell 0 _ rfl
    have o1 := BO2.out.frozen 0
    clear h0 h1 hS hK hD
    gi_wp2_with fail
    have hD := HD.out
    have h2 := S2.out
    refine ⟨by simp, .inl ⟨_, _, rfl, run_takeDeferred (((KeepsOthers.setCell W _ _).trans (KeepsOthers.setCell _ _ _)).same D _ HK.out rfl), ?_⟩⟩
    refine ⟨_, get_end (n := w.heap.size) ((BVW.out.set 0 (.string ⟨#[]⟩)).other ⟨w.heap.size + 2, 0, none⟩ (.bool false) (by simp)) (BO2.out.set 0 (.bool false)) (by omega) rfl rfl, by rw [GV.out], ?_⟩
    exact (((G2.out.trans (H1.out.mono G2.out.size)).setCell (p := ⟨w.heap.size + 1, 0, none⟩) (Nat.le_succ _) _).setCell (p := ⟨w.heap.size + 2, 0, none⟩) (by simp) _).trans (belowK_b (w := w) (Nat.le_refl _) _ D _ _ (by omega) (((KeepsOthers.setCell W _ _).trans (KeepsOthers.setCell _ _ _)).same D _ HK.out rfl) rfl rfl)
  case stop =>
    rintro D c pre W hD hsp ⟨pre0, x, rfl, h0, h3, hx⟩ hK
    have GV := Lib.hid (FS.out pre0 x hsp h0 h3)
    have HK := Lib.hid hK
    have HD := Lib.hid hD
    rcases hx with ⟨rfl, hg, h1⟩ | ⟨rfl, hg, hb1, hb2, hb3, hb4⟩
    · have GV := Lib.hid (show gv = (⟨#[]⟩, false) from by rw [GV.out]; unfold tellV; rw [if_pos hg])
      have H1 := Lib.hid h1
      have BVW := Lib.hid (BV.out.on h1 (by have := S2.out; omega))
      have v0 := BVW.out.cell 0 _ rfl
      have v1 := BVW.out.frozen 0
      have BO2 := Lib.hid ((BO.out.on h1 (by have := S2.out; omega)).other ⟨w.heap.size + 1, 0, none⟩ (.string ⟨#[]⟩) (by simp))
      have o0 := BO2.out.cell 0 _ rfl
      have o1 := BO2.out.frozen 0
      clear h0 h1 hsp hK hD h3
      gi_wp2_with fail
      have hD := HD.out
      have h2 := S2.out
      refine ⟨by simp, .inl ⟨_, _, rfl, run_takeDeferred (((KeepsOthers.setCell W _ _).trans (KeepsOthers.setCell _ _ _)).same D _ HK.out rfl), ?_⟩⟩
      refine ⟨_, get_end (n := w.heap.size) ((BVW.out.set 0 (.string ⟨#[]⟩)).other ⟨w.heap.size + 2, 0, none⟩ (.bool false) (by simp)) (BO2.out.set 0 (.bool false)) (by omega) rfl rfl, by rw [GV.out], ?_⟩
      exact (((G2.out.trans (H1.out.mono G2.out.size)).setCell (p := ⟨w.heap.size + 1, 0, none⟩) (Nat.le_succ _) _).setCell (p := ⟨w.heap.size + 2, 0, none⟩) (by simp) _).trans (belowK_b (w := w) (Nat.le_refl _) _ D _ _ (by omega) (((KeepsOthers.setCell W _ _).trans (KeepsOthers.setCell _ _ _)).same D _ HK.out rfl) rfl rfl)
    · have GV := Lib.hid (show gv = (x.2.val, true) from by rw [GV.out]; unfold tellV; rw [if_neg (by rw [hg]; decide)])
      have H1 := Lib.hid hb1
      have H2 := Lib.hid hb2
      have H3 := Lib.hid hb3
      clear h0 hsp hK hD h3 hb1 hb2 hb3 hb4
      gi_wp2_with fail
      have hD := HD.out
      have h2 := S2.out
      refine ⟨by simp, .inl ⟨_, _, rfl, run_takeDeferred HK.out, ?_⟩⟩
      refine ⟨_, get_end (n := w.heap.size) H1.out H2.out (by omega) rfl rfl, by rw [GV.out], ?_⟩
      exact H3.out.trans (belowK_b (w := w) (Nat.le_refl _) _ D _ _ (by omega) HK.out rfl rfl)
end Go.Proofs.Ytlpakooogbaclaa
