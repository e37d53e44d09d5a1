/- SkipEnds: what is told from a key on may be ended anywhere: any deeds (the first 40, the first 8 bytes of keys), any key, any number. -/
import Derived.Test.YtlihiojdjcmggaaSe
import Derived.Test.YtlihiojdjcmggaaSl
import Derived.Test.YtlihiojdjcmggaaSm
import Derived.Test.YtlihiojdjcmggaaSo
import Derived.Test.YtlihiojdjcmggaaKk
namespace Go.Proofs.Ytlihiojdjcmggaa.L04
open Go.RowKit Go.ChangeShapes Go.WideShapes Go.ChangeAt Go.Shelf
set_option linter.unusedVariables false
attribute [local go_sem] Oper.semAt_some

/-- What reads as items lies in no box of a number. -/
theorem RdX.notBox {w w' : World} {B nb : Nat} {v : Value} {l : List It} {x : Int} {t : TypeId} (h : RdX itL w B v l) (hb : Box w nb #[.int .i64 x] t) (hk : ∀ i, i ≠ nb → i < B → w'.heap[i]? = w.heap[i]?) : RdX itL w' B v l := by
  obtain ⟨A, c, rfl, h1, h2, h3⟩ := h
  refine ⟨A, c, rfl, h1, h2, fun hp => ?_⟩
  obtain ⟨b, o, rfl, hB, hc⟩ := h3 hp
  have hne : b ≠ nb := by
    rintro rfl
    have e := hc 0 l[0] (by simp) 0 (.string l[0].key) rfl
    unfold World.cell? at e
    rw [show w.heap[b]? = _ from hb] at e
    simp only [Nat.zero_mul, Nat.add_zero] at e
    rcases Nat.eq_zero_or_pos o with h0 | h0
    · subst h0; simp at e
    · obtain ⟨o, rfl⟩ : ∃ o', o = o' + 1 := ⟨o - 1, by omega⟩
      simp at e
  refine ⟨b, o, rfl, hB, fun k y hk2 j u hj => ?_⟩
  have e := hc k y hk2 j u hj
  unfold World.cell? at e ⊢
  rw [hk b hne hB]
  exact e
set_option maxHeartbeats 8000000 in
set_option maxRecDepth 100000 in
theorem walk0 {Sk : Nat → World → Nat → Value → List It → Prop} {P : Obj → Bool} (K : SkK Sk P) (v : Value) (l : List DeedK) (key : ByteArray) (n : Int) (w : World) (h : RdX deedKL w w.heap.size v l) (hok : ∀ x ∈ l, OkDeedK x) (hn : -9223372036854775808 ≤ n ∧ n ≤ 9223372036854775807) :
    Calls Try.prog 6 #[v, .string key, .int .i64 n] w fun z w' => z = .returned (.bool true) ∧ Below w.heap.size w w' := by
  have LV := Lib.hid (law12_lives K)
  have K := Lib.hid K
  have HO := Lib.hid hok
  obtain ⟨W0, hW0⟩ : ∃ W0, (w.alloc (.cells #[.int .i64 n] 3)).alloc (.cells #[.bool false] 4) = W0 := ⟨_, rfl⟩
  have BN0 := Lib.hid (show Box W0 w.heap.size #[.int .i64 n] 3 from by rw [← hW0]; exact (Box.new w _ _ _ rfl).alloc _)
  have BR0 := Lib.hid (show Box W0 (w.heap.size + 1) #[.bool false] 4 from by rw [← hW0]; exact Box.new _ _ _ _ (by simp))
  have Z0 := Lib.hid (show W0.heap.size = w.heap.size + 2 from by rw [← hW0]; simp)
  have hb0 : Below w.heap.size w W0 := by rw [← hW0]; exact ((Below.refl _ _).alloc (Nat.le_refl _) _).alloc (by simp) _
  have HA := Lib.hid (h.on hb0)
  have G0 := Lib.hid hb0
  obtain ⟨A, ca, rfl, hla, hca, -⟩ := id h
  have HCA := Lib.hid (Nat.le_trans hla hca)
  have FKS := Lib.hid (Nat.le_trans (fewK_size key) (show 8 ≤ 1000 by decide))
  have HW0 := Lib.hid hW0
  clear h hok hla hca hW0 hb0
  refine (callsIn_wide (n := 4)).1 ?_
  refine callsIn_of_wp_marks Try.func6 rfl trivial ?_ rfl
  simp only [Try.ntmps6, List.size_toArray, List.length_cons, List.length_nil, Nat.reduceAdd, Nat.reduceSub, Array.replicate_succ, Array.replicate_zero, List.push_toArray, List.append_toArray, List.nil_append, List.cons_append]
  gi_wp2_with fail
  rw [HW0.out]
  clear HW0
  refine ⟨trivial, (callsIn_wide.2 (K.out.new _)).mono ?_⟩
  rintro z w1 ⟨p, rfl, hs1, hb1⟩
  obtain ⟨gp, ep⟩ := K.out.ops.ptr hs1
  subst ep
  have S1 := Lib.hid hs1
  have G1 := Lib.hid hb1
  clear hs1 hb1
  gi_wp2_with fail
  gi_loopw [8, 9] (fun x i wr => ∃ (k : Nat) (r : List It), i = .int .i64 k ∧ k ≤ l.length ∧ k ≤ 40 ∧ r.length ≤ k ∧ Sk k wr W0.heap.size (.pointer (some ⟨gp, 0, none⟩)) r ∧ OwnX itL 46 wr W0.heap.size x r ∧ Below W0.heap.size W0 wr) (fun _ i _ => l.length - (intOf i).toNat)
  case atStart => exact ⟨0, [], rfl, Nat.zero_le _, Nat.zero_le _, Nat.le_refl _, S1.out, OwnX.nil _ _, G1.out⟩
  case round =>
    obtain ⟨k, r, rfl, hk, hk4, hrl, hs, ho, hbw⟩ := hrel
    rename World => wo
    have G := Lib.hid hbw
    have S := Lib.hid hs
    have O := Lib.hid ho
    have HRL := Lib.hid hrl
    obtain ⟨A2, c2, e2, -⟩ := ho.rd
    subst e2
    clear hbw hs ho hrl S1 G1
    by_cases hlt : k < l.length ∧ k < 40
    · obtain ⟨hlt, hlt4⟩ := hlt
      have zl : decide ((k : Int) < (l.length : Int)) = true := by simp; omega
      have z4 : decide ((k : Int) < 40) = true := by simp; omega
      have hki : (k : Int) < (l.length : Int) := by omega
      have hw64 : IntKind.i64.wrap ((k : Int) + 1) = (k : Int) + 1 := by rw [IntKind.wrap_i64]; omega
      obtain ⟨x, hx⟩ : ∃ x, l[k] = x := ⟨_, rfl⟩
      have HX := Lib.hid (HO.out x (by rw [← hx]; exact List.getElem_mem hlt))
      obtain ⟨da, db, dc, ds⟩ := x
      obtain ⟨gb, o, rfl, -, e0, e1, e2, e3⟩ := RdX.deed (HA.out.below G.out) k hlt hx
      have DO := Lib.hid (law_doesK K.out.ops wo W0.heap.size (.pointer (some ⟨gp, 0, none⟩)) (.slice A2 r.length c2) r ⟨da, db, dc, ds⟩ S.out O.out G.out.size (by omega) (by have := HRL.out; omega) HX.out)
      have HDL := Lib.hid (Nat.le_trans (do_len r ⟨da, db, dc, ds⟩) (Nat.succ_le_succ HRL.out))
      generalize doI r ⟨da, db, dc, ds⟩ = r2 at *
      clear hx
      gi_wp2_with fail
      refine ⟨trivial, (callsIn_wide.2 DO.out).mono ?_⟩
      rintro z w2 ⟨v2, rfl, hs2, ho2, hk2⟩
      have S2 := Lib.hid hs2
      have O2 := Lib.hid ho2
      have G2 := Lib.hid (G.out.trans hk2.below)
      clear hs2 ho2 hk2 DO
      gi_wp2_with fail
      exact ⟨⟨k + 1, r2, by go_num, by omega, by omega, HDL.out, S2.out, O2.out, G2.out⟩, by simp [intOf]; omega⟩
    · have HL1 := Lib.hid (show r.length ≤ 1000 from by have := HRL.out; omega)
      have HL2 := Lib.hid (show r.length ≤ 100000 from by have := HRL.out; omega)
      have FI := Lib.hid (fun w1 h1 h2 => K.out.ops.from' (n := k) w1 W0.heap.size (.pointer (some ⟨gp, 0, none⟩)) r (fewK key) h1 h2 HL1.out FKS.out)
      have LN := Lib.hid (fun w1 h1 h2 => K.out.ops.len (n := k) w1 W0.heap.size (.pointer (some ⟨gp, 0, none⟩)) r h1 h2 HL1.out)
      have FW := Lib.hid (fun w1 h => ref_fromB w1.heap.size (.slice A2 r.length c2) r (fewK key) w1 (Nat.le_refl _) h HL2.out)
      have HFL := Lib.hid (show (fromI r (fewK key)).length ≤ 1000 from Nat.le_trans (by rw [fromI, List.length_drop]; omega) HL1.out)
      have BN := Lib.hid (BN0.out.later G.out)
      have BR := Lib.hid (BR0.out.later G.out)
      generalize fromI r (fewK key) = fs at *
      obtain ⟨p, hp⟩ : ∃ p : Nat, (n < 0 ∧ n = -((p : Int) + 1)) ∨ (0 ≤ n ∧ n = (p : Int)) := by
        rcases Int.lt_or_le n 0 with h | h
        · exact ⟨(-(n + 1)).toNat, .inl ⟨h, by omega⟩⟩
        · exact ⟨n.toNat, .inr ⟨h, by omega⟩⟩
      have hq1 : (p : Int) % 10 = ((p % 10 : Nat) : Int) := by omega
      have hq2 : Int.tmod (p : Int) 10 = ((p % 10 : Nat) : Int) := rfl
      have HQ := Lib.hid (show p % 10 < 10 from Nat.mod_lt _ (by decide))
      generalize p % 10 = m at *
      obtain ⟨q, hq⟩ : ∃ q : Nat, (1 : Int) + (m : Int) = (q : Int) := ⟨1 + m, by omega⟩
      have HQ := Lib.hid (show 1 ≤ q ∧ q ≤ 10 from by have := HQ.out; omega)
      have hqw : IntKind.i64.wrap (1 + (m : Int)) = (q : Int) := by rw [IntKind.wrap_i64]; omega
      have hqw2 : IntKind.i64.wrap (q : Int) = (q : Int) := by rw [IntKind.wrap_i64]; have := HQ.out; omega
      by_cases hl1 : k < l.length
      · have h40 : ¬ k < 40 := fun h => hlt ⟨hl1, h⟩
        have zl : decide ((k : Int) < (l.length : Int)) = true := by simp; omega
        have z40 : decide ((k : Int) < 40) = false := by rw [decide_eq_false_iff_not]; omega
        gi_wp2_with fail
        refine ⟨trivial, (callsIn_wide.2 (law_fewK _ _)).mono ?_⟩
        rintro z w2 ⟨rfl, rfl⟩
        gi_wp2_with fail
        refine ⟨trivial, (callsIn_wide.2 (FW.out _ O.out.rd)).mono ?_⟩
        rintro z w3 ⟨v3, rfl, hr3, hb3⟩
        have S := Lib.hid (K.out.ops.on S.out hb3)
        have O := Lib.hid (O.out.on hb3)
        have FR := Lib.hid (hr3.more hb3.size)
        have BN := Lib.hid (BN.out.later hb3)
        have BR := Lib.hid (BR.out.later hb3)
        have G := Lib.hid (G.out.trans (hb3.mono G.out.size))
        obtain ⟨A3, c3, e3, -⟩ := id hr3
        subst e3
        clear hr3 hb3 FW hlt hl1 zl
        obtain ⟨W4, hW4⟩ : ∃ W4, w3.alloc (.cells #[.slice A3 fs.length c3] 25) = W4 := ⟨_, rfl⟩
        have hb4 : Below w3.heap.size w3 W4 := by rw [← hW4]; exact alloc_below _ _
        have BF := Lib.hid (show Box W4 w3.heap.size #[.slice A3 fs.length c3] 25 from by rw [← hW4]; exact Box.new w3 _ _ _ rfl)
        have BN := Lib.hid (BN.out.later hb4)
        have BR := Lib.hid (BR.out.later hb4)
        have FR := Lib.hid (FR.out.below hb4)
        have S := Lib.hid (K.out.ops.on S.out hb4)
        have O := Lib.hid (O.out.on hb4)
        have Z4 := Lib.hid (show W4.heap.size = w3.heap.size + 1 from by rw [← hW4]; simp)
        have G3 := Lib.hid G.out.size
        have G := Lib.hid (G.out.trans (hb4.mono G.out.size))
        have HW4 := Lib.hid hW4
        clear hb4 hW4
        have cn := BN.out.cell 0 _ rfl
        have fn := BN.out.frozen 0
        rw [← HW4.out] at cn fn
        have z0 := Z0.out
        have g3 := G3.out
        have hne : w3.heap.size ≠ w.heap.size := by omega
        have hne2 : w3.heap.size + 1 ≠ w.heap.size := by omega
        rcases hp with ⟨hneg, hp⟩ | ⟨hneg, hp⟩
        · have hnn : -(n + 1) = (p : Int) := by omega
          have zn : decide (n < 0) = true := by simp only [decide_eq_true_eq]; exact hneg
          have wn : IntKind.i64.wrap (n + 1) = n + 1 := by rw [IntKind.wrap_i64]; omega
          have wm : IntKind.i64.wrap (p : Int) = (p : Int) := by rw [IntKind.wrap_i64]; omega
          have cn2 := (BN.out.set 0 (.int .i64 (p : Int))).cell 0 _ rfl
          have fn2 := (BN.out.set 0 (.int .i64 (p : Int))).frozen 0
          rw [← HW4.out] at cn2 fn2
          clear hneg hp
          gi_wp2_with fail
          refine ⟨trivial, (callsIn_wide.2 (law_fewK _ _)).mono ?_⟩
          rintro z w5 ⟨rfl, rfl⟩
          gi_wp2_with fail
          rw [HW4.out]
          have hsz : ((W4.setCell ⟨w.heap.size, 0, none⟩ (.int .i64 (p : Int))).setCell ⟨w.heap.size, 0, none⟩ (.int .i64 (q : Int))).heap.size = W4.heap.size := by simp [World.setCell]
          obtain ⟨W5, hW5⟩ : ∃ W5, ((W4.setCell ⟨w.heap.size, 0, none⟩ (.int .i64 (p : Int))).setCell ⟨w.heap.size, 0, none⟩ (.int .i64 (q : Int))).alloc (.cells #[.int .i64 0] 3) = W5 := ⟨_, rfl⟩
          have hkeep : ∀ i, i ≠ w.heap.size → i < W4.heap.size → W5.heap[i]? = W4.heap[i]? := fun i hi hl => by
            rw [← hW5, Below.heap_alloc _ _ i (by rw [hsz]; exact hl)]
            exact (Below.heap_setCell _ ⟨w.heap.size, 0, none⟩ _ i (by first | omega | (simp only; omega))).trans (Below.heap_setCell _ ⟨w.heap.size, 0, none⟩ _ i (by first | omega | (simp only; omega)))
          have BN5 := Lib.hid (show Box W5 w.heap.size #[.int .i64 (q : Int)] 3 from by rw [← hW5]; exact ((BN.out.set 0 (.int .i64 (p : Int))).set 0 (.int .i64 (q : Int))).alloc _)
          have BA5 := Lib.hid (show Box W5 (w3.heap.size + 1) #[.int .i64 0] 3 from by rw [← hW5]; exact Box.new _ _ _ _ (by rw [hsz, Z4.out]))
          have Z5 := Lib.hid (show W5.heap.size = w3.heap.size + 2 from by rw [← hW5, World.size_alloc, hsz, Z4.out])
          have GW4 : Below w.heap.size w W4 := G0.out.trans (G.out.mono (by omega))
          have G5 := Lib.hid (show Below w.heap.size w W5 from by rw [← hW5]; exact ((GW4.setCell (p := ⟨w.heap.size, 0, none⟩) (Nat.le_refl _) (.int .i64 (p : Int))).setCell (p := ⟨w.heap.size, 0, none⟩) (Nat.le_refl _) (.int .i64 (q : Int))).alloc (by rw [hsz]; have := G.out.size; omega) _)
          clear GW4
          try rw [World.size_alloc] at hW5
          rw [hW5]
          clear hW5 hsz hnn zn wn wm cn2 fn2
          refine ⟨trivial, (callsIn_wide.2 (FI.out W5 (K.out.ops.stay S.out fun i o hi ho _ => (hkeep i (by omega) (Array.getElem?_eq_some_iff.1 ho).1).trans ho) (by have := Z5.out; omega))).mono ?_⟩
          rintro z W6 ⟨gf, lb, rfl, eg, hb6, hT⟩
          have TL := Lib.hid (hT True w.heap.size (by have := hb6.size; have := Z5.out; omega))
          have S6 := Lib.hid (K.out.ops.on (K.out.ops.stay S.out fun i o hi ho _ => (hkeep i (by omega) (Array.getElem?_eq_some_iff.1 ho).1).trans ho) hb6)
          have BN6 := Lib.hid (BN5.out.later hb6)
          have BA6 := Lib.hid (BA5.out.later hb6)
          have BF6 := Lib.hid (Box.later (show Box W5 w3.heap.size _ _ from (hkeep _ hne BF.out.lt).trans BF.out) hb6)
          have BR6 := Lib.hid (Box.later (show Box W5 (w.heap.size + 1) _ _ from (hkeep _ (by omega) BR.out.lt).trans BR.out) hb6)
          have FR6 := Lib.hid ((RdX.notBox FR.out BN.out (fun i hi hl => hkeep i hi (by have := Z4.out; omega))).below (hb6.mono (by have := Z5.out; omega)))
          have TYA := Lib.hid (fun i o (h : W5.heap[i]? = some o) (hp : P o = true) => typed_ne BA5.out (K.out.ops.num _) h hp)
          have TYR := Lib.hid (fun i o (h : W5.heap[i]? = some o) (hp : P o = true) => typed_ne (show Box W5 (w.heap.size + 1) _ _ from (hkeep _ (by omega) BR.out.lt).trans BR.out) (K.out.ops.bol _) h hp)
          have TY6 := Lib.hid (fun i o (h : W6.heap[i]? = some o) (hp : P o = true) => typed_ne BA6.out (K.out.ops.num _) h hp)
          have G6 := Lib.hid (G5.out.trans (hb6.mono G5.out.size))
          have Z6 := Lib.hid hb6.size
          have EG := Lib.hid eg
          have hqf := fun (W : World) => run_eql_func_nil (P := Try.prog) W Try.underlying43 ⟨_, _, _, rfl⟩ (.func gf) #[] lb
          have HNE := Lib.hid hne
          clear hb6 hT eg hkeep BN5 BA5 BF BR FR BN O G5 S G HW4 cn fn hne hne2 z0 g3
          gi_wp2_with fail
          clear hqf
          obtain ⟨ks, hks⟩ : ∃ ks, kvI fs = ks := ⟨_, rfl⟩
          rw [hks] at TL
          have KLE := Lib.hid (show ks.length = fs.length from by rw [← hks, kvI, List.length_map])
          have KAT := Lib.hid (show ∀ (n : Nat) (h : n < fs.length) (h2 : n < ks.length), ks[n] = (fs[n].key, fs[n].v) from fun n h h2 => by simp only [← hks, kvI, List.getElem_map])
          have hz0 := Z0.out
          have hz5 := Z5.out
          have hz6 := Z6.out
          have hg3 := G3.out
          have hqq := HQ.out
          have HST : w.heap.size ≤ W6.heap.size := by omega
          refine wpIn_rangeTell2 (P := Try.prog) (Z := True) (T := TI) (Kp := KpF P W0.heap.size W5 W6) (n₀ := w.heap.size) (gf := gf) (lb := lb) rfl EG.out TL.out HST (fun k h => by
              rcases h with ⟨h1, o, h2, -⟩ | ⟨h1, h2⟩
              · have := (Array.getElem?_eq_some_iff.1 h2).1; omega
              · exact h2) (Below.refl _ _) (fun _ => rfl)
            (fun pre X => (∃ r, ks = pre ++ r) ∧ pre.length < q ∧ Box X (w3.heap.size + 1) #[.int .i64 (pre.length : Int)] 3 ∧ Below w3.heap.size W6 X ∧ W6.heap.size ≤ X.heap.size ∧ (∀ k, k < W6.heap.size → k ≠ w3.heap.size + 1 → X.heap[k]? = W6.heap[k]?))
            (fun c pre X => (c = .ret ∧ ¬ ∃ r, ks = pre ++ r) ∨ (c = .exit 2 ∧ pre.length = q ∧ Box X (w3.heap.size + 1) #[.int .i64 (pre.length : Int)] 3 ∧ Below w3.heap.size W6 X ∧ W6.heap.size ≤ X.heap.size ∧ (∀ k, k < W6.heap.size → k ≠ w3.heap.size + 1 → X.heap[k]? = W6.heap[k]?)))
            (fun s X Y hs htw => by
              obtain ⟨h0, h1, h2, h3, h4, h5⟩ := hs
              exact ⟨h0, h1, (htw.low _ (by omega) (by omega)).trans h2, h3.trans (htw.below (by omega) (by omega)), Nat.le_trans h4 htw.size, fun k hk hn => (htw.low k (by omega) hk).trans (h5 k hk hn)⟩)
            (fun c s X Y hs htw => by
              rcases hs with hs | ⟨h0, h1, h2, h3, h4, h5⟩
              · exact .inl hs
              · exact .inr ⟨h0, h1, (htw.low _ (by omega) (by omega)).trans h2, h3.trans (htw.below (by omega) (by omega)), Nat.le_trans h4 htw.size, fun k hk hn => (htw.low k (by omega) hk).trans (h5 k hk hn)⟩)
            ⟨⟨ks, rfl⟩, (by simp only [List.length_nil]; omega), BA6.out, Below.refl _ _, Nat.le_refl _, fun k _ _ => rfl⟩
            (fun x a' X => a' = { tmps := #[.slice A l.length ca, .string key, .int .i64 n, undef, undef, .pointer (some ⟨w.heap.size, 0, none⟩), .pointer (some ⟨w.heap.size + 1, 0, none⟩), .pointer (some ⟨gp, 0, none⟩), .slice A2 r.length c2, .int .i64 (k : Int), .pointer (some ⟨w3.heap.size, 0, none⟩), .pointer (some ⟨w3.heap.size + 1, 0, none⟩), .func (.func gf) #[] lb, .string x.1, .int .i64 x.2, .pointer (some ⟨gp, 0, none⟩), .pointer (some ⟨gp, 0, none⟩), .bool false, .int .i64 (k : Int), .slice A l.length ca, .int .i64 (l.length : Int), .bool true, .bool true, .int .i64 (k : Int), .bool false, .bool false, u26, u27, u28, u29, u30, u31, u32, u33, u34, u35, u36, u37, .slice A2 r.length c2, .string key, .string (fewK key), .slice A3 fs.length c3, .int .i64 n, .bool true, .int .i64 n, .int .i64 (n + 1), .int .i64 (p : Int), .int .i64 (p : Int), .int .i64 (m : Int), .int .i64 (q : Int), .pointer (some ⟨gp, 0, none⟩), .string key, .string (fewK key), .func (.func gf) #[] lb, .func (.func gf) #[] lb, .bool false, .func (.func gf) #[] lb, .string x.1, .int .i64 x.2, undef, undef, undef, undef, undef, undef, undef, undef, undef, undef, undef, undef, undef, undef, undef, undef, undef, undef, undef, undef, undef, undef, undef, undef, undef, undef, undef, undef, undef, undef, undef, undef, undef, undef, undef, undef, undef, undef, undef, undef, undef, undef, undef, undef, undef, undef], defers := [] })
            (fun x a' _ X Y hs htw => hs)
            ?assign ?body ?done ?stop
          case assign =>
            rintro l2 pre x X K' hlt hI hK
            obtain ⟨xk, xv⟩ := x
            have HI := Lib.hid hI
            unfold encKV
            clear hz0 hz5 hz6 hg3 hqq HST hI
            gi_wp2_with fail
            exact hK _ _ (Kr.refl _ _ _ _ X) HI.out rfl
          case body =>
            rintro l2 pre x a' X hX ⟨h0, h1, h2, h3, h4, h5⟩ rfl hlen
            obtain ⟨xk, xv⟩ := x
            have X6 : Box X (w.heap.size + 1) #[.bool false] 4 := (h5 _ (by omega) (by omega)).trans BR6.out
            have XN : Box X w.heap.size #[.int .i64 (q : Int)] 3 := (h5 _ (by omega) (by omega)).trans BN6.out
            have X9 : Box X w3.heap.size #[.slice A3 fs.length c3] 25 := (h5 _ (by omega) (by omega)).trans BF6.out
            have c10 := h2.cell 0 _ rfl
            have f10 := h2.frozen 0
            have c9 := X9.cell 0 _ rfl
            have cN := XN.cell 0 _ rfl
            have f6 := X6.frozen 0
            have c6 := X6.cell 0 _ rfl
            have P0 := Lib.hid h0
            have X10 := Lib.hid h2
            have BX := Lib.hid h3
            have SX := Lib.hid h4
            have KX := Lib.hid h5
            have PQ := Lib.hid h1
            have RX := Lib.hid (FR6.out.below h3)
            have out6 : Kr TI (KpF P W0.heap.size W5 W6) w.heap.size W6.heap.size X (X.setCell ⟨w.heap.size + 1, 0, none⟩ (.bool false)) := Kr.of_grown (grownBy_setCell' X _ _) (by omega) (fun j hj => by
              cases hj
              refine ⟨by first | omega | (simp only; omega), fun hk => ?_, fun o ho => ?_⟩
              · rcases hk with ⟨-, o, hk2, hk3⟩ | ⟨hk1, -⟩
                · exact TYR.out _ o hk2 hk3 rfl
                · omega
              · rw [show X.heap[w.heap.size + 1]? = _ from X6] at ho
                cases ho
                exact ⟨_, _, _, rfl, by decide⟩)
            have OUT := Lib.hid out6
            by_cases hn : pre.length < fs.length
            · have zn : decide ((fs.length : Int) ≤ (pre.length : Int)) = false := by rw [decide_eq_false_iff_not]; omega
              have znn : decide (fs.length ≤ pre.length) = false := by rw [decide_eq_false_iff_not]; omega
              have hni : (pre.length : Int) < (fs.length : Int) := by omega
              have hw64 : IntKind.i64.wrap ((pre.length : Int) + 1) = (pre.length : Int) + 1 := by rw [IntKind.wrap_i64]; have := HFL.out; omega
              have hn2 : pre.length < ks.length := by rw [KLE.out]; exact hn
              have hka := KAT.out pre.length hn hn2
              obtain ⟨y, hy⟩ : ∃ y, fs[pre.length] = y := ⟨_, rfl⟩
              rw [hy] at hka
              obtain ⟨yk, yl, yv⟩ := y
              obtain ⟨bb, oo, rfl, -, e0, e1, e2⟩ := RdX.it RX.out pre.length hn hy
              have nxt : ∀ r, ks = pre ++ r → ∃ r', r = (yk, yv) :: r' := fun r hr => by
                have h9 : ks[pre.length]? = r[0]? := by rw [hr, List.getElem?_append_right (Nat.le_refl _), Nat.sub_self]
                rw [List.getElem?_eq_getElem hn2, hka] at h9
                cases r with
                | nil => simp at h9
                | cons z r' => simp at h9; exact ⟨r', by rw [← h9]⟩
              have NX := Lib.hid nxt
              have bad : ¬ (yk = xk ∧ yv = xv) → ¬ ∃ r, ks = (pre ++ [(xk, xv)]) ++ r := fun hne ⟨r, hr⟩ => by
                rw [List.append_assoc] at hr
                obtain ⟨r', hr'⟩ := nxt _ hr
                simp only [List.singleton_append, List.cons.injEq, Prod.mk.injEq] at hr'
                exact hne ⟨hr'.1.1.symm, hr'.1.2.symm⟩
              have BAD := Lib.hid bad
              have grow : Kr TI (KpF P W0.heap.size W5 W6) w.heap.size W6.heap.size X (X.setCell ⟨w3.heap.size + 1, 0, none⟩ (.int .i64 ((pre.length : Int) + 1))) := Kr.of_grown (grownBy_setCell' X _ _) (by omega) (fun j hj => by
                cases hj
                refine ⟨by first | omega | (simp only; omega), fun hk => ?_, fun o ho => ?_⟩
                · rcases hk with ⟨-, o, hk2, hk3⟩ | ⟨hk1, -⟩
                  · exact TYA.out _ o hk2 hk3 rfl
                  · omega
                · rw [show X.heap[w3.heap.size + 1]? = _ from h2] at ho
                  cases ho
                  exact ⟨_, _, _, rfl, by decide⟩)
              have GROW := Lib.hid grow
              have nb : ∀ k, k < W6.heap.size → k ≠ w3.heap.size + 1 → (X.setCell ⟨w3.heap.size + 1, 0, none⟩ (.int .i64 ((pre.length : Int) + 1))).heap[k]? = W6.heap[k]? := fun k hk hn => (Below.heap_setCell X ⟨w3.heap.size + 1, 0, none⟩ _ k hn).trans (h5 k hk hn)
              have NB := Lib.hid nb
              have cn2 := (X10.out.set 0 (.int .i64 ((pre.length : Int) + 1))).cell 0 _ rfl
              have cNn : (X.setCell ⟨w3.heap.size + 1, 0, none⟩ (.int .i64 ((pre.length : Int) + 1))).cell? ⟨w.heap.size, 0, none⟩ = some (.int .i64 (q : Int)) := Box.cell (show Box _ w.heap.size #[.int .i64 (q : Int)] 3 from (nb _ (by omega) (by omega)).trans BN6.out) 0 _ rfl
              have bx : Below w3.heap.size W6 (X.setCell ⟨w3.heap.size + 1, 0, none⟩ (.int .i64 ((pre.length : Int) + 1))) := h3.setCell (p := ⟨w3.heap.size + 1, 0, none⟩) (by first | omega | (simp only; omega)) _
              have BX2 := Lib.hid bx
              clear h0 h1 h2 h3 h4 h5 out6 grow hz0 hz5 hz6 hg3 HST hka hy nxt bad nb bx X6 XN X9
              by_cases hk : yk.toList = xk.toList
              · have q1 : (yk.toList == xk.toList) = true := by rw [beq_iff_eq]; exact hk
                by_cases hv : yv = xv
                · have q2 : (yv != xv) = false := by simp [hv]
                  have q3 : (yv == xv) = true := by simp [hv]
                  have HK := Lib.hid ((bytes_eqK _ _).1 hk)
                  have HV := Lib.hid hv
                  have HPX := Lib.hid (show ∃ r, ks = (pre ++ [(xk, xv)]) ++ r from by
                    obtain ⟨r, hr⟩ := P0.out
                    obtain ⟨r', hr'⟩ := NX.out r hr
                    exact ⟨r', by rw [hr, hr', HK.out, HV.out, List.append_assoc]; rfl⟩)
                  clear hk hv
                  have hb := Lib.hid (X10.out.set 0 (.int .i64 ((pre.length : Int) + 1)))
                  by_cases hpq : pre.length + 1 = q
                  · have q4 : ((pre.length : Int) + 1 == (q : Int)) = true := by rw [beq_iff_eq]; omega
                    have q5 : (pre.length + 1 == q) = true := by rw [beq_iff_eq]; exact hpq
                    have HPQ := Lib.hid hpq
                    clear hpq hqq
                    gi_wp2_with fail
                    exact ⟨trivial, GROW.out, .inr ⟨rfl, by rw [List.length_append, List.length_singleton]; exact HPQ.out, by rw [List.length_append, List.length_singleton]; exact hb.out, BX2.out, Nat.le_trans SX.out (by simp [World.setCell]), NB.out⟩⟩
                  · have q4 : ((pre.length : Int) + 1 == (q : Int)) = false := by rw [beq_eq_false_iff_ne]; omega
                    have q5 : (pre.length + 1 == q) = false := by rw [beq_eq_false_iff_ne]; exact hpq
                    have HPQ := Lib.hid (show pre.length + 1 < q from by have := PQ.out; omega)
                    clear hpq hqq
                    gi_wp2_with fail
                    exact ⟨GROW.out, HPX.out, by rw [List.length_append, List.length_singleton]; exact HPQ.out, by rw [List.length_append, List.length_singleton]; exact hb.out, BX2.out, Nat.le_trans SX.out (by simp [World.setCell]), NB.out⟩
                · have q2 : (yv != xv) = true := by simp [hv]
                  have q3 : (yv == xv) = false := by simp [hv]
                  have BD := Lib.hid (BAD.out fun h => hv h.2)
                  clear hk hv cn2 cNn
                  gi_wp2_with fail
                  exact ⟨trivial, OUT.out, .inl ⟨rfl, BD.out⟩⟩
              · have q1 : (yk.toList == xk.toList) = false := by rw [beq_eq_false_iff_ne]; exact hk
                have BD := Lib.hid (BAD.out fun h => hk (by rw [h.1]))
                clear hk cn2 cNn
                gi_wp2_with fail
                exact ⟨trivial, OUT.out, .inl ⟨rfl, BD.out⟩⟩
            · have zn : decide ((fs.length : Int) ≤ (pre.length : Int)) = true := by simp; omega
              have znn : decide (fs.length ≤ pre.length) = true := by simp; omega
              have BD := Lib.hid (show ¬ ∃ r, ks = (pre ++ [(xk, xv)]) ++ r from fun ⟨r, hr⟩ => by
                have h8 := KLE.out
                rw [hr, List.length_append, List.length_append, List.length_singleton] at h8
                omega)
              clear h0 h1 h2 h3 h4 h5 out6 hz0 hz5 hz6 hg3 HST hn X6 XN X9
              gi_wp2_with fail
              exact ⟨trivial, OUT.out, .inl ⟨rfl, BD.out⟩⟩
          case done =>
            rintro D xs X hD rfl ⟨h0, h1, h2, h3, h4, h5⟩ hK
            have hkl := KLE.out
            rw [hkl] at h1 h2
            have q4 : ((fs.length : Int) == (q : Int)) = false := by rw [beq_eq_false_iff_ne]; omega
            have q5 : (fs.length == q) = false := by rw [beq_eq_false_iff_ne]; omega
            have X6 : Box X (w.heap.size + 1) #[.bool false] 4 := (h5 _ (by omega) (by omega)).trans BR6.out
            have XN : Box X w.heap.size #[.int .i64 (q : Int)] 3 := (h5 _ (by omega) (by omega)).trans BN6.out
            have X9 : Box X w3.heap.size #[.slice A3 fs.length c3] 25 := (h5 _ (by omega) (by omega)).trans BF6.out
            have c10 := h2.cell 0 _ rfl
            have c9 := X9.cell 0 _ rfl
            have cN := XN.cell 0 _ rfl
            have SX := Lib.hid (K.out.ops.stay S6.out fun i o hi ho hp => (h5 i (Array.getElem?_eq_some_iff.1 ho).1 (TY6.out i o ho hp)).trans ho)
            have GX := Lib.hid (G6.out.trans (h3.mono (by omega)))
            have HK := Lib.hid hK
            have HD := Lib.hid (show w.heap.size + 1 < D from by omega)
            have LNX := Lib.hid (LN.out X SX.out (by omega))
            have R6 := Lib.hid X6
            have y1 : ((r.length : Int) == (r.length : Int)) = true := by simp
            have y2 : (r.length == r.length) = true := by simp
            have y3 : ((fs.length : Int) == (fs.length : Int)) = true := by simp
            have y4 : (fs.length == fs.length) = true := by simp
            have y5 : ((q : Int) == (q : Int)) = true := by simp
            have y6 : (q == q) = true := by simp
            clear h1 h2 h3 h4 h5 hK hz0 hz5 hz6 hg3 hqq HST hD X6 XN X9
            gi_wp2_with fail
            refine ⟨trivial, (callsIn_wide.2 LNX.out).mono ?_⟩
            rintro z w7 ⟨rfl, hb7⟩
            have R6 := Lib.hid (R6.out.later hb7)
            have GX := Lib.hid (GX.out.trans (hb7.mono GX.out.size))
            have HK := Lib.hid ((hb7.block D (Array.getElem?_eq_some_iff.1 HK.out).1).trans HK.out)
            clear hb7 c10 c9 cN
            gi_wp2_with fail
            refine ⟨trivial, (callsIn_wide.2 (LV.out _)).mono ?_⟩
            rintro z w8 ⟨rfl, hb8⟩
            have R6 := Lib.hid (R6.out.later hb8)
            have GX := Lib.hid (GX.out.trans (hb8.mono GX.out.size))
            have HK := Lib.hid ((hb8.block D (Array.getElem?_eq_some_iff.1 HK.out).1).trans HK.out)
            clear hb8
            have c6 := R6.out.cell 0 _ rfl
            have f6 := R6.out.frozen 0
            gi_wp2_with fail
            have X7 := R6.out.set 0 (.bool true)
            have hD9 : (w8.setCell ⟨w.heap.size + 1, 0, none⟩ (.bool true)).heap[D]? = some (.deferred (some [])) := (Below.heap_setCell w8 ⟨w.heap.size + 1, 0, none⟩ _ D (by have := HD.out; first | omega | (simp only; omega))).trans HK.out
            have G9 := GX.out.setCell (p := ⟨w.heap.size + 1, 0, none⟩) (Nat.le_succ _) (.bool true)
            clear c6 f6
            generalize w8.setCell ⟨w.heap.size + 1, 0, none⟩ (.bool true) = W9 at *
            refine ⟨by simp, .inl ⟨_, _, rfl, run_takeDeferred hD9, ?_⟩⟩
            have q3 := X7.keep (grownBy_putObj' W9 D (.deferred none)) (by have := HD.out; simp; omega)
            have r0 := q3.cell 0 _ rfl
            refine ⟨_, (by rw [results_cell1 rfl]; go_simp), rfl, G9.trans (belowK_b (w := w) (Nat.le_refl _) W9 D _ _ (by have := HD.out; omega) hD9 rfl rfl)⟩
          case stop =>
            rintro D c pre X hD ⟨-, hpre⟩ (⟨rfl, hbad⟩ | ⟨rfl, h1, h2, h3, h4, h5⟩) hK
            · exact absurd hpre hbad
            · rw [h1] at h2
              have X6 : Box X (w.heap.size + 1) #[.bool false] 4 := (h5 _ (by omega) (by omega)).trans BR6.out
              have XN : Box X w.heap.size #[.int .i64 (q : Int)] 3 := (h5 _ (by omega) (by omega)).trans BN6.out
              have X9 : Box X w3.heap.size #[.slice A3 fs.length c3] 25 := (h5 _ (by omega) (by omega)).trans BF6.out
              have c10 := h2.cell 0 _ rfl
              have c9 := X9.cell 0 _ rfl
              have cN := XN.cell 0 _ rfl
              have SX := Lib.hid (K.out.ops.stay S6.out fun i o hi ho hp => (h5 i (Array.getElem?_eq_some_iff.1 ho).1 (TY6.out i o ho hp)).trans ho)
              have GX := Lib.hid (G6.out.trans (h3.mono (by omega)))
              have HK := Lib.hid hK
              have HD := Lib.hid (show w.heap.size + 1 < D from by omega)
              have LNX := Lib.hid (LN.out X SX.out (by omega))
              have R6 := Lib.hid X6
              have y1 : ((r.length : Int) == (r.length : Int)) = true := by simp
              have y2 : (r.length == r.length) = true := by simp
              have y3 : ((fs.length : Int) == (fs.length : Int)) = true := by simp
              have y4 : (fs.length == fs.length) = true := by simp
              have y5 : ((q : Int) == (q : Int)) = true := by simp
              have y6 : (q == q) = true := by simp
              clear h1 h2 h3 h4 h5 hK hz0 hz5 hz6 hg3 hqq HST hD X6 XN X9
              gi_wp2_with fail
              refine ⟨trivial, (callsIn_wide.2 LNX.out).mono ?_⟩
              rintro z w7 ⟨rfl, hb7⟩
              have R6 := Lib.hid (R6.out.later hb7)
              have GX := Lib.hid (GX.out.trans (hb7.mono GX.out.size))
              have HK := Lib.hid ((hb7.block D (Array.getElem?_eq_some_iff.1 HK.out).1).trans HK.out)
              clear hb7 c10 c9 cN
              gi_wp2_with fail
              refine ⟨trivial, (callsIn_wide.2 (LV.out _)).mono ?_⟩
              rintro z w8 ⟨rfl, hb8⟩
              have R6 := Lib.hid (R6.out.later hb8)
              have GX := Lib.hid (GX.out.trans (hb8.mono GX.out.size))
              have HK := Lib.hid ((hb8.block D (Array.getElem?_eq_some_iff.1 HK.out).1).trans HK.out)
              clear hb8
              have c6 := R6.out.cell 0 _ rfl
              have f6 := R6.out.frozen 0
              gi_wp2_with fail
              have X7 := R6.out.set 0 (.bool true)
              have hD9 : (w8.setCell ⟨w.heap.size + 1, 0, none⟩ (.bool true)).heap[D]? = some (.deferred (some [])) := (Below.heap_setCell w8 ⟨w.heap.size + 1, 0, none⟩ _ D (by have := HD.out; first | omega | (simp only; omega))).trans HK.out
              have G9 := GX.out.setCell (p := ⟨w.heap.size + 1, 0, none⟩) (Nat.le_succ _) (.bool true)
              clear c6 f6
              generalize w8.setCell ⟨w.heap.size + 1, 0, none⟩ (.bool true) = W9 at *
              refine ⟨by simp, .inl ⟨_, _, rfl, run_takeDeferred hD9, ?_⟩⟩
              have q3 := X7.keep (grownBy_putObj' W9 D (.deferred none)) (by have := HD.out; simp; omega)
              have r0 := q3.cell 0 _ rfl
              refine ⟨_, (by rw [results_cell1 rfl]; go_simp), rfl, G9.trans (belowK_b (w := w) (Nat.le_refl _) W9 D _ _ (by have := HD.out; omega) hD9 rfl rfl)⟩
        · have zn : decide (n < 0) = false := by rw [decide_eq_false_iff_not]; omega
          have htm : Int.tmod n 10 = (m : Int) := by rw [hp]; exact hq2
          have hmd : n % 10 = (m : Int) := by rw [hp]; exact hq1
          clear hneg hp
          gi_wp2_with fail
          refine ⟨trivial, (callsIn_wide.2 (law_fewK _ _)).mono ?_⟩
          rintro z w5 ⟨rfl, rfl⟩
          gi_wp2_with fail
          rw [HW4.out]
          have hsz : (W4.setCell ⟨w.heap.size, 0, none⟩ (.int .i64 (q : Int))).heap.size = W4.heap.size := by simp [World.setCell]
          obtain ⟨W5, hW5⟩ : ∃ W5, (W4.setCell ⟨w.heap.size, 0, none⟩ (.int .i64 (q : Int))).alloc (.cells #[.int .i64 0] 3) = W5 := ⟨_, rfl⟩
          have hkeep : ∀ i, i ≠ w.heap.size → i < W4.heap.size → W5.heap[i]? = W4.heap[i]? := fun i hi hl => by
            rw [← hW5, Below.heap_alloc _ _ i (by rw [hsz]; exact hl)]
            exact Below.heap_setCell _ ⟨w.heap.size, 0, none⟩ _ i (by first | omega | (simp only; omega))
          have BN5 := Lib.hid (show Box W5 w.heap.size #[.int .i64 (q : Int)] 3 from by rw [← hW5]; exact (BN.out.set 0 (.int .i64 (q : Int))).alloc _)
          have BA5 := Lib.hid (show Box W5 (w3.heap.size + 1) #[.int .i64 0] 3 from by rw [← hW5]; exact Box.new _ _ _ _ (by rw [hsz, Z4.out]))
          have Z5 := Lib.hid (show W5.heap.size = w3.heap.size + 2 from by rw [← hW5, World.size_alloc, hsz, Z4.out])
          have GW4 : Below w.heap.size w W4 := G0.out.trans (G.out.mono (by omega))
          have G5 := Lib.hid (show Below w.heap.size w W5 from by rw [← hW5]; exact (GW4.setCell (p := ⟨w.heap.size, 0, none⟩) (Nat.le_refl _) (.int .i64 (q : Int))).alloc (by rw [hsz]; have := G.out.size; omega) _)
          clear GW4
          try rw [World.size_alloc] at hW5
          rw [hW5]
          clear hW5 hsz zn htm hmd
          refine ⟨trivial, (callsIn_wide.2 (FI.out W5 (K.out.ops.stay S.out fun i o hi ho _ => (hkeep i (by omega) (Array.getElem?_eq_some_iff.1 ho).1).trans ho) (by have := Z5.out; omega))).mono ?_⟩
          rintro z W6 ⟨gf, lb, rfl, eg, hb6, hT⟩
          have TL := Lib.hid (hT True w.heap.size (by have := hb6.size; have := Z5.out; omega))
          have S6 := Lib.hid (K.out.ops.on (K.out.ops.stay S.out fun i o hi ho _ => (hkeep i (by omega) (Array.getElem?_eq_some_iff.1 ho).1).trans ho) hb6)
          have BN6 := Lib.hid (BN5.out.later hb6)
          have BA6 := Lib.hid (BA5.out.later hb6)
          have BF6 := Lib.hid (Box.later (show Box W5 w3.heap.size _ _ from (hkeep _ hne BF.out.lt).trans BF.out) hb6)
          have BR6 := Lib.hid (Box.later (show Box W5 (w.heap.size + 1) _ _ from (hkeep _ (by omega) BR.out.lt).trans BR.out) hb6)
          have FR6 := Lib.hid ((RdX.notBox FR.out BN.out (fun i hi hl => hkeep i hi (by have := Z4.out; omega))).below (hb6.mono (by have := Z5.out; omega)))
          have TYA := Lib.hid (fun i o (h : W5.heap[i]? = some o) (hp : P o = true) => typed_ne BA5.out (K.out.ops.num _) h hp)
          have TYR := Lib.hid (fun i o (h : W5.heap[i]? = some o) (hp : P o = true) => typed_ne (show Box W5 (w.heap.size + 1) _ _ from (hkeep _ (by omega) BR.out.lt).trans BR.out) (K.out.ops.bol _) h hp)
          have TY6 := Lib.hid (fun i o (h : W6.heap[i]? = some o) (hp : P o = true) => typed_ne BA6.out (K.out.ops.num _) h hp)
          have G6 := Lib.hid (G5.out.trans (hb6.mono G5.out.size))
          have Z6 := Lib.hid hb6.size
          have EG := Lib.hid eg
          have hqf := fun (W : World) => run_eql_func_nil (P := Try.prog) W Try.underlying43 ⟨_, _, _, rfl⟩ (.func gf) #[] lb
          have HNE := Lib.hid hne
          clear hb6 hT eg hkeep BN5 BA5 BF BR FR BN O G5 S G HW4 cn fn hne hne2 z0 g3
          gi_wp2_with fail
          clear hqf
          obtain ⟨ks, hks⟩ : ∃ ks, kvI fs = ks := ⟨_, rfl⟩
          rw [hks] at TL
          have KLE := Lib.hid (show ks.length = fs.length from by rw [← hks, kvI, List.length_map])
          have KAT := Lib.hid (show ∀ (n : Nat) (h : n < fs.length) (h2 : n < ks.length), ks[n] = (fs[n].key, fs[n].v) from fun n h h2 => by simp only [← hks, kvI, List.getElem_map])
          have hz0 := Z0.out
          have hz5 := Z5.out
          have hz6 := Z6.out
          have hg3 := G3.out
          have hqq := HQ.out
          have HST : w.heap.size ≤ W6.heap.size := by omega
          refine wpIn_rangeTell2 (P := Try.prog) (Z := True) (T := TI) (Kp := KpF P W0.heap.size W5 W6) (n₀ := w.heap.size) (gf := gf) (lb := lb) rfl EG.out TL.out HST (fun k h => by
              rcases h with ⟨h1, o, h2, -⟩ | ⟨h1, h2⟩
              · have := (Array.getElem?_eq_some_iff.1 h2).1; omega
              · exact h2) (Below.refl _ _) (fun _ => rfl)
            (fun pre X => (∃ r, ks = pre ++ r) ∧ pre.length < q ∧ Box X (w3.heap.size + 1) #[.int .i64 (pre.length : Int)] 3 ∧ Below w3.heap.size W6 X ∧ W6.heap.size ≤ X.heap.size ∧ (∀ k, k < W6.heap.size → k ≠ w3.heap.size + 1 → X.heap[k]? = W6.heap[k]?))
            (fun c pre X => (c = .ret ∧ ¬ ∃ r, ks = pre ++ r) ∨ (c = .exit 2 ∧ pre.length = q ∧ Box X (w3.heap.size + 1) #[.int .i64 (pre.length : Int)] 3 ∧ Below w3.heap.size W6 X ∧ W6.heap.size ≤ X.heap.size ∧ (∀ k, k < W6.heap.size → k ≠ w3.heap.size + 1 → X.heap[k]? = W6.heap[k]?)))
            (fun s X Y hs htw => by
              obtain ⟨h0, h1, h2, h3, h4, h5⟩ := hs
              exact ⟨h0, h1, (htw.low _ (by omega) (by omega)).trans h2, h3.trans (htw.below (by omega) (by omega)), Nat.le_trans h4 htw.size, fun k hk hn => (htw.low k (by omega) hk).trans (h5 k hk hn)⟩)
            (fun c s X Y hs htw => by
              rcases hs with hs | ⟨h0, h1, h2, h3, h4, h5⟩
              · exact .inl hs
              · exact .inr ⟨h0, h1, (htw.low _ (by omega) (by omega)).trans h2, h3.trans (htw.below (by omega) (by omega)), Nat.le_trans h4 htw.size, fun k hk hn => (htw.low k (by omega) hk).trans (h5 k hk hn)⟩)
            ⟨⟨ks, rfl⟩, (by simp only [List.length_nil]; omega), BA6.out, Below.refl _ _, Nat.le_refl _, fun k _ _ => rfl⟩
            (fun x a' X => a' = { tmps := #[.slice A l.length ca, .string key, .int .i64 n, undef, undef, .pointer (some ⟨w.heap.size, 0, none⟩), .pointer (some ⟨w.heap.size + 1, 0, none⟩), .pointer (some ⟨gp, 0, none⟩), .slice A2 r.length c2, .int .i64 (k : Int), .pointer (some ⟨w3.heap.size, 0, none⟩), .pointer (some ⟨w3.heap.size + 1, 0, none⟩), .func (.func gf) #[] lb, .string x.1, .int .i64 x.2, .pointer (some ⟨gp, 0, none⟩), .pointer (some ⟨gp, 0, none⟩), .bool false, .int .i64 (k : Int), .slice A l.length ca, .int .i64 (l.length : Int), .bool true, .bool true, .int .i64 (k : Int), .bool false, .bool false, u26, u27, u28, u29, u30, u31, u32, u33, u34, u35, u36, u37, .slice A2 r.length c2, .string key, .string (fewK key), .slice A3 fs.length c3, .int .i64 n, .bool false, undef, undef, undef, .int .i64 n, .int .i64 (m : Int), .int .i64 (q : Int), .pointer (some ⟨gp, 0, none⟩), .string key, .string (fewK key), .func (.func gf) #[] lb, .func (.func gf) #[] lb, .bool false, .func (.func gf) #[] lb, .string x.1, .int .i64 x.2, undef, undef, undef, undef, undef, undef, undef, undef, undef, undef, undef, undef, undef, undef, undef, undef, undef, undef, undef, undef, undef, undef, undef, undef, undef, undef, undef, undef, undef, undef, undef, undef, undef, undef, undef, undef, undef, undef, undef, undef, undef, undef, undef, undef, undef, undef], defers := [] })
            (fun x a' _ X Y hs htw => hs)
            ?assign ?body ?done ?stop
          case assign =>
            rintro l2 pre x X K' hlt hI hK
            obtain ⟨xk, xv⟩ := x
            have HI := Lib.hid hI
            unfold encKV
            clear hz0 hz5 hz6 hg3 hqq HST hI
            gi_wp2_with fail
            exact hK _ _ (Kr.refl _ _ _ _ X) HI.out rfl
          case body =>
            rintro l2 pre x a' X hX ⟨h0, h1, h2, h3, h4, h5⟩ rfl hlen
            obtain ⟨xk, xv⟩ := x
            have X6 : Box X (w.heap.size + 1) #[.bool false] 4 := (h5 _ (by omega) (by omega)).trans BR6.out
            have XN : Box X w.heap.size #[.int .i64 (q : Int)] 3 := (h5 _ (by omega) (by omega)).trans BN6.out
            have X9 : Box X w3.heap.size #[.slice A3 fs.length c3] 25 := (h5 _ (by omega) (by omega)).trans BF6.out
            have c10 := h2.cell 0 _ rfl
            have f10 := h2.frozen 0
            have c9 := X9.cell 0 _ rfl
            have cN := XN.cell 0 _ rfl
            have f6 := X6.frozen 0
            have c6 := X6.cell 0 _ rfl
            have P0 := Lib.hid h0
            have X10 := Lib.hid h2
            have BX := Lib.hid h3
            have SX := Lib.hid h4
            have KX := Lib.hid h5
            have PQ := Lib.hid h1
            have RX := Lib.hid (FR6.out.below h3)
            have out6 : Kr TI (KpF P W0.heap.size W5 W6) w.heap.size W6.heap.size X (X.setCell ⟨w.heap.size + 1, 0, none⟩ (.bool false)) := Kr.of_grown (grownBy_setCell' X _ _) (by omega) (fun j hj => by
              cases hj
              refine ⟨by first | omega | (simp only; omega), fun hk => ?_, fun o ho => ?_⟩
              · rcases hk with ⟨-, o, hk2, hk3⟩ | ⟨hk1, -⟩
                · exact TYR.out _ o hk2 hk3 rfl
                · omega
              · rw [show X.heap[w.heap.size + 1]? = _ from X6] at ho
                cases ho
                exact ⟨_, _, _, rfl, by decide⟩)
            have OUT := Lib.hid out6
            by_cases hn : pre.length < fs.length
            · have zn : decide ((fs.length : Int) ≤ (pre.length : Int)) = false := by rw [decide_eq_false_iff_not]; omega
              have znn : decide (fs.length ≤ pre.length) = false := by rw [decide_eq_false_iff_not]; omega
              have hni : (pre.length : Int) < (fs.length : Int) := by omega
              have hw64 : IntKind.i64.wrap ((pre.length : Int) + 1) = (pre.length : Int) + 1 := by rw [IntKind.wrap_i64]; have := HFL.out; omega
              have hn2 : pre.length < ks.length := by rw [KLE.out]; exact hn
              have hka := KAT.out pre.length hn hn2
              obtain ⟨y, hy⟩ : ∃ y, fs[pre.length] = y := ⟨_, rfl⟩
              rw [hy] at hka
              obtain ⟨yk, yl, yv⟩ := y
              obtain ⟨bb, oo, rfl, -, e0, e1, e2⟩ := RdX.it RX.out pre.length hn hy
              have nxt : ∀ r, ks = pre ++ r → ∃ r', r = (yk, yv) :: r' := fun r hr => by
                have h9 : ks[pre.length]? = r[0]? := by rw [hr, List.getElem?_append_right (Nat.le_refl _), Nat.sub_self]
                rw [List.getElem?_eq_getElem hn2, hka] at h9
                cases r with
                | nil => simp at h9
                | cons z r' => simp at h9; exact ⟨r', by rw [← h9]⟩
              have NX := Lib.hid nxt
              have bad : ¬ (yk = xk ∧ yv = xv) → ¬ ∃ r, ks = (pre ++ [(xk, xv)]) ++ r := fun hne ⟨r, hr⟩ => by
                rw [List.append_assoc] at hr
                obtain ⟨r', hr'⟩ := nxt _ hr
                simp only [List.singleton_append, List.cons.injEq, Prod.mk.injEq] at hr'
                exact hne ⟨hr'.1.1.symm, hr'.1.2.symm⟩
              have BAD := Lib.hid bad
              have grow : Kr TI (KpF P W0.heap.size W5 W6) w.heap.size W6.heap.size X (X.setCell ⟨w3.heap.size + 1, 0, none⟩ (.int .i64 ((pre.length : Int) + 1))) := Kr.of_grown (grownBy_setCell' X _ _) (by omega) (fun j hj => by
                cases hj
                refine ⟨by first | omega | (simp only; omega), fun hk => ?_, fun o ho => ?_⟩
                · rcases hk with ⟨-, o, hk2, hk3⟩ | ⟨hk1, -⟩
                  · exact TYA.out _ o hk2 hk3 rfl
                  · omega
                · rw [show X.heap[w3.heap.size + 1]? = _ from h2] at ho
                  cases ho
                  exact ⟨_, _, _, rfl, by decide⟩)
              have GROW := Lib.hid grow
              have nb : ∀ k, k < W6.heap.size → k ≠ w3.heap.size + 1 → (X.setCell ⟨w3.heap.size + 1, 0, none⟩ (.int .i64 ((pre.length : Int) + 1))).heap[k]? = W6.heap[k]? := fun k hk hn => (Below.heap_setCell X ⟨w3.heap.size + 1, 0, none⟩ _ k hn).trans (h5 k hk hn)
              have NB := Lib.hid nb
              have cn2 := (X10.out.set 0 (.int .i64 ((pre.length : Int) + 1))).cell 0 _ rfl
              have cNn : (X.setCell ⟨w3.heap.size + 1, 0, none⟩ (.int .i64 ((pre.length : Int) + 1))).cell? ⟨w.heap.size, 0, none⟩ = some (.int .i64 (q : Int)) := Box.cell (show Box _ w.heap.size #[.int .i64 (q : Int)] 3 from (nb _ (by omega) (by omega)).trans BN6.out) 0 _ rfl
              have bx : Below w3.heap.size W6 (X.setCell ⟨w3.heap.size + 1, 0, none⟩ (.int .i64 ((pre.length : Int) + 1))) := h3.setCell (p := ⟨w3.heap.size + 1, 0, none⟩) (by first | omega | (simp only; omega)) _
              have BX2 := Lib.hid bx
              clear h0 h1 h2 h3 h4 h5 out6 grow hz0 hz5 hz6 hg3 HST hka hy nxt bad nb bx X6 XN X9
              by_cases hk : yk.toList = xk.toList
              · have q1 : (yk.toList == xk.toList) = true := by rw [beq_iff_eq]; exact hk
                by_cases hv : yv = xv
                · have q2 : (yv != xv) = false := by simp [hv]
                  have q3 : (yv == xv) = true := by simp [hv]
                  have HK := Lib.hid ((bytes_eqK _ _).1 hk)
                  have HV := Lib.hid hv
                  have HPX := Lib.hid (show ∃ r, ks = (pre ++ [(xk, xv)]) ++ r from by
                    obtain ⟨r, hr⟩ := P0.out
                    obtain ⟨r', hr'⟩ := NX.out r hr
                    exact ⟨r', by rw [hr, hr', HK.out, HV.out, List.append_assoc]; rfl⟩)
                  clear hk hv
                  have hb := Lib.hid (X10.out.set 0 (.int .i64 ((pre.length : Int) + 1)))
                  by_cases hpq : pre.length + 1 = q
                  · have q4 : ((pre.length : Int) + 1 == (q : Int)) = true := by rw [beq_iff_eq]; omega
                    have q5 : (pre.length + 1 == q) = true := by rw [beq_iff_eq]; exact hpq
                    have HPQ := Lib.hid hpq
                    clear hpq hqq
                    gi_wp2_with fail
                    exact ⟨trivial, GROW.out, .inr ⟨rfl, by rw [List.length_append, List.length_singleton]; exact HPQ.out, by rw [List.length_append, List.length_singleton]; exact hb.out, BX2.out, Nat.le_trans SX.out (by simp [World.setCell]), NB.out⟩⟩
                  · have q4 : ((pre.length : Int) + 1 == (q : Int)) = false := by rw [beq_eq_false_iff_ne]; omega
                    have q5 : (pre.length + 1 == q) = false := by rw [beq_eq_false_iff_ne]; exact hpq
                    have HPQ := Lib.hid (show pre.length + 1 < q from by have := PQ.out; omega)
                    clear hpq hqq
                    gi_wp2_with fail
                    exact ⟨GROW.out, HPX.out, by rw [List.length_append, List.length_singleton]; exact HPQ.out, by rw [List.length_append, List.length_singleton]; exact hb.out, BX2.out, Nat.le_trans SX.out (by simp [World.setCell]), NB.out⟩
                · have q2 : (yv != xv) = true := by simp [hv]
                  have q3 : (yv == xv) = false := by simp [hv]
                  have BD := Lib.hid (BAD.out fun h => hv h.2)
                  clear hk hv cn2 cNn
                  gi_wp2_with fail
                  exact ⟨trivial, OUT.out, .inl ⟨rfl, BD.out⟩⟩
              · have q1 : (yk.toList == xk.toList) = false := by rw [beq_eq_false_iff_ne]; exact hk
                have BD := Lib.hid (BAD.out fun h => hk (by rw [h.1]))
                clear hk cn2 cNn
                gi_wp2_with fail
                exact ⟨trivial, OUT.out, .inl ⟨rfl, BD.out⟩⟩
            · have zn : decide ((fs.length : Int) ≤ (pre.length : Int)) = true := by simp; omega
              have znn : decide (fs.length ≤ pre.length) = true := by simp; omega
              have BD := Lib.hid (show ¬ ∃ r, ks = (pre ++ [(xk, xv)]) ++ r from fun ⟨r, hr⟩ => by
                have h8 := KLE.out
                rw [hr, List.length_append, List.length_append, List.length_singleton] at h8
                omega)
              clear h0 h1 h2 h3 h4 h5 out6 hz0 hz5 hz6 hg3 HST hn X6 XN X9
              gi_wp2_with fail
              exact ⟨trivial, OUT.out, .inl ⟨rfl, BD.out⟩⟩
          case done =>
            rintro D xs X hD rfl ⟨h0, h1, h2, h3, h4, h5⟩ hK
            have hkl := KLE.out
            rw [hkl] at h1 h2
            have q4 : ((fs.length : Int) == (q : Int)) = false := by rw [beq_eq_false_iff_ne]; omega
            have q5 : (fs.length == q) = false := by rw [beq_eq_false_iff_ne]; omega
            have X6 : Box X (w.heap.size + 1) #[.bool false] 4 := (h5 _ (by omega) (by omega)).trans BR6.out
            have XN : Box X w.heap.size #[.int .i64 (q : Int)] 3 := (h5 _ (by omega) (by omega)).trans BN6.out
            have X9 : Box X w3.heap.size #[.slice A3 fs.length c3] 25 := (h5 _ (by omega) (by omega)).trans BF6.out
            have c10 := h2.cell 0 _ rfl
            have c9 := X9.cell 0 _ rfl
            have cN := XN.cell 0 _ rfl
            have SX := Lib.hid (K.out.ops.stay S6.out fun i o hi ho hp => (h5 i (Array.getElem?_eq_some_iff.1 ho).1 (TY6.out i o ho hp)).trans ho)
            have GX := Lib.hid (G6.out.trans (h3.mono (by omega)))
            have HK := Lib.hid hK
            have HD := Lib.hid (show w.heap.size + 1 < D from by omega)
            have LNX := Lib.hid (LN.out X SX.out (by omega))
            have R6 := Lib.hid X6
            have y1 : ((r.length : Int) == (r.length : Int)) = true := by simp
            have y2 : (r.length == r.length) = true := by simp
            have y3 : ((fs.length : Int) == (fs.length : Int)) = true := by simp
            have y4 : (fs.length == fs.length) = true := by simp
            have y5 : ((q : Int) == (q : Int)) = true := by simp
            have y6 : (q == q) = true := by simp
            clear h1 h2 h3 h4 h5 hK hz0 hz5 hz6 hg3 hqq HST hD X6 XN X9
            gi_wp2_with fail
            refine ⟨trivial, (callsIn_wide.2 LNX.out).mono ?_⟩
            rintro z w7 ⟨rfl, hb7⟩
            have R6 := Lib.hid (R6.out.later hb7)
            have GX := Lib.hid (GX.out.trans (hb7.mono GX.out.size))
            have HK := Lib.hid ((hb7.block D (Array.getElem?_eq_some_iff.1 HK.out).1).trans HK.out)
            clear hb7 c10 c9 cN
            gi_wp2_with fail
            refine ⟨trivial, (callsIn_wide.2 (LV.out _)).mono ?_⟩
            rintro z w8 ⟨rfl, hb8⟩
            have R6 := Lib.hid (R6.out.later hb8)
            have GX := Lib.hid (GX.out.trans (hb8.mono GX.out.size))
            have HK := Lib.hid ((hb8.block D (Array.getElem?_eq_some_iff.1 HK.out).1).trans HK.out)
            clear hb8
            have c6 := R6.out.cell 0 _ rfl
            have f6 := R6.out.frozen 0
            gi_wp2_with fail
            have X7 := R6.out.set 0 (.bool true)
            have hD9 : (w8.setCell ⟨w.heap.size + 1, 0, none⟩ (.bool true)).heap[D]? = some (.deferred (some [])) := (Below.heap_setCell w8 ⟨w.heap.size + 1, 0, none⟩ _ D (by have := HD.out; first | omega | (simp only; omega))).trans HK.out
            have G9 := GX.out.setCell (p := ⟨w.heap.size + 1, 0, none⟩) (Nat.le_succ _) (.bool true)
            clear c6 f6
            generalize w8.setCell ⟨w.heap.size + 1, 0, none⟩ (.bool true) = W9 at *
            refine ⟨by simp, .inl ⟨_, _, rfl, run_takeDeferred hD9, ?_⟩⟩
            have q3 := X7.keep (grownBy_putObj' W9 D (.deferred none)) (by have := HD.out; simp; omega)
            have r0 := q3.cell 0 _ rfl
            refine ⟨_, (by rw [results_cell1 rfl]; go_simp), rfl, G9.trans (belowK_b (w := w) (Nat.le_refl _) W9 D _ _ (by have := HD.out; omega) hD9 rfl rfl)⟩
          case stop =>
            rintro D c pre X hD ⟨-, hpre⟩ (⟨rfl, hbad⟩ | ⟨rfl, h1, h2, h3, h4, h5⟩) hK
            · exact absurd hpre hbad
            · rw [h1] at h2
              have X6 : Box X (w.heap.size + 1) #[.bool false] 4 := (h5 _ (by omega) (by omega)).trans BR6.out
              have XN : Box X w.heap.size #[.int .i64 (q : Int)] 3 := (h5 _ (by omega) (by omega)).trans BN6.out
              have X9 : Box X w3.heap.size #[.slice A3 fs.length c3] 25 := (h5 _ (by omega) (by omega)).trans BF6.out
              have c10 := h2.cell 0 _ rfl
              have c9 := X9.cell 0 _ rfl
              have cN := XN.cell 0 _ rfl
              have SX := Lib.hid (K.out.ops.stay S6.out fun i o hi ho hp => (h5 i (Array.getElem?_eq_some_iff.1 ho).1 (TY6.out i o ho hp)).trans ho)
              have GX := Lib.hid (G6.out.trans (h3.mono (by omega)))
              have HK := Lib.hid hK
              have HD := Lib.hid (show w.heap.size + 1 < D from by omega)
              have LNX := Lib.hid (LN.out X SX.out (by omega))
              have R6 := Lib.hid X6
              have y1 : ((r.length : Int) == (r.length : Int)) = true := by simp
              have y2 : (r.length == r.length) = true := by simp
              have y3 : ((fs.length : Int) == (fs.length : Int)) = true := by simp
              have y4 : (fs.length == fs.length) = true := by simp
              have y5 : ((q : Int) == (q : Int)) = true := by simp
              have y6 : (q == q) = true := by simp
              clear h1 h2 h3 h4 h5 hK hz0 hz5 hz6 hg3 hqq HST hD X6 XN X9
              gi_wp2_with fail
              refine ⟨trivial, (callsIn_wide.2 LNX.out).mono ?_⟩
              rintro z w7 ⟨rfl, hb7⟩
              have R6 := Lib.hid (R6.out.later hb7)
              have GX := Lib.hid (GX.out.trans (hb7.mono GX.out.size))
              have HK := Lib.hid ((hb7.block D (Array.getElem?_eq_some_iff.1 HK.out).1).trans HK.out)
              clear hb7 c10 c9 cN
              gi_wp2_with fail
              refine ⟨trivial, (callsIn_wide.2 (LV.out _)).mono ?_⟩
              rintro z w8 ⟨rfl, hb8⟩
              have R6 := Lib.hid (R6.out.later hb8)
              have GX := Lib.hid (GX.out.trans (hb8.mono GX.out.size))
              have HK := Lib.hid ((hb8.block D (Array.getElem?_eq_some_iff.1 HK.out).1).trans HK.out)
              clear hb8
              have c6 := R6.out.cell 0 _ rfl
              have f6 := R6.out.frozen 0
              gi_wp2_with fail
              have X7 := R6.out.set 0 (.bool true)
              have hD9 : (w8.setCell ⟨w.heap.size + 1, 0, none⟩ (.bool true)).heap[D]? = some (.deferred (some [])) := (Below.heap_setCell w8 ⟨w.heap.size + 1, 0, none⟩ _ D (by have := HD.out; first | omega | (simp only; omega))).trans HK.out
              have G9 := GX.out.setCell (p := ⟨w.heap.size + 1, 0, none⟩) (Nat.le_succ _) (.bool true)
              clear c6 f6
              generalize w8.setCell ⟨w.heap.size + 1, 0, none⟩ (.bool true) = W9 at *
              refine ⟨by simp, .inl ⟨_, _, rfl, run_takeDeferred hD9, ?_⟩⟩
              have q3 := X7.keep (grownBy_putObj' W9 D (.deferred none)) (by have := HD.out; simp; omega)
              have r0 := q3.cell 0 _ rfl
              refine ⟨_, (by rw [results_cell1 rfl]; go_simp), rfl, G9.trans (belowK_b (w := w) (Nat.le_refl _) W9 D _ _ (by have := HD.out; omega) hD9 rfl rfl)⟩
      · have zl : decide ((k : Int) < (l.length : Int)) = false := by rw [decide_eq_false_iff_not]; omega
        gi_wp2_with fail
        refine ⟨trivial, (callsIn_wide.2 (law_fewK _ _)).mono ?_⟩
        rintro z w2 ⟨rfl, rfl⟩
        gi_wp2_with fail
        refine ⟨trivial, (callsIn_wide.2 (FW.out _ O.out.rd)).mono ?_⟩
        rintro z w3 ⟨v3, rfl, hr3, hb3⟩
        have S := Lib.hid (K.out.ops.on S.out hb3)
        have O := Lib.hid (O.out.on hb3)
        have FR := Lib.hid (hr3.more hb3.size)
        have BN := Lib.hid (BN.out.later hb3)
        have BR := Lib.hid (BR.out.later hb3)
        have G := Lib.hid (G.out.trans (hb3.mono G.out.size))
        obtain ⟨A3, c3, e3, -⟩ := id hr3
        subst e3
        clear hr3 hb3 FW hlt hl1 zl
        obtain ⟨W4, hW4⟩ : ∃ W4, w3.alloc (.cells #[.slice A3 fs.length c3] 25) = W4 := ⟨_, rfl⟩
        have hb4 : Below w3.heap.size w3 W4 := by rw [← hW4]; exact alloc_below _ _
        have BF := Lib.hid (show Box W4 w3.heap.size #[.slice A3 fs.length c3] 25 from by rw [← hW4]; exact Box.new w3 _ _ _ rfl)
        have BN := Lib.hid (BN.out.later hb4)
        have BR := Lib.hid (BR.out.later hb4)
        have FR := Lib.hid (FR.out.below hb4)
        have S := Lib.hid (K.out.ops.on S.out hb4)
        have O := Lib.hid (O.out.on hb4)
        have Z4 := Lib.hid (show W4.heap.size = w3.heap.size + 1 from by rw [← hW4]; simp)
        have G3 := Lib.hid G.out.size
        have G := Lib.hid (G.out.trans (hb4.mono G.out.size))
        have HW4 := Lib.hid hW4
        clear hb4 hW4
        have cn := BN.out.cell 0 _ rfl
        have fn := BN.out.frozen 0
        rw [← HW4.out] at cn fn
        have z0 := Z0.out
        have g3 := G3.out
        have hne : w3.heap.size ≠ w.heap.size := by omega
        have hne2 : w3.heap.size + 1 ≠ w.heap.size := by omega
        rcases hp with ⟨hneg, hp⟩ | ⟨hneg, hp⟩
        · have hnn : -(n + 1) = (p : Int) := by omega
          have zn : decide (n < 0) = true := by simp only [decide_eq_true_eq]; exact hneg
          have wn : IntKind.i64.wrap (n + 1) = n + 1 := by rw [IntKind.wrap_i64]; omega
          have wm : IntKind.i64.wrap (p : Int) = (p : Int) := by rw [IntKind.wrap_i64]; omega
          have cn2 := (BN.out.set 0 (.int .i64 (p : Int))).cell 0 _ rfl
          have fn2 := (BN.out.set 0 (.int .i64 (p : Int))).frozen 0
          rw [← HW4.out] at cn2 fn2
          clear hneg hp
          gi_wp2_with fail
          refine ⟨trivial, (callsIn_wide.2 (law_fewK _ _)).mono ?_⟩
          rintro z w5 ⟨rfl, rfl⟩
          gi_wp2_with fail
          rw [HW4.out]
          have hsz : ((W4.setCell ⟨w.heap.size, 0, none⟩ (.int .i64 (p : Int))).setCell ⟨w.heap.size, 0, none⟩ (.int .i64 (q : Int))).heap.size = W4.heap.size := by simp [World.setCell]
          obtain ⟨W5, hW5⟩ : ∃ W5, ((W4.setCell ⟨w.heap.size, 0, none⟩ (.int .i64 (p : Int))).setCell ⟨w.heap.size, 0, none⟩ (.int .i64 (q : Int))).alloc (.cells #[.int .i64 0] 3) = W5 := ⟨_, rfl⟩
          have hkeep : ∀ i, i ≠ w.heap.size → i < W4.heap.size → W5.heap[i]? = W4.heap[i]? := fun i hi hl => by
            rw [← hW5, Below.heap_alloc _ _ i (by rw [hsz]; exact hl)]
            exact (Below.heap_setCell _ ⟨w.heap.size, 0, none⟩ _ i (by first | omega | (simp only; omega))).trans (Below.heap_setCell _ ⟨w.heap.size, 0, none⟩ _ i (by first | omega | (simp only; omega)))
          have BN5 := Lib.hid (show Box W5 w.heap.size #[.int .i64 (q : Int)] 3 from by rw [← hW5]; exact ((BN.out.set 0 (.int .i64 (p : Int))).set 0 (.int .i64 (q : Int))).alloc _)
          have BA5 := Lib.hid (show Box W5 (w3.heap.size + 1) #[.int .i64 0] 3 from by rw [← hW5]; exact Box.new _ _ _ _ (by rw [hsz, Z4.out]))
          have Z5 := Lib.hid (show W5.heap.size = w3.heap.size + 2 from by rw [← hW5, World.size_alloc, hsz, Z4.out])
          have GW4 : Below w.heap.size w W4 := G0.out.trans (G.out.mono (by omega))
          have G5 := Lib.hid (show Below w.heap.size w W5 from by rw [← hW5]; exact ((GW4.setCell (p := ⟨w.heap.size, 0, none⟩) (Nat.le_refl _) (.int .i64 (p : Int))).setCell (p := ⟨w.heap.size, 0, none⟩) (Nat.le_refl _) (.int .i64 (q : Int))).alloc (by rw [hsz]; have := G.out.size; omega) _)
          clear GW4
          try rw [World.size_alloc] at hW5
          rw [hW5]
          clear hW5 hsz hnn zn wn wm cn2 fn2
          refine ⟨trivial, (callsIn_wide.2 (FI.out W5 (K.out.ops.stay S.out fun i o hi ho _ => (hkeep i (by omega) (Array.getElem?_eq_some_iff.1 ho).1).trans ho) (by have := Z5.out; omega))).mono ?_⟩
          rintro z W6 ⟨gf, lb, rfl, eg, hb6, hT⟩
          have TL := Lib.hid (hT True w.heap.size (by have := hb6.size; have := Z5.out; omega))
          have S6 := Lib.hid (K.out.ops.on (K.out.ops.stay S.out fun i o hi ho _ => (hkeep i (by omega) (Array.getElem?_eq_some_iff.1 ho).1).trans ho) hb6)
          have BN6 := Lib.hid (BN5.out.later hb6)
          have BA6 := Lib.hid (BA5.out.later hb6)
          have BF6 := Lib.hid (Box.later (show Box W5 w3.heap.size _ _ from (hkeep _ hne BF.out.lt).trans BF.out) hb6)
          have BR6 := Lib.hid (Box.later (show Box W5 (w.heap.size + 1) _ _ from (hkeep _ (by omega) BR.out.lt).trans BR.out) hb6)
          have FR6 := Lib.hid ((RdX.notBox FR.out BN.out (fun i hi hl => hkeep i hi (by have := Z4.out; omega))).below (hb6.mono (by have := Z5.out; omega)))
          have TYA := Lib.hid (fun i o (h : W5.heap[i]? = some o) (hp : P o = true) => typed_ne BA5.out (K.out.ops.num _) h hp)
          have TYR := Lib.hid (fun i o (h : W5.heap[i]? = some o) (hp : P o = true) => typed_ne (show Box W5 (w.heap.size + 1) _ _ from (hkeep _ (by omega) BR.out.lt).trans BR.out) (K.out.ops.bol _) h hp)
          have TY6 := Lib.hid (fun i o (h : W6.heap[i]? = some o) (hp : P o = true) => typed_ne BA6.out (K.out.ops.num _) h hp)
          have G6 := Lib.hid (G5.out.trans (hb6.mono G5.out.size))
          have Z6 := Lib.hid hb6.size
          have EG := Lib.hid eg
          have hqf := fun (W : World) => run_eql_func_nil (P := Try.prog) W Try.underlying43 ⟨_, _, _, rfl⟩ (.func gf) #[] lb
          have HNE := Lib.hid hne
          clear hb6 hT eg hkeep BN5 BA5 BF BR FR BN O G5 S G HW4 cn fn hne hne2 z0 g3
          gi_wp2_with fail
          clear hqf
          obtain ⟨ks, hks⟩ : ∃ ks, kvI fs = ks := ⟨_, rfl⟩
          rw [hks] at TL
          have KLE := Lib.hid (show ks.length = fs.length from by rw [← hks, kvI, List.length_map])
          have KAT := Lib.hid (show ∀ (n : Nat) (h : n < fs.length) (h2 : n < ks.length), ks[n] = (fs[n].key, fs[n].v) from fun n h h2 => by simp only [← hks, kvI, List.getElem_map])
          have hz0 := Z0.out
          have hz5 := Z5.out
          have hz6 := Z6.out
          have hg3 := G3.out
          have hqq := HQ.out
          have HST : w.heap.size ≤ W6.heap.size := by omega
          refine wpIn_rangeTell2 (P := Try.prog) (Z := True) (T := TI) (Kp := KpF P W0.heap.size W5 W6) (n₀ := w.heap.size) (gf := gf) (lb := lb) rfl EG.out TL.out HST (fun k h => by
              rcases h with ⟨h1, o, h2, -⟩ | ⟨h1, h2⟩
              · have := (Array.getElem?_eq_some_iff.1 h2).1; omega
              · exact h2) (Below.refl _ _) (fun _ => rfl)
            (fun pre X => (∃ r, ks = pre ++ r) ∧ pre.length < q ∧ Box X (w3.heap.size + 1) #[.int .i64 (pre.length : Int)] 3 ∧ Below w3.heap.size W6 X ∧ W6.heap.size ≤ X.heap.size ∧ (∀ k, k < W6.heap.size → k ≠ w3.heap.size + 1 → X.heap[k]? = W6.heap[k]?))
            (fun c pre X => (c = .ret ∧ ¬ ∃ r, ks = pre ++ r) ∨ (c = .exit 2 ∧ pre.length = q ∧ Box X (w3.heap.size + 1) #[.int .i64 (pre.length : Int)] 3 ∧ Below w3.heap.size W6 X ∧ W6.heap.size ≤ X.heap.size ∧ (∀ k, k < W6.heap.size → k ≠ w3.heap.size + 1 → X.heap[k]? = W6.heap[k]?)))
            (fun s X Y hs htw => by
              obtain ⟨h0, h1, h2, h3, h4, h5⟩ := hs
              exact ⟨h0, h1, (htw.low _ (by omega) (by omega)).trans h2, h3.trans (htw.below (by omega) (by omega)), Nat.le_trans h4 htw.size, fun k hk hn => (htw.low k (by omega) hk).trans (h5 k hk hn)⟩)
            (fun c s X Y hs htw => by
              rcases hs with hs | ⟨h0, h1, h2, h3, h4, h5⟩
              · exact .inl hs
              · exact .inr ⟨h0, h1, (htw.low _ (by omega) (by omega)).trans h2, h3.trans (htw.below (by omega) (by omega)), Nat.le_trans h4 htw.size, fun k hk hn => (htw.low k (by omega) hk).trans (h5 k hk hn)⟩)
            ⟨⟨ks, rfl⟩, (by simp only [List.length_nil]; omega), BA6.out, Below.refl _ _, Nat.le_refl _, fun k _ _ => rfl⟩
            (fun x a' X => a' = { tmps := #[.slice A l.length ca, .string key, .int .i64 n, undef, undef, .pointer (some ⟨w.heap.size, 0, none⟩), .pointer (some ⟨w.heap.size + 1, 0, none⟩), .pointer (some ⟨gp, 0, none⟩), .slice A2 r.length c2, .int .i64 (k : Int), .pointer (some ⟨w3.heap.size, 0, none⟩), .pointer (some ⟨w3.heap.size + 1, 0, none⟩), .func (.func gf) #[] lb, .string x.1, .int .i64 x.2, .pointer (some ⟨gp, 0, none⟩), .pointer (some ⟨gp, 0, none⟩), .bool false, .int .i64 (k : Int), .slice A l.length ca, .int .i64 (l.length : Int), .bool false, .bool false, undef, undef, .bool false, u26, u27, u28, u29, u30, u31, u32, u33, u34, u35, u36, u37, .slice A2 r.length c2, .string key, .string (fewK key), .slice A3 fs.length c3, .int .i64 n, .bool true, .int .i64 n, .int .i64 (n + 1), .int .i64 (p : Int), .int .i64 (p : Int), .int .i64 (m : Int), .int .i64 (q : Int), .pointer (some ⟨gp, 0, none⟩), .string key, .string (fewK key), .func (.func gf) #[] lb, .func (.func gf) #[] lb, .bool false, .func (.func gf) #[] lb, .string x.1, .int .i64 x.2, undef, undef, undef, undef, undef, undef, undef, undef, undef, undef, undef, undef, undef, undef, undef, undef, undef, undef, undef, undef, undef, undef, undef, undef, undef, undef, undef, undef, undef, undef, undef, undef, undef, undef, undef, undef, undef, undef, undef, undef, undef, undef, undef, undef, undef, undef], defers := [] })
            (fun x a' _ X Y hs htw => hs)
            ?assign ?body ?done ?stop
          case assign =>
            rintro l2 pre x X K' hlt hI hK
            obtain ⟨xk, xv⟩ := x
            have HI := Lib.hid hI
            unfold encKV
            clear hz0 hz5 hz6 hg3 hqq HST hI
            gi_wp2_with fail
            exact hK _ _ (Kr.refl _ _ _ _ X) HI.out rfl
          case body =>
            rintro l2 pre x a' X hX ⟨h0, h1, h2, h3, h4, h5⟩ rfl hlen
            obtain ⟨xk, xv⟩ := x
            have X6 : Box X (w.heap.size + 1) #[.bool false] 4 := (h5 _ (by omega) (by omega)).trans BR6.out
            have XN : Box X w.heap.size #[.int .i64 (q : Int)] 3 := (h5 _ (by omega) (by omega)).trans BN6.out
            have X9 : Box X w3.heap.size #[.slice A3 fs.length c3] 25 := (h5 _ (by omega) (by omega)).trans BF6.out
            have c10 := h2.cell 0 _ rfl
            have f10 := h2.frozen 0
            have c9 := X9.cell 0 _ rfl
            have cN := XN.cell 0 _ rfl
            have f6 := X6.frozen 0
            have c6 := X6.cell 0 _ rfl
            have P0 := Lib.hid h0
            have X10 := Lib.hid h2
            have BX := Lib.hid h3
            have SX := Lib.hid h4
            have KX := Lib.hid h5
            have PQ := Lib.hid h1
            have RX := Lib.hid (FR6.out.below h3)
            have out6 : Kr TI (KpF P W0.heap.size W5 W6) w.heap.size W6.heap.size X (X.setCell ⟨w.heap.size + 1, 0, none⟩ (.bool false)) := Kr.of_grown (grownBy_setCell' X _ _) (by omega) (fun j hj => by
              cases hj
              refine ⟨by first | omega | (simp only; omega), fun hk => ?_, fun o ho => ?_⟩
              · rcases hk with ⟨-, o, hk2, hk3⟩ | ⟨hk1, -⟩
                · exact TYR.out _ o hk2 hk3 rfl
                · omega
              · rw [show X.heap[w.heap.size + 1]? = _ from X6] at ho
                cases ho
                exact ⟨_, _, _, rfl, by decide⟩)
            have OUT := Lib.hid out6
            by_cases hn : pre.length < fs.length
            · have zn : decide ((fs.length : Int) ≤ (pre.length : Int)) = false := by rw [decide_eq_false_iff_not]; omega
              have znn : decide (fs.length ≤ pre.length) = false := by rw [decide_eq_false_iff_not]; omega
              have hni : (pre.length : Int) < (fs.length : Int) := by omega
              have hw64 : IntKind.i64.wrap ((pre.length : Int) + 1) = (pre.length : Int) + 1 := by rw [IntKind.wrap_i64]; have := HFL.out; omega
              have hn2 : pre.length < ks.length := by rw [KLE.out]; exact hn
              have hka := KAT.out pre.length hn hn2
              obtain ⟨y, hy⟩ : ∃ y, fs[pre.length] = y := ⟨_, rfl⟩
              rw [hy] at hka
              obtain ⟨yk, yl, yv⟩ := y
              obtain ⟨bb, oo, rfl, -, e0, e1, e2⟩ := RdX.it RX.out pre.length hn hy
              have nxt : ∀ r, ks = pre ++ r → ∃ r', r = (yk, yv) :: r' := fun r hr => by
                have h9 : ks[pre.length]? = r[0]? := by rw [hr, List.getElem?_append_right (Nat.le_refl _), Nat.sub_self]
                rw [List.getElem?_eq_getElem hn2, hka] at h9
                cases r with
                | nil => simp at h9
                | cons z r' => simp at h9; exact ⟨r', by rw [← h9]⟩
              have NX := Lib.hid nxt
              have bad : ¬ (yk = xk ∧ yv = xv) → ¬ ∃ r, ks = (pre ++ [(xk, xv)]) ++ r := fun hne ⟨r, hr⟩ => by
                rw [List.append_assoc] at hr
                obtain ⟨r', hr'⟩ := nxt _ hr
                simp only [List.singleton_append, List.cons.injEq, Prod.mk.injEq] at hr'
                exact hne ⟨hr'.1.1.symm, hr'.1.2.symm⟩
              have BAD := Lib.hid bad
              have grow : Kr TI (KpF P W0.heap.size W5 W6) w.heap.size W6.heap.size X (X.setCell ⟨w3.heap.size + 1, 0, none⟩ (.int .i64 ((pre.length : Int) + 1))) := Kr.of_grown (grownBy_setCell' X _ _) (by omega) (fun j hj => by
                cases hj
                refine ⟨by first | omega | (simp only; omega), fun hk => ?_, fun o ho => ?_⟩
                · rcases hk with ⟨-, o, hk2, hk3⟩ | ⟨hk1, -⟩
                  · exact TYA.out _ o hk2 hk3 rfl
                  · omega
                · rw [show X.heap[w3.heap.size + 1]? = _ from h2] at ho
                  cases ho
                  exact ⟨_, _, _, rfl, by decide⟩)
              have GROW := Lib.hid grow
              have nb : ∀ k, k < W6.heap.size → k ≠ w3.heap.size + 1 → (X.setCell ⟨w3.heap.size + 1, 0, none⟩ (.int .i64 ((pre.length : Int) + 1))).heap[k]? = W6.heap[k]? := fun k hk hn => (Below.heap_setCell X ⟨w3.heap.size + 1, 0, none⟩ _ k hn).trans (h5 k hk hn)
              have NB := Lib.hid nb
              have cn2 := (X10.out.set 0 (.int .i64 ((pre.length : Int) + 1))).cell 0 _ rfl
              have cNn : (X.setCell ⟨w3.heap.size + 1, 0, none⟩ (.int .i64 ((pre.length : Int) + 1))).cell? ⟨w.heap.size, 0, none⟩ = some (.int .i64 (q : Int)) := Box.cell (show Box _ w.heap.size #[.int .i64 (q : Int)] 3 from (nb _ (by omega) (by omega)).trans BN6.out) 0 _ rfl
              have bx : Below w3.heap.size W6 (X.setCell ⟨w3.heap.size + 1, 0, none⟩ (.int .i64 ((pre.length : Int) + 1))) := h3.setCell (p := ⟨w3.heap.size + 1, 0, none⟩) (by first | omega | (simp only; omega)) _
              have BX2 := Lib.hid bx
              clear h0 h1 h2 h3 h4 h5 out6 grow hz0 hz5 hz6 hg3 HST hka hy nxt bad nb bx X6 XN X9
              by_cases hk : yk.toList = xk.toList
              · have q1 : (yk.toList == xk.toList) = true := by rw [beq_iff_eq]; exact hk
                by_cases hv : yv = xv
                · have q2 : (yv != xv) = false := by simp [hv]
                  have q3 : (yv == xv) = true := by simp [hv]
                  have HK := Lib.hid ((bytes_eqK _ _).1 hk)
                  have HV := Lib.hid hv
                  have HPX := Lib.hid (show ∃ r, ks = (pre ++ [(xk, xv)]) ++ r from by
                    obtain ⟨r, hr⟩ := P0.out
                    obtain ⟨r', hr'⟩ := NX.out r hr
                    exact ⟨r', by rw [hr, hr', HK.out, HV.out, List.append_assoc]; rfl⟩)
                  clear hk hv
                  have hb := Lib.hid (X10.out.set 0 (.int .i64 ((pre.length : Int) + 1)))
                  by_cases hpq : pre.length + 1 = q
                  · have q4 : ((pre.length : Int) + 1 == (q : Int)) = true := by rw [beq_iff_eq]; omega
                    have q5 : (pre.length + 1 == q) = true := by rw [beq_iff_eq]; exact hpq
                    have HPQ := Lib.hid hpq
                    clear hpq hqq
                    gi_wp2_with fail
                    exact ⟨trivial, GROW.out, .inr ⟨rfl, by rw [List.length_append, List.length_singleton]; exact HPQ.out, by rw [List.length_append, List.length_singleton]; exact hb.out, BX2.out, Nat.le_trans SX.out (by simp [World.setCell]), NB.out⟩⟩
                  · have q4 : ((pre.length : Int) + 1 == (q : Int)) = false := by rw [beq_eq_false_iff_ne]; omega
                    have q5 : (pre.length + 1 == q) = false := by rw [beq_eq_false_iff_ne]; exact hpq
                    have HPQ := Lib.hid (show pre.length + 1 < q from by have := PQ.out; omega)
                    clear hpq hqq
                    gi_wp2_with fail
                    exact ⟨GROW.out, HPX.out, by rw [List.length_append, List.length_singleton]; exact HPQ.out, by rw [List.length_append, List.length_singleton]; exact hb.out, BX2.out, Nat.le_trans SX.out (by simp [World.setCell]), NB.out⟩
                · have q2 : (yv != xv) = true := by simp [hv]
                  have q3 : (yv == xv) = false := by simp [hv]
                  have BD := Lib.hid (BAD.out fun h => hv h.2)
                  clear hk hv cn2 cNn
                  gi_wp2_with fail
                  exact ⟨trivial, OUT.out, .inl ⟨rfl, BD.out⟩⟩
              · have q1 : (yk.toList == xk.toList) = false := by rw [beq_eq_false_iff_ne]; exact hk
                have BD := Lib.hid (BAD.out fun h => hk (by rw [h.1]))
                clear hk cn2 cNn
                gi_wp2_with fail
                exact ⟨trivial, OUT.out, .inl ⟨rfl, BD.out⟩⟩
            · have zn : decide ((fs.length : Int) ≤ (pre.length : Int)) = true := by simp; omega
              have znn : decide (fs.length ≤ pre.length) = true := by simp; omega
              have BD := Lib.hid (show ¬ ∃ r, ks = (pre ++ [(xk, xv)]) ++ r from fun ⟨r, hr⟩ => by
                have h8 := KLE.out
                rw [hr, List.length_append, List.length_append, List.length_singleton] at h8
                omega)
              clear h0 h1 h2 h3 h4 h5 out6 hz0 hz5 hz6 hg3 HST hn X6 XN X9
              gi_wp2_with fail
              exact ⟨trivial, OUT.out, .inl ⟨rfl, BD.out⟩⟩
          case done =>
            rintro D xs X hD rfl ⟨h0, h1, h2, h3, h4, h5⟩ hK
            have hkl := KLE.out
            rw [hkl] at h1 h2
            have q4 : ((fs.length : Int) == (q : Int)) = false := by rw [beq_eq_false_iff_ne]; omega
            have q5 : (fs.length == q) = false := by rw [beq_eq_false_iff_ne]; omega
            have X6 : Box X (w.heap.size + 1) #[.bool false] 4 := (h5 _ (by omega) (by omega)).trans BR6.out
            have XN : Box X w.heap.size #[.int .i64 (q : Int)] 3 := (h5 _ (by omega) (by omega)).trans BN6.out
            have X9 : Box X w3.heap.size #[.slice A3 fs.length c3] 25 := (h5 _ (by omega) (by omega)).trans BF6.out
            have c10 := h2.cell 0 _ rfl
            have c9 := X9.cell 0 _ rfl
            have cN := XN.cell 0 _ rfl
            have SX := Lib.hid (K.out.ops.stay S6.out fun i o hi ho hp => (h5 i (Array.getElem?_eq_some_iff.1 ho).1 (TY6.out i o ho hp)).trans ho)
            have GX := Lib.hid (G6.out.trans (h3.mono (by omega)))
            have HK := Lib.hid hK
            have HD := Lib.hid (show w.heap.size + 1 < D from by omega)
            have LNX := Lib.hid (LN.out X SX.out (by omega))
            have R6 := Lib.hid X6
            have y1 : ((r.length : Int) == (r.length : Int)) = true := by simp
            have y2 : (r.length == r.length) = true := by simp
            have y3 : ((fs.length : Int) == (fs.length : Int)) = true := by simp
            have y4 : (fs.length == fs.length) = true := by simp
            have y5 : ((q : Int) == (q : Int)) = true := by simp
            have y6 : (q == q) = true := by simp
            clear h1 h2 h3 h4 h5 hK hz0 hz5 hz6 hg3 hqq HST hD X6 XN X9
            gi_wp2_with fail
            refine ⟨trivial, (callsIn_wide.2 LNX.out).mono ?_⟩
            rintro z w7 ⟨rfl, hb7⟩
            have R6 := Lib.hid (R6.out.later hb7)
            have GX := Lib.hid (GX.out.trans (hb7.mono GX.out.size))
            have HK := Lib.hid ((hb7.block D (Array.getElem?_eq_some_iff.1 HK.out).1).trans HK.out)
            clear hb7 c10 c9 cN
            gi_wp2_with fail
            refine ⟨trivial, (callsIn_wide.2 (LV.out _)).mono ?_⟩
            rintro z w8 ⟨rfl, hb8⟩
            have R6 := Lib.hid (R6.out.later hb8)
            have GX := Lib.hid (GX.out.trans (hb8.mono GX.out.size))
            have HK := Lib.hid ((hb8.block D (Array.getElem?_eq_some_iff.1 HK.out).1).trans HK.out)
            clear hb8
            have c6 := R6.out.cell 0 _ rfl
            have f6 := R6.out.frozen 0
            gi_wp2_with fail
            have X7 := R6.out.set 0 (.bool true)
            have hD9 : (w8.setCell ⟨w.heap.size + 1, 0, none⟩ (.bool true)).heap[D]? = some (.deferred (some [])) := (Below.heap_setCell w8 ⟨w.heap.size + 1, 0, none⟩ _ D (by have := HD.out; first | omega | (simp only; omega))).trans HK.out
            have G9 := GX.out.setCell (p := ⟨w.heap.size + 1, 0, none⟩) (Nat.le_succ _) (.bool true)
            clear c6 f6
            generalize w8.setCell ⟨w.heap.size + 1, 0, none⟩ (.bool true) = W9 at *
            refine ⟨by simp, .inl ⟨_, _, rfl, run_takeDeferred hD9, ?_⟩⟩
            have q3 := X7.keep (grownBy_putObj' W9 D (.deferred none)) (by have := HD.out; simp; omega)
            have r0 := q3.cell 0 _ rfl
            refine ⟨_, (by rw [results_cell1 rfl]; go_simp), rfl, G9.trans (belowK_b (w := w) (Nat.le_refl _) W9 D _ _ (by have := HD.out; omega) hD9 rfl rfl)⟩
          case stop =>
            rintro D c pre X hD ⟨-, hpre⟩ (⟨rfl, hbad⟩ | ⟨rfl, h1, h2, h3, h4, h5⟩) hK
            · exact absurd hpre hbad
            · rw [h1] at h2
              have X6 : Box X (w.heap.size + 1) #[.bool false] 4 := (h5 _ (by omega) (by omega)).trans BR6.out
              have XN : Box X w.heap.size #[.int .i64 (q : Int)] 3 := (h5 _ (by omega) (by omega)).trans BN6.out
              have X9 : Box X w3.heap.size #[.slice A3 fs.length c3] 25 := (h5 _ (by omega) (by omega)).trans BF6.out
              have c10 := h2.cell 0 _ rfl
              have c9 := X9.cell 0 _ rfl
              have cN := XN.cell 0 _ rfl
              have SX := Lib.hid (K.out.ops.stay S6.out fun i o hi ho hp => (h5 i (Array.getElem?_eq_some_iff.1 ho).1 (TY6.out i o ho hp)).trans ho)
              have GX := Lib.hid (G6.out.trans (h3.mono (by omega)))
              have HK := Lib.hid hK
              have HD := Lib.hid (show w.heap.size + 1 < D from by omega)
              have LNX := Lib.hid (LN.out X SX.out (by omega))
              have R6 := Lib.hid X6
              have y1 : ((r.length : Int) == (r.length : Int)) = true := by simp
              have y2 : (r.length == r.length) = true := by simp
              have y3 : ((fs.length : Int) == (fs.length : Int)) = true := by simp
              have y4 : (fs.length == fs.length) = true := by simp
              have y5 : ((q : Int) == (q : Int)) = true := by simp
              have y6 : (q == q) = true := by simp
              clear h1 h2 h3 h4 h5 hK hz0 hz5 hz6 hg3 hqq HST hD X6 XN X9
              gi_wp2_with fail
              refine ⟨trivial, (callsIn_wide.2 LNX.out).mono ?_⟩
              rintro z w7 ⟨rfl, hb7⟩
              have R6 := Lib.hid (R6.out.later hb7)
              have GX := Lib.hid (GX.out.trans (hb7.mono GX.out.size))
              have HK := Lib.hid ((hb7.block D (Array.getElem?_eq_some_iff.1 HK.out).1).trans HK.out)
              clear hb7 c10 c9 cN
              gi_wp2_with fail
              refine ⟨trivial, (callsIn_wide.2 (LV.out _)).mono ?_⟩
              rintro z w8 ⟨rfl, hb8⟩
              have R6 := Lib.hid (R6.out.later hb8)
              have GX := Lib.hid (GX.out.trans (hb8.mono GX.out.size))
              have HK := Lib.hid ((hb8.block D (Array.getElem?_eq_some_iff.1 HK.out).1).trans HK.out)
              clear hb8
              have c6 := R6.out.cell 0 _ rfl
              have f6 := R6.out.frozen 0
              gi_wp2_with fail
              have X7 := R6.out.set 0 (.bool true)
              have hD9 : (w8.setCell ⟨w.heap.size + 1, 0, none⟩ (.bool true)).heap[D]? = some (.deferred (some [])) := (Below.heap_setCell w8 ⟨w.heap.size + 1, 0, none⟩ _ D (by have := HD.out; first | omega | (simp only; omega))).trans HK.out
              have G9 := GX.out.setCell (p := ⟨w.heap.size + 1, 0, none⟩) (Nat.le_succ _) (.bool true)
              clear c6 f6
              generalize w8.setCell ⟨w.heap.size + 1, 0, none⟩ (.bool true) = W9 at *
              refine ⟨by simp, .inl ⟨_, _, rfl, run_takeDeferred hD9, ?_⟩⟩
              have q3 := X7.keep (grownBy_putObj' W9 D (.deferred none)) (by have := HD.out; simp; omega)
              have r0 := q3.cell 0 _ rfl
              refine ⟨_, (by rw [results_cell1 rfl]; go_simp), rfl, G9.trans (belowK_b (w := w) (Nat.le_refl _) W9 D _ _ (by have := HD.out; omega) hD9 rfl rfl)⟩
        · have zn : decide (n < 0) = false := by rw [decide_eq_false_iff_not]; omega
          have htm : Int.tmod n 10 = (m : Int) := by rw [hp]; exact hq2
          have hmd : n % 10 = (m : Int) := by rw [hp]; exact hq1
          clear hneg hp
          gi_wp2_with fail
          refine ⟨trivial, (callsIn_wide.2 (law_fewK _ _)).mono ?_⟩
          rintro z w5 ⟨rfl, rfl⟩
          gi_wp2_with fail
          rw [HW4.out]
          have hsz : (W4.setCell ⟨w.heap.size, 0, none⟩ (.int .i64 (q : Int))).heap.size = W4.heap.size := by simp [World.setCell]
          obtain ⟨W5, hW5⟩ : ∃ W5, (W4.setCell ⟨w.heap.size, 0, none⟩ (.int .i64 (q : Int))).alloc (.cells #[.int .i64 0] 3) = W5 := ⟨_, rfl⟩
          have hkeep : ∀ i, i ≠ w.heap.size → i < W4.heap.size → W5.heap[i]? = W4.heap[i]? := fun i hi hl => by
            rw [← hW5, Below.heap_alloc _ _ i (by rw [hsz]; exact hl)]
            exact Below.heap_setCell _ ⟨w.heap.size, 0, none⟩ _ i (by first | omega | (simp only; omega))
          have BN5 := Lib.hid (show Box W5 w.heap.size #[.int .i64 (q : Int)] 3 from by rw [← hW5]; exact (BN.out.set 0 (.int .i64 (q : Int))).alloc _)
          have BA5 := Lib.hid (show Box W5 (w3.heap.size + 1) #[.int .i64 0] 3 from by rw [← hW5]; exact Box.new _ _ _ _ (by rw [hsz, Z4.out]))
          have Z5 := Lib.hid (show W5.heap.size = w3.heap.size + 2 from by rw [← hW5, World.size_alloc, hsz, Z4.out])
          have GW4 : Below w.heap.size w W4 := G0.out.trans (G.out.mono (by omega))
          have G5 := Lib.hid (show Below w.heap.size w W5 from by rw [← hW5]; exact (GW4.setCell (p := ⟨w.heap.size, 0, none⟩) (Nat.le_refl _) (.int .i64 (q : Int))).alloc (by rw [hsz]; have := G.out.size; omega) _)
          clear GW4
          try rw [World.size_alloc] at hW5
          rw [hW5]
          clear hW5 hsz zn htm hmd
          refine ⟨trivial, (callsIn_wide.2 (FI.out W5 (K.out.ops.stay S.out fun i o hi ho _ => (hkeep i (by omega) (Array.getElem?_eq_some_iff.1 ho).1).trans ho) (by have := Z5.out; omega))).mono ?_⟩
          rintro z W6 ⟨gf, lb, rfl, eg, hb6, hT⟩
          have TL := Lib.hid (hT True w.heap.size (by have := hb6.size; have := Z5.out; omega))
          have S6 := Lib.hid (K.out.ops.on (K.out.ops.stay S.out fun i o hi ho _ => (hkeep i (by omega) (Array.getElem?_eq_some_iff.1 ho).1).trans ho) hb6)
          have BN6 := Lib.hid (BN5.out.later hb6)
          have BA6 := Lib.hid (BA5.out.later hb6)
          have BF6 := Lib.hid (Box.later (show Box W5 w3.heap.size _ _ from (hkeep _ hne BF.out.lt).trans BF.out) hb6)
          have BR6 := Lib.hid (Box.later (show Box W5 (w.heap.size + 1) _ _ from (hkeep _ (by omega) BR.out.lt).trans BR.out) hb6)
          have FR6 := Lib.hid ((RdX.notBox FR.out BN.out (fun i hi hl => hkeep i hi (by have := Z4.out; omega))).below (hb6.mono (by have := Z5.out; omega)))
          have TYA := Lib.hid (fun i o (h : W5.heap[i]? = some o) (hp : P o = true) => typed_ne BA5.out (K.out.ops.num _) h hp)
          have TYR := Lib.hid (fun i o (h : W5.heap[i]? = some o) (hp : P o = true) => typed_ne (show Box W5 (w.heap.size + 1) _ _ from (hkeep _ (by omega) BR.out.lt).trans BR.out) (K.out.ops.bol _) h hp)
          have TY6 := Lib.hid (fun i o (h : W6.heap[i]? = some o) (hp : P o = true) => typed_ne BA6.out (K.out.ops.num _) h hp)
          have G6 := Lib.hid (G5.out.trans (hb6.mono G5.out.size))
          have Z6 := Lib.hid hb6.size
          have EG := Lib.hid eg
          have hqf := fun (W : World) => run_eql_func_nil (P := Try.prog) W Try.underlying43 ⟨_, _, _, rfl⟩ (.func gf) #[] lb
          have HNE := Lib.hid hne
          clear hb6 hT eg hkeep BN5 BA5 BF BR FR BN O G5 S G HW4 cn fn hne hne2 z0 g3
          gi_wp2_with fail
          clear hqf
          obtain ⟨ks, hks⟩ : ∃ ks, kvI fs = ks := ⟨_, rfl⟩
          rw [hks] at TL
          have KLE := Lib.hid (show ks.length = fs.length from by rw [← hks, kvI, List.length_map])
          have KAT := Lib.hid (show ∀ (n : Nat) (h : n < fs.length) (h2 : n < ks.length), ks[n] = (fs[n].key, fs[n].v) from fun n h h2 => by simp only [← hks, kvI, List.getElem_map])
          have hz0 := Z0.out
          have hz5 := Z5.out
          have hz6 := Z6.out
          have hg3 := G3.out
          have hqq := HQ.out
          have HST : w.heap.size ≤ W6.heap.size := by omega
          refine wpIn_rangeTell2 (P := Try.prog) (Z := True) (T := TI) (Kp := KpF P W0.heap.size W5 W6) (n₀ := w.heap.size) (gf := gf) (lb := lb) rfl EG.out TL.out HST (fun k h => by
              rcases h with ⟨h1, o, h2, -⟩ | ⟨h1, h2⟩
              · have := (Array.getElem?_eq_some_iff.1 h2).1; omega
              · exact h2) (Below.refl _ _) (fun _ => rfl)
            (fun pre X => (∃ r, ks = pre ++ r) ∧ pre.length < q ∧ Box X (w3.heap.size + 1) #[.int .i64 (pre.length : Int)] 3 ∧ Below w3.heap.size W6 X ∧ W6.heap.size ≤ X.heap.size ∧ (∀ k, k < W6.heap.size → k ≠ w3.heap.size + 1 → X.heap[k]? = W6.heap[k]?))
            (fun c pre X => (c = .ret ∧ ¬ ∃ r, ks = pre ++ r) ∨ (c = .exit 2 ∧ pre.length = q ∧ Box X (w3.heap.size + 1) #[.int .i64 (pre.length : Int)] 3 ∧ Below w3.heap.size W6 X ∧ W6.heap.size ≤ X.heap.size ∧ (∀ k, k < W6.heap.size → k ≠ w3.heap.size + 1 → X.heap[k]? = W6.heap[k]?)))
            (fun s X Y hs htw => by
              obtain ⟨h0, h1, h2, h3, h4, h5⟩ := hs
              exact ⟨h0, h1, (htw.low _ (by omega) (by omega)).trans h2, h3.trans (htw.below (by omega) (by omega)), Nat.le_trans h4 htw.size, fun k hk hn => (htw.low k (by omega) hk).trans (h5 k hk hn)⟩)
            (fun c s X Y hs htw => by
              rcases hs with hs | ⟨h0, h1, h2, h3, h4, h5⟩
              · exact .inl hs
              · exact .inr ⟨h0, h1, (htw.low _ (by omega) (by omega)).trans h2, h3.trans (htw.below (by omega) (by omega)), Nat.le_trans h4 htw.size, fun k hk hn => (htw.low k (by omega) hk).trans (h5 k hk hn)⟩)
            ⟨⟨ks, rfl⟩, (by simp only [List.length_nil]; omega), BA6.out, Below.refl _ _, Nat.le_refl _, fun k _ _ => rfl⟩
            (fun x a' X => a' = { tmps := #[.slice A l.length ca, .string key, .int .i64 n, undef, undef, .pointer (some ⟨w.heap.size, 0, none⟩), .pointer (some ⟨w.heap.size + 1, 0, none⟩), .pointer (some ⟨gp, 0, none⟩), .slice A2 r.length c2, .int .i64 (k : Int), .pointer (some ⟨w3.heap.size, 0, none⟩), .pointer (some ⟨w3.heap.size + 1, 0, none⟩), .func (.func gf) #[] lb, .string x.1, .int .i64 x.2, .pointer (some ⟨gp, 0, none⟩), .pointer (some ⟨gp, 0, none⟩), .bool false, .int .i64 (k : Int), .slice A l.length ca, .int .i64 (l.length : Int), .bool false, .bool false, undef, undef, .bool false, u26, u27, u28, u29, u30, u31, u32, u33, u34, u35, u36, u37, .slice A2 r.length c2, .string key, .string (fewK key), .slice A3 fs.length c3, .int .i64 n, .bool false, undef, undef, undef, .int .i64 n, .int .i64 (m : Int), .int .i64 (q : Int), .pointer (some ⟨gp, 0, none⟩), .string key, .string (fewK key), .func (.func gf) #[] lb, .func (.func gf) #[] lb, .bool false, .func (.func gf) #[] lb, .string x.1, .int .i64 x.2, undef, undef, undef, undef, undef, undef, undef, undef, undef, undef, undef, undef, undef, undef, undef, undef, undef, undef, undef, undef, undef, undef, undef, undef, undef, undef, undef, undef, undef, undef, undef, undef, undef, undef, undef, undef, undef, undef, undef, undef, undef, undef, undef, undef, undef, undef], defers := [] })
            (fun x a' _ X Y hs htw => hs)
            ?assign ?body ?done ?stop
          case assign =>
            rintro l2 pre x X K' hlt hI hK
            obtain ⟨xk, xv⟩ := x
            have HI := Lib.hid hI
            unfold encKV
            clear hz0 hz5 hz6 hg3 hqq HST hI
            gi_wp2_with fail
            exact hK _ _ (Kr.refl _ _ _ _ X) HI.out rfl
          case body =>
            rintro l2 pre x a' X hX ⟨h0, h1, h2, h3, h4, h5⟩ rfl hlen
            obtain ⟨xk, xv⟩ := x
            have X6 : Box X (w.heap.size + 1) #[.bool false] 4 := (h5 _ (by omega) (by omega)).trans BR6.out
            have XN : Box X w.heap.size #[.int .i64 (q : Int)] 3 := (h5 _ (by omega) (by omega)).trans BN6.out
            have X9 : Box X w3.heap.size #[.slice A3 fs.length c3] 25 := (h5 _ (by omega) (by omega)).trans BF6.out
            have c10 := h2.cell 0 _ rfl
            have f10 := h2.frozen 0
            have c9 := X9.cell 0 _ rfl
            have cN := XN.cell 0 _ rfl
            have f6 := X6.frozen 0
            have c6 := X6.cell 0 _ rfl
            have P0 := Lib.hid h0
            have X10 := Lib.hid h2
            have BX := Lib.hid h3
            have SX := Lib.hid h4
            have KX := Lib.hid h5
            have PQ := Lib.hid h1
            have RX := Lib.hid (FR6.out.below h3)
            have out6 : Kr TI (KpF P W0.heap.size W5 W6) w.heap.size W6.heap.size X (X.setCell ⟨w.heap.size + 1, 0, none⟩ (.bool false)) := Kr.of_grown (grownBy_setCell' X _ _) (by omega) (fun j hj => by
              cases hj
              refine ⟨by first | omega | (simp only; omega), fun hk => ?_, fun o ho => ?_⟩
              · rcases hk with ⟨-, o, hk2, hk3⟩ | ⟨hk1, -⟩
                · exact TYR.out _ o hk2 hk3 rfl
                · omega
              · rw [show X.heap[w.heap.size + 1]? = _ from X6] at ho
                cases ho
                exact ⟨_, _, _, rfl, by decide⟩)
            have OUT := Lib.hid out6
            by_cases hn : pre.length < fs.length
            · have zn : decide ((fs.length : Int) ≤ (pre.length : Int)) = false := by rw [decide_eq_false_iff_not]; omega
              have znn : decide (fs.length ≤ pre.length) = false := by rw [decide_eq_false_iff_not]; omega
              have hni : (pre.length : Int) < (fs.length : Int) := by omega
              have hw64 : IntKind.i64.wrap ((pre.length : Int) + 1) = (pre.length : Int) + 1 := by rw [IntKind.wrap_i64]; have := HFL.out; omega
              have hn2 : pre.length < ks.length := by rw [KLE.out]; exact hn
              have hka := KAT.out pre.length hn hn2
              obtain ⟨y, hy⟩ : ∃ y, fs[pre.length] = y := ⟨_, rfl⟩
              rw [hy] at hka
              obtain ⟨yk, yl, yv⟩ := y
              obtain ⟨bb, oo, rfl, -, e0, e1, e2⟩ := RdX.it RX.out pre.length hn hy
              have nxt : ∀ r, ks = pre ++ r → ∃ r', r = (yk, yv) :: r' := fun r hr => by
                have h9 : ks[pre.length]? = r[0]? := by rw [hr, List.getElem?_append_right (Nat.le_refl _), Nat.sub_self]
                rw [List.getElem?_eq_getElem hn2, hka] at h9
                cases r with
                | nil => simp at h9
                | cons z r' => simp at h9; exact ⟨r', by rw [← h9]⟩
              have NX := Lib.hid nxt
              have bad : ¬ (yk = xk ∧ yv = xv) → ¬ ∃ r, ks = (pre ++ [(xk, xv)]) ++ r := fun hne ⟨r, hr⟩ => by
                rw [List.append_assoc] at hr
                obtain ⟨r', hr'⟩ := nxt _ hr
                simp only [List.singleton_append, List.cons.injEq, Prod.mk.injEq] at hr'
                exact hne ⟨hr'.1.1.symm, hr'.1.2.symm⟩
              have BAD := Lib.hid bad
              have grow : Kr TI (KpF P W0.heap.size W5 W6) w.heap.size W6.heap.size X (X.setCell ⟨w3.heap.size + 1, 0, none⟩ (.int .i64 ((pre.length : Int) + 1))) := Kr.of_grown (grownBy_setCell' X _ _) (by omega) (fun j hj => by
                cases hj
                refine ⟨by first | omega | (simp only; omega), fun hk => ?_, fun o ho => ?_⟩
                · rcases hk with ⟨-, o, hk2, hk3⟩ | ⟨hk1, -⟩
                  · exact TYA.out _ o hk2 hk3 rfl
                  · omega
                · rw [show X.heap[w3.heap.size + 1]? = _ from h2] at ho
                  cases ho
                  exact ⟨_, _, _, rfl, by decide⟩)
              have GROW := Lib.hid grow
              have nb : ∀ k, k < W6.heap.size → k ≠ w3.heap.size + 1 → (X.setCell ⟨w3.heap.size + 1, 0, none⟩ (.int .i64 ((pre.length : Int) + 1))).heap[k]? = W6.heap[k]? := fun k hk hn => (Below.heap_setCell X ⟨w3.heap.size + 1, 0, none⟩ _ k hn).trans (h5 k hk hn)
              have NB := Lib.hid nb
              have cn2 := (X10.out.set 0 (.int .i64 ((pre.length : Int) + 1))).cell 0 _ rfl
              have cNn : (X.setCell ⟨w3.heap.size + 1, 0, none⟩ (.int .i64 ((pre.length : Int) + 1))).cell? ⟨w.heap.size, 0, none⟩ = some (.int .i64 (q : Int)) := Box.cell (show Box _ w.heap.size #[.int .i64 (q : Int)] 3 from (nb _ (by omega) (by omega)).trans BN6.out) 0 _ rfl
              have bx : Below w3.heap.size W6 (X.setCell ⟨w3.heap.size + 1, 0, none⟩ (.int .i64 ((pre.length : Int) + 1))) := h3.setCell (p := ⟨w3.heap.size + 1, 0, none⟩) (by first | omega | (simp only; omega)) _
              have BX2 := Lib.hid bx
              clear h0 h1 h2 h3 h4 h5 out6 grow hz0 hz5 hz6 hg3 HST hka hy nxt bad nb bx X6 XN X9
              by_cases hk : yk.toList = xk.toList
              · have q1 : (yk.toList == xk.toList) = true := by rw [beq_iff_eq]; exact hk
                by_cases hv : yv = xv
                · have q2 : (yv != xv) = false := by simp [hv]
                  have q3 : (yv == xv) = true := by simp [hv]
                  have HK := Lib.hid ((bytes_eqK _ _).1 hk)
                  have HV := Lib.hid hv
                  have HPX := Lib.hid (show ∃ r, ks = (pre ++ [(xk, xv)]) ++ r from by
                    obtain ⟨r, hr⟩ := P0.out
                    obtain ⟨r', hr'⟩ := NX.out r hr
                    exact ⟨r', by rw [hr, hr', HK.out, HV.out, List.append_assoc]; rfl⟩)
                  clear hk hv
                  have hb := Lib.hid (X10.out.set 0 (.int .i64 ((pre.length : Int) + 1)))
                  by_cases hpq : pre.length + 1 = q
                  · have q4 : ((pre.length : Int) + 1 == (q : Int)) = true := by rw [beq_iff_eq]; omega
                    have q5 : (pre.length + 1 == q) = true := by rw [beq_iff_eq]; exact hpq
                    have HPQ := Lib.hid hpq
                    clear hpq hqq
                    gi_wp2_with fail
                    exact ⟨trivial, GROW.out, .inr ⟨rfl, by rw [List.length_append, List.length_singleton]; exact HPQ.out, by rw [List.length_append, List.length_singleton]; exact hb.out, BX2.out, Nat.le_trans SX.out (by simp [World.setCell]), NB.out⟩⟩
                  · have q4 : ((pre.length : Int) + 1 == (q : Int)) = false := by rw [beq_eq_false_iff_ne]; omega
                    have q5 : (pre.length + 1 == q) = false := by rw [beq_eq_false_iff_ne]; exact hpq
                    have HPQ := Lib.hid (show pre.length + 1 < q from by have := PQ.out; omega)
                    clear hpq hqq
                    gi_wp2_with fail
                    exact ⟨GROW.out, HPX.out, by rw [List.length_append, List.length_singleton]; exact HPQ.out, by rw [List.length_append, List.length_singleton]; exact hb.out, BX2.out, Nat.le_trans SX.out (by simp [World.setCell]), NB.out⟩
                · have q2 : (yv != xv) = true := by simp [hv]
                  have q3 : (yv == xv) = false := by simp [hv]
                  have BD := Lib.hid (BAD.out fun h => hv h.2)
                  clear hk hv cn2 cNn
                  gi_wp2_with fail
                  exact ⟨trivial, OUT.out, .inl ⟨rfl, BD.out⟩⟩
              · have q1 : (yk.toList == xk.toList) = false := by rw [beq_eq_false_iff_ne]; exact hk
                have BD := Lib.hid (BAD.out fun h => hk (by rw [h.1]))
                clear hk cn2 cNn
                gi_wp2_with fail
                exact ⟨trivial, OUT.out, .inl ⟨rfl, BD.out⟩⟩
            · have zn : decide ((fs.length : Int) ≤ (pre.length : Int)) = true := by simp; omega
              have znn : decide (fs.length ≤ pre.length) = true := by simp; omega
              have BD := Lib.hid (show ¬ ∃ r, ks = (pre ++ [(xk, xv)]) ++ r from fun ⟨r, hr⟩ => by
                have h8 := KLE.out
                rw [hr, List.length_append, List.length_append, List.length_singleton] at h8
                omega)
              clear h0 h1 h2 h3 h4 h5 out6 hz0 hz5 hz6 hg3 HST hn X6 XN X9
              gi_wp2_with fail
              exact ⟨trivial, OUT.out, .inl ⟨rfl, BD.out⟩⟩
          case done =>
            rintro D xs X hD rfl ⟨h0, h1, h2, h3, h4, h5⟩ hK
            have hkl := KLE.out
            rw [hkl] at h1 h2
            have q4 : ((fs.length : Int) == (q : Int)) = false := by rw [beq_eq_false_iff_ne]; omega
            have q5 : (fs.length == q) = false := by rw [beq_eq_false_iff_ne]; omega
            have X6 : Box X (w.heap.size + 1) #[.bool false] 4 := (h5 _ (by omega) (by omega)).trans BR6.out
            have XN : Box X w.heap.size #[.int .i64 (q : Int)] 3 := (h5 _ (by omega) (by omega)).trans BN6.out
            have X9 : Box X w3.heap.size #[.slice A3 fs.length c3] 25 := (h5 _ (by omega) (by omega)).trans BF6.out
            have c10 := h2.cell 0 _ rfl
            have c9 := X9.cell 0 _ rfl
            have cN := XN.cell 0 _ rfl
            have SX := Lib.hid (K.out.ops.stay S6.out fun i o hi ho hp => (h5 i (Array.getElem?_eq_some_iff.1 ho).1 (TY6.out i o ho hp)).trans ho)
            have GX := Lib.hid (G6.out.trans (h3.mono (by omega)))
            have HK := Lib.hid hK
            have HD := Lib.hid (show w.heap.size + 1 < D from by omega)
            have LNX := Lib.hid (LN.out X SX.out (by omega))
            have R6 := Lib.hid X6
            have y1 : ((r.length : Int) == (r.length : Int)) = true := by simp
            have y2 : (r.length == r.length) = true := by simp
            have y3 : ((fs.length : Int) == (fs.length : Int)) = true := by simp
            have y4 : (fs.length == fs.length) = true := by simp
            have y5 : ((q : Int) == (q : Int)) = true := by simp
            have y6 : (q == q) = true := by simp
            clear h1 h2 h3 h4 h5 hK hz0 hz5 hz6 hg3 hqq HST hD X6 XN X9
            gi_wp2_with fail
            refine ⟨trivial, (callsIn_wide.2 LNX.out).mono ?_⟩
            rintro z w7 ⟨rfl, hb7⟩
            have R6 := Lib.hid (R6.out.later hb7)
            have GX := Lib.hid (GX.out.trans (hb7.mono GX.out.size))
            have HK := Lib.hid ((hb7.block D (Array.getElem?_eq_some_iff.1 HK.out).1).trans HK.out)
            clear hb7 c10 c9 cN
            gi_wp2_with fail
            refine ⟨trivial, (callsIn_wide.2 (LV.out _)).mono ?_⟩
            rintro z w8 ⟨rfl, hb8⟩
            have R6 := Lib.hid (R6.out.later hb8)
            have GX := Lib.hid (GX.out.trans (hb8.mono GX.out.size))
            have HK := Lib.hid ((hb8.block D (Array.getElem?_eq_some_iff.1 HK.out).1).trans HK.out)
            clear hb8
            have c6 := R6.out.cell 0 _ rfl
            have f6 := R6.out.frozen 0
            gi_wp2_with fail
            have X7 := R6.out.set 0 (.bool true)
            have hD9 : (w8.setCell ⟨w.heap.size + 1, 0, none⟩ (.bool true)).heap[D]? = some (.deferred (some [])) := (Below.heap_setCell w8 ⟨w.heap.size + 1, 0, none⟩ _ D (by have := HD.out; first | omega | (simp only; omega))).trans HK.out
            have G9 := GX.out.setCell (p := ⟨w.heap.size + 1, 0, none⟩) (Nat.le_succ _) (.bool true)
            clear c6 f6
            generalize w8.setCell ⟨w.heap.size + 1, 0, none⟩ (.bool true) = W9 at *
            refine ⟨by simp, .inl ⟨_, _, rfl, run_takeDeferred hD9, ?_⟩⟩
            have q3 := X7.keep (grownBy_putObj' W9 D (.deferred none)) (by have := HD.out; simp; omega)
            have r0 := q3.cell 0 _ rfl
            refine ⟨_, (by rw [results_cell1 rfl]; go_simp), rfl, G9.trans (belowK_b (w := w) (Nat.le_refl _) W9 D _ _ (by have := HD.out; omega) hD9 rfl rfl)⟩
          case stop =>
            rintro D c pre X hD ⟨-, hpre⟩ (⟨rfl, hbad⟩ | ⟨rfl, h1, h2, h3, h4, h5⟩) hK
            · exact absurd hpre hbad
            · rw [h1] at h2
              have X6 : Box X (w.heap.size + 1) #[.bool false] 4 := (h5 _ (by omega) (by omega)).trans BR6.out
              have XN : Box X w.heap.size #[.int .i64 (q : Int)] 3 := (h5 _ (by omega) (by omega)).trans BN6.out
              have X9 : Box X w3.heap.size #[.slice A3 fs.length c3] 25 := (h5 _ (by omega) (by omega)).trans BF6.out
              have c10 := h2.cell 0 _ rfl
              have c9 := X9.cell 0 _ rfl
              have cN := XN.cell 0 _ rfl
              have SX := Lib.hid (K.out.ops.stay S6.out fun i o hi ho hp => (h5 i (Array.getElem?_eq_some_iff.1 ho).1 (TY6.out i o ho hp)).trans ho)
              have GX := Lib.hid (G6.out.trans (h3.mono (by omega)))
              have HK := Lib.hid hK
              have HD := Lib.hid (show w.heap.size + 1 < D from by omega)
              have LNX := Lib.hid (LN.out X SX.out (by omega))
              have R6 := Lib.hid X6
              have y1 : ((r.length : Int) == (r.length : Int)) = true := by simp
              have y2 : (r.length == r.length) = true := by simp
              have y3 : ((fs.length : Int) == (fs.length : Int)) = true := by simp
              have y4 : (fs.length == fs.length) = true := by simp
              have y5 : ((q : Int) == (q : Int)) = true := by simp
              have y6 : (q == q) = true := by simp
              clear h1 h2 h3 h4 h5 hK hz0 hz5 hz6 hg3 hqq HST hD X6 XN X9
              gi_wp2_with fail
              refine ⟨trivial, (callsIn_wide.2 LNX.out).mono ?_⟩
              rintro z w7 ⟨rfl, hb7⟩
              have R6 := Lib.hid (R6.out.later hb7)
              have GX := Lib.hid (GX.out.trans (hb7.mono GX.out.size))
              have HK := Lib.hid ((hb7.block D (Array.getElem?_eq_some_iff.1 HK.out).1).trans HK.out)
              clear hb7 c10 c9 cN
              gi_wp2_with fail
              refine ⟨trivial, (callsIn_wide.2 (LV.out _)).mono ?_⟩
              rintro z w8 ⟨rfl, hb8⟩
              have R6 := Lib.hid (R6.out.later hb8)
              have GX := Lib.hid (GX.out.trans (hb8.mono GX.out.size))
              have HK := Lib.hid ((hb8.block D (Array.getElem?_eq_some_iff.1 HK.out).1).trans HK.out)
              clear hb8
              have c6 := R6.out.cell 0 _ rfl
              have f6 := R6.out.frozen 0
              gi_wp2_with fail
              have X7 := R6.out.set 0 (.bool true)
              have hD9 : (w8.setCell ⟨w.heap.size + 1, 0, none⟩ (.bool true)).heap[D]? = some (.deferred (some [])) := (Below.heap_setCell w8 ⟨w.heap.size + 1, 0, none⟩ _ D (by have := HD.out; first | omega | (simp only; omega))).trans HK.out
              have G9 := GX.out.setCell (p := ⟨w.heap.size + 1, 0, none⟩) (Nat.le_succ _) (.bool true)
              clear c6 f6
              generalize w8.setCell ⟨w.heap.size + 1, 0, none⟩ (.bool true) = W9 at *
              refine ⟨by simp, .inl ⟨_, _, rfl, run_takeDeferred hD9, ?_⟩⟩
              have q3 := X7.keep (grownBy_putObj' W9 D (.deferred none)) (by have := HD.out; simp; omega)
              have r0 := q3.cell 0 _ rfl
              refine ⟨_, (by rw [results_cell1 rfl]; go_simp), rfl, G9.trans (belowK_b (w := w) (Nat.le_refl _) W9 D _ _ (by have := HD.out; omega) hD9 rfl rfl)⟩
-- END
set_option maxRecDepth 100000 in
theorem lifted (os : Os) (started : os.Started) (H : Type) (enc : TypeId × Value → H) :
    ReturnsInHanded {} Try.checked os 6 .any (Rows.skipEndsSpec.pre6 enc Try.prog Try.f6 Rows.skipEndsRow.domain false) (Rows.skipEndsSpec.post enc Try.prog Try.f6 false true false false) := by
  refine returnsInHanded_of_change (C := Try.checked) Try.own started (by kernel_rfl) Try.func6
    (ChangeSpec.witness6 (enc := enc) (C := Try.checked) false ⟨#[], #[.slice none 0 0, .string ⟨#[]⟩, .int .i64 0], []⟩ 8 (by kernel_rfl) (by kernel_rfl) (by kernel_rfl) (by kernel_rfl)) ?_
  intro W base args ds gs before hval0 hW _ _
  have hval : ∀ (j : Nat) t v, Try.f6.params[j]? = some t → args[j]? = some v → Value.okWide Try.prog W .any base t v := hval0
  have hW' := hW
  obtain ⟨p, q, hA0, hV, rfl, _, _⟩ := hW
  have hA : DataW.TrodAll enc Try.prog W 0 (fun _ => true) true Try.f6.params.toList args.toList ds p := hA0
  rw [Try.params6] at hA hval
  obtain ⟨v0, v1, v2, d0, d1, d2, p0, p1, p2, rfl, rfl, rfl, h0, h1, h2⟩ := trodAll_three hA
  obtain ⟨rfl, rfl⟩ := trodVars_none hV
  have hlt := fun x hx => hW'.lt x hx
  obtain ⟨a0, r0, b0⟩ := open_dks (hval 0 _ v0 rfl rfl) h0 (fun x hx => by simpa using hlt x (by simp [hx]))
  obtain ⟨a1, rfl, rfl, rfl, w1⟩ := ChangeMaps.open_string Try.underlying9 (hval 1 _ v1 rfl rfl) h1
  simp only [maxLen] at w1
  obtain ⟨a2, rfl, rfl, rfl, w2⟩ := open_int Try.underlying3 (hval 2 _ v2 rfl rfl) h2
  have w2 := wf_int w2
  refine (walk0 skip_f.one v0 a0 a1 a2 _ r0 b0 w2).mono fun e W' ⟨he, hb⟩ => ⟨_, he, ?_⟩
  exact law_post Try.laidOut (by decide +kernel) rfl Try.underlying4 rfl hW' rfl hb

theorem holds : Rows.SkipEndsSaid :=
  OpenClaim.holds_of_wide 6 Try.f6 rfl rfl rfl rfl rfl rfl rfl ⟨rfl, rfl, rfl, rfl, rfl⟩ rfl rfl rfl rfl rfl (by kernel_rfl) Try.func6 (by kernel_rfl)
    (of_decide_eq_true (by kernel_rfl)) (by unfold Func.isWrapper; first | (rw [if_pos (by decide +kernel)]; kernel_rfl) | (rw [if_neg (by decide +kernel)]; exact ⟨rfl, rfl⟩))
    (fun os started H enc _ => lifted os started H enc)
end Go.Proofs.Ytlihiojdjcmggaa.L04
