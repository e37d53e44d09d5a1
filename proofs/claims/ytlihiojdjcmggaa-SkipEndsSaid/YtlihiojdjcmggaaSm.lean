/- Layer 12: what the law asks of both lists. -/
import Derived.Test.YtlihiojdjcmggaaSk
import Derived.ChangeMaps5
import Derived.TacticsInMore
import Derived.OwnWalkIn
import Derived.LoopNIn
import Derived.LoopIn
import Derived.Shelf.Abstract
import Derived.Sort.QuietIn
namespace Go.Proofs.Ytlihiojdjcmggaa
open Go.RowKit Go.Shelf
set_option linter.unusedVariables false
attribute [local go_sem] Oper.semAt_some

/-- A function is not nil. -/
theorem run_eql_func_nil {P : Program} (w : World) {t : TypeId} {d : TypeDesc} (ht : P.underlying t = some d) (hd : ∃ a b c, d = .func a b c) (f : Fn) (a b : Array Value) :
    (binOp .eql t (.func f a b) .nilFunc).run P w = .ok (.bool false) w := by
  obtain ⟨p, q, r, rfl⟩ := hd
  have h : ∀ d : Nat, (Op.equalIn (d + 1) t (.func f a b) .nilFunc).run P w = .ok false w := fun d => by
    simp [Op.equalIn, run_underlying ht]
  simp only [binOp]
  simp [Op.equal, Op.maxDepth, h 9999]
theorem same_selfK (a : List ByteArray) : sameT a a = true := by
  induction a with
  | nil => rfl
  | cons x r ih => rw [sameT, ih]; simp
/-- What stands in a typed block is no other one. -/
theorem typed_ne {P : Obj → Bool} {X : World} {n k : Nat} {cs : Array Value} {t : TypeId} {o : Obj} (hb : Box X n cs t) (hp : P (.cells cs t (0, 0)) = false) (hk : X.heap[k]? = some o) (ho : P o = true) : k ≠ n := fun e => by
  subst e
  rw [show X.heap[k]? = _ from hb] at hk
  cases hk
  rw [hp] at ho
  cases ho
set_option maxHeartbeats 8000000 in
set_option maxRecDepth 100000 in
theorem law_likeK {Sk : Nat → World → Nat → Value → List It → Prop} {P : Obj → Bool} (K : SkOps Sk P) {n : Nat} (w : World) (B : Nat) (p va : Value) (l : List It) (key : ByteArray) (hs : Sk n w B p l) (ho : RdX itL w w.heap.size va l) (hB : B ≤ w.heap.size) (hl : l.length ≤ 1000) (hkey : key.size ≤ 1000) :
    Calls Try.prog 11 #[p, va, .string key] w fun z w' => z = .returned (.bool true) ∧ Below w.heap.size w w' := by
  obtain ⟨W0, hW0⟩ : ∃ W0, w.alloc (.cells #[.bool false] 4) = W0 := ⟨_, rfl⟩
  have B6 := Lib.hid (show Box W0 w.heap.size #[.bool false] 4 from by rw [← hW0]; exact Box.new w _ _ _ rfl)
  have hb0 : Below w.heap.size w W0 := by rw [← hW0]; exact alloc_below _ _
  have S := Lib.hid (show Sk n W0 B p l from K.on hs hb0)
  have R := Lib.hid (show RdX itL W0 w.heap.size va l from ho.below hb0)
  have G := Lib.hid hb0
  have HB := Lib.hid hB
  have K := Lib.hid K
  have HL := Lib.hid hl
  have HLL := Lib.hid (show l.length ≤ 100000 from by omega)
  have HKY := Lib.hid hkey
  obtain ⟨gp, ep⟩ := K.out.ptr hs
  subst ep
  obtain ⟨A, ca, rfl, -⟩ := id ho
  have hnum : ∀ n : Nat, n ≤ 100 → inK (n : Int) := fun n hn => ⟨by omega, by omega⟩
  have NUM := Lib.hid hnum
  have RN := Lib.hid (fun n : Nat => show (rowI l n).length ≤ 1000 from Nat.le_trans (by unfold rowI; rw [List.length_map]; exact List.length_filter_le _ _) hl)
  have R0 := Lib.hid ho
  clear hs ho hB hl hkey hb0 hnum
  refine (callsIn_wide (n := 4)).1 ?_
  refine callsIn_of_wp_marks Try.func11 rfl trivial ?_ rfl
  simp only [Try.ntmps11, List.size_toArray, List.length_cons, List.length_nil, Nat.reduceAdd, Nat.reduceSub, Array.replicate_succ, Array.replicate_zero, List.push_toArray, List.append_toArray, List.nil_append, List.cons_append]
  have y1 : ∀ a : Int, (a != a) = false := fun a => by simp
  gi_wp2_with fail
  clear hW0
  refine ⟨trivial, (callsIn_wide.2 (K.out.len _ B _ l S.out (Nat.le_trans HB.out G.out.size) HL.out)).mono ?_⟩
  rintro z w1 ⟨rfl, hb1⟩
  have S := Lib.hid (K.out.on S.out hb1)
  have R := Lib.hid (R.out.below (hb1.mono G.out.size))
  have B6 := Lib.hid (B6.out.later hb1)
  have G := Lib.hid (G.out.trans (hb1.mono G.out.size))
  clear hb1
  gi_wp2_with fail
  refine ⟨trivial, (callsIn_wide.2 (K.out.height _ B _ l S.out (Nat.le_trans HB.out G.out.size) HL.out)).mono ?_⟩
  rintro z w2 ⟨rfl, hb2⟩
  have S := Lib.hid (K.out.on S.out hb2)
  have R := Lib.hid (R.out.below (hb2.mono G.out.size))
  have B6 := Lib.hid (B6.out.later hb2)
  have G := Lib.hid (G.out.trans (hb2.mono G.out.size))
  clear hb2
  gi_wp2_with fail
  refine ⟨trivial, (callsIn_wide.2 (ref_height _ l _ (R.out.more G.out.size) HLL.out)).mono ?_⟩
  rintro z w3 ⟨rfl, rfl⟩
  gi_wp2_with fail
  gi_loopw [7] (fun i wr => ∃ k : Nat, i = .int .i64 k ∧ k ≤ 10 ∧ Sk n wr B (.pointer (some ⟨gp, 0, none⟩)) l ∧ Box wr w.heap.size #[.bool false] 4 ∧ Below w.heap.size w wr) (fun i _ => 10 - (intOf i).toNat)
  case atStart => exact ⟨0, rfl, by omega, S.out, B6.out, G.out⟩
  case round =>
    obtain ⟨k, rfl, hk, hs, hbx, hbw⟩ := hrel
    rename World => wo
    have R := Lib.hid (R0.out.below hbw)
    have S := Lib.hid hs
    have B6 := Lib.hid hbx
    have G := Lib.hid hbw
    clear hs hbx hbw
    by_cases hlt : k < 10
    · have zl : decide ((k : Int) ≤ 9) = true := by simp; omega
      have hw64 : IntKind.i64.wrap ((k : Int) + 1) = (k : Int) + 1 := by rw [IntKind.wrap_i64]; omega
      have RW := Lib.hid (K.out.row _ B _ l k S.out (Nat.le_trans HB.out G.out.size) HL.out (NUM.out k (by omega)))
      gi_wp2_with fail
      refine ⟨trivial, (callsIn_wide.2 RW.out).mono ?_⟩
      rintro z w1 ⟨v1, rfl, ho1, hb1⟩
      have O1 := Lib.hid ho1.rd
      have S := Lib.hid (K.out.on S.out hb1)
      have R := Lib.hid (R.out.below (hb1.mono G.out.size))
      have B6 := Lib.hid (B6.out.later hb1)
      have G := Lib.hid (G.out.trans (hb1.mono G.out.size))
      clear ho1 hb1 RW
      gi_wp2_with fail
      refine ⟨trivial, (callsIn_wide.2 (ref_row _ l k _ (R.out.more G.out.size) HLL.out)).mono ?_⟩
      rintro z w2 ⟨v2, rfl, ho2, hb2⟩
      have O1 := Lib.hid (O1.out.on hb2)
      have O2 := Lib.hid ho2.rd
      have S := Lib.hid (K.out.on S.out hb2)
      have R := Lib.hid (R.out.below (hb2.mono G.out.size))
      have B6 := Lib.hid (B6.out.later hb2)
      have G := Lib.hid (G.out.trans (hb2.mono G.out.size))
      clear ho2 hb2
      gi_wp2_with fail
      refine ⟨trivial, (callsIn_wide.2 (ref_sameK _ _ _ _ _ O1.out O2.out (Nat.le_trans (RN.out k) (by decide)))).mono ?_⟩
      rintro z w3 ⟨rfl, hb3⟩
      rw [same_selfK]
      have S := Lib.hid (K.out.on S.out hb3)
      have R := Lib.hid (R.out.below (hb3.mono G.out.size))
      have B6 := Lib.hid (B6.out.later hb3)
      have G := Lib.hid (G.out.trans (hb3.mono G.out.size))
      clear hb3
      gi_wp2_with fail
      exact ⟨⟨k + 1, by go_num, by omega, S.out, B6.out, G.out⟩, by simp [intOf]; omega⟩
    · have zl : decide ((k : Int) ≤ 9) = false := by rw [decide_eq_false_iff_not]; omega
      clear RN NUM
      gi_wp2_with fail
      clear zl
      refine ⟨trivial, (callsIn_wide.2 (ref_fromB w.heap.size _ l key _ G.out.size R.out HLL.out)).mono ?_⟩
      rintro z w1 ⟨v1, rfl, hr1, hb1⟩
      have FR := Lib.hid hr1
      have hn6 : w.heap.size < w1.heap.size := Nat.lt_of_lt_of_le B6.out.lt hb1.size
      have S := Lib.hid (K.out.on S.out hb1)
      have R := Lib.hid (R.out.below (hb1.mono G.out.size))
      have B6 := Lib.hid (B6.out.later hb1)
      have G := Lib.hid (G.out.trans (hb1.mono G.out.size))
      have HFL := Lib.hid (show (fromI l key).length ≤ 1000 from Nat.le_trans (by rw [fromI, List.length_drop]; omega) HL.out)
      have FI := Lib.hid (fun w1 h1 h2 => K.out.from' (n := n) w1 B (.pointer (some ⟨gp, 0, none⟩)) l key h1 h2 HL.out HKY.out)
      clear hb1
      generalize fromI l key = fs at *
      obtain ⟨A1, c1, rfl, -⟩ := hr1
      obtain ⟨W4, hW4⟩ : ∃ W4, (w1.alloc (.cells #[.slice A1 fs.length c1] 25)).alloc (.cells #[.int .i64 0] 3) = W4 := ⟨_, rfl⟩
      have hb4 : Below w1.heap.size w1 W4 := by rw [← hW4]; exact ((Below.refl _ _).alloc (Nat.le_refl _) _).alloc (by simp) _
      have B9 := Lib.hid (show Box W4 w1.heap.size #[.slice A1 fs.length c1] 25 from by rw [← hW4]; exact (Box.new w1 _ _ _ rfl).alloc _)
      have B10 := Lib.hid (show Box W4 (w1.heap.size + 1) #[.int .i64 0] 3 from by rw [← hW4]; exact Box.new _ _ _ _ (by simp))
      have Z4 := Lib.hid (show W4.heap.size = w1.heap.size + 2 from by rw [← hW4]; simp)
      have S := Lib.hid (K.out.on S.out hb4)
      have R := Lib.hid (R.out.below (hb4.mono G.out.size))
      have FR := Lib.hid (FR.out.below (hb4.mono G.out.size))
      have B6 := Lib.hid (B6.out.later hb4)
      have GS := Lib.hid G.out.size
      have N6 := Lib.hid hn6
      have G := Lib.hid (G.out.trans (hb4.mono G.out.size))
      have TY6 := Lib.hid B6.out
      have HW4 := Lib.hid hW4
      clear hb4 hn6 hW4
      gi_wp2_with fail
      rw [HW4.out]
      clear HW4
      refine ⟨trivial, (callsIn_wide.2 (FI.out W4 S.out (Nat.le_trans HB.out G.out.size))).mono ?_⟩
      rintro z W6 ⟨gf, lb, rfl, eg, hb6, hT⟩
      have TL := Lib.hid (hT True w.heap.size (Nat.le_trans G.out.size hb6.size))
      have S := Lib.hid (K.out.on S.out hb6)
      have R := Lib.hid (R.out.below (hb6.mono G.out.size))
      have FR := Lib.hid (FR.out.below (hb6.mono G.out.size))
      have B6 := Lib.hid (B6.out.later hb6)
      have B9 := Lib.hid (B9.out.later hb6)
      have B10 := Lib.hid (B10.out.later hb6)
      have TY := Lib.hid (fun k o (h : W4.heap[k]? = some o) (hp : P o = true) => typed_ne B10.out (K.out.num _) ((hb6.block k (Array.getElem?_eq_some_iff.1 h).1).trans h) hp)
      have G := Lib.hid (G.out.trans (hb6.mono G.out.size))
      have EG := Lib.hid eg
      have Z6 := Lib.hid hb6.size
      have hqf := fun (W : World) => run_eql_func_nil (P := Try.prog) W Try.underlying43 ⟨_, _, _, rfl⟩ (.func gf) #[] lb
      clear hb6 hT eg FI
      gi_wp2_with fail
      clear hqf
      obtain ⟨ks, hks⟩ : ∃ ks, kvI fs = ks := ⟨_, rfl⟩
      rw [hks] at TL
      have KLE := Lib.hid (show ks.length = fs.length from by rw [← hks, kvI, List.length_map])
      have KAT := Lib.hid (show ∀ (n : Nat) (h : n < fs.length) (h2 : n < ks.length), ks[n] = (fs[n].key, fs[n].v) from fun n h h2 => by simp only [← hks, kvI, List.getElem_map])
      have hn6 := N6.out
      have hz4 := Z4.out
      have hz6 := Z6.out
      have hgs := GS.out
      have hbb := HB.out
      have HST : w.heap.size ≤ W6.heap.size := by omega
      have hcl := K.out.cellsO
      refine wpIn_rangeTell2 (P := Try.prog) (Z := True) (T := TI) (Kp := KpF P B W4 W6) (n₀ := w.heap.size) (gf := gf) (lb := lb) rfl EG.out TL.out HST (fun k h => by
          rcases h with ⟨h1, o, h2, -⟩ | ⟨h1, h2⟩
          · have := (Array.getElem?_eq_some_iff.1 h2).1; omega
          · exact h2) (Below.refl _ _) (fun _ => rfl)
        (fun pre X => (∃ r, ks = pre ++ r) ∧ Box X (w1.heap.size + 1) #[.int .i64 (pre.length : Int)] 3 ∧ Box X w1.heap.size #[.slice A1 fs.length c1] 25 ∧ Box X w.heap.size #[.bool false] 4 ∧ Below w.heap.size w X ∧ W6.heap.size ≤ X.heap.size ∧ (∀ k o, B ≤ k → W6.heap[k]? = some o → P o = true → X.heap[k]? = some o) ∧ RdX itL X w.heap.size (.slice A1 fs.length c1) fs)
        (fun c pre X => c = .ret ∧ ¬ ∃ r, ks = pre ++ r)
        (fun s X Y hs htw => by
          obtain ⟨h0, h1, h2, h3, h4, h5, h6, h7⟩ := hs
          have hlow : ∀ k, k < W6.heap.size → Y.heap[k]? = X.heap[k]? := fun k hk => htw.low k (by omega) hk
          exact ⟨h0, (hlow _ (by omega)).trans h1, (hlow _ (by omega)).trans h2, (hlow _ (by omega)).trans h3, h4.trans (htw.below (by omega) (by omega)), Nat.le_trans h5 htw.size, fun k o hk ho hp => (hlow k (Array.getElem?_eq_some_iff.1 ho).1).trans (h6 k o hk ho hp), h7.below (htw.below (by omega) (by omega))⟩)
        (fun c s X Y hs _ => hs)
        ⟨⟨ks, rfl⟩, B10.out, B9.out, B6.out, G.out, Nat.le_refl _, fun k o _ h _ => h, FR.out⟩
        (fun x a' X => a' = { tmps := #[.pointer (some ⟨gp, 0, none⟩), .slice A l.length ca, .string key, undef, undef, undef, .pointer (some ⟨w.heap.size, 0, none⟩), .int .i64 (k : Int), u8, .pointer (some ⟨w1.heap.size, 0, none⟩), .pointer (some ⟨w1.heap.size + 1, 0, none⟩), .func (.func gf) #[] lb, .string x.1, .int .i64 x.2, undef, undef, undef, undef, .pointer (some ⟨gp, 0, none⟩), .int .i64 (l.length : Int), .slice A l.length ca, .int .i64 (l.length : Int), .bool false, .bool false, .pointer (some ⟨gp, 0, none⟩), .int .i64 (heightI l), .slice A l.length ca, .int .i64 (heightI l), .bool false, .bool false, .int .i64 (k : Int), .bool false, u32, u33, u34, u35, u36, u37, u38, u39, u40, u41, u42, .slice A l.length ca, .string key, .slice A1 fs.length c1, .pointer (some ⟨gp, 0, none⟩), .string key, .func (.func gf) #[] lb, .func (.func gf) #[] lb, .bool false, .func (.func gf) #[] lb, .string x.1, .int .i64 x.2, undef, undef, undef, undef, undef, undef, undef, undef, undef, undef, undef, undef, undef, undef, undef, undef, undef, undef, undef, undef, undef, undef, undef, undef, undef, undef, undef, undef, undef, undef, undef, undef, undef, undef, undef, undef, undef, undef, undef, undef, undef, undef, undef, undef, undef, undef, undef, undef, undef, undef], defers := [] })
        (fun x a' _ X Y hs htw => hs)
        ?assign ?body ?done ?stop
      case assign =>
        rintro l2 pre x X K' hlt hI hK
        obtain ⟨xk, xv⟩ := x
        have HI := Lib.hid hI
        unfold encKV
        clear hn6 hz4 hz6 hgs hbb HST hcl hI
        gi_wp2_with fail
        exact hK _ _ (Kr.refl _ _ _ _ X) HI.out rfl
      case body =>
        rintro l2 pre x a' X hX ⟨h0, h1, h2, h3, h4, h5, h6, h7⟩ rfl hlen
        obtain ⟨xk, xv⟩ := x
        have c10 := h1.cell 0 _ rfl
        have f10 := h1.frozen 0
        have c9 := h2.cell 0 _ rfl
        have f6 := h3.frozen 0
        have c6 := h3.cell 0 _ rfl
        have P0 := Lib.hid h0
        have X10 := Lib.hid h1
        have X9 := Lib.hid h2
        have X6 := Lib.hid h3
        have GX := Lib.hid h4
        have SX := Lib.hid h5
        have KX := Lib.hid h6
        have RX := Lib.hid h7
        have out6 : Kr TI (KpF P B W4 W6) w.heap.size W6.heap.size X (X.setCell ⟨w.heap.size, 0, none⟩ (.bool false)) := Kr.of_grown (grownBy_setCell' X _ _) (by omega) (fun j hj => by
          cases hj
          refine ⟨Nat.le_refl _, fun hk => ?_, fun o ho => ?_⟩
          · rcases hk with ⟨-, o, hk2, hk3⟩ | ⟨hk1, -⟩
            · exact typed_ne TY6.out (K.out.bol _) hk2 hk3 rfl
            · omega
          · rw [show X.heap[w.heap.size]? = _ from h3] at ho
            cases ho
            exact ⟨_, _, _, rfl, by decide⟩)
        have OUT := Lib.hid out6
        by_cases hn : pre.length < fs.length
        · have zn : decide ((fs.length : Int) ≤ (pre.length : Int)) = false := by rw [decide_eq_false_iff_not]; omega
          have znn : decide (fs.length ≤ pre.length) = false := by rw [decide_eq_false_iff_not]; omega
          have hni : (pre.length : Int) < (fs.length : Int) := by omega
          have hw64 : IntKind.i64.wrap ((pre.length : Int) + 1) = (pre.length : Int) + 1 := by rw [IntKind.wrap_i64]; have := HFL.out; omega
          have hn2 : pre.length < ks.length := by rw [KLE.out]; exact hn
          have hka := KAT.out pre.length hn hn2
          obtain ⟨y, hy⟩ : ∃ y, fs[pre.length] = y := ⟨_, rfl⟩
          rw [hy] at hka
          obtain ⟨yk, yl, yv⟩ := y
          obtain ⟨bb, oo, rfl, -, e0, e1, e2⟩ := RdX.it RX.out pre.length hn hy
          have nxt : ∀ r, ks = pre ++ r → ∃ r', r = (yk, yv) :: r' := fun r hr => by
            have h9 : ks[pre.length]? = r[0]? := by rw [hr, List.getElem?_append_right (Nat.le_refl _), Nat.sub_self]
            rw [List.getElem?_eq_getElem hn2, hka] at h9
            cases r with
            | nil => simp at h9
            | cons z r' => simp at h9; exact ⟨r', by rw [← h9]⟩
          have NX := Lib.hid nxt
          have bad : ¬ (yk = xk ∧ yv = xv) → ¬ ∃ r, ks = (pre ++ [(xk, xv)]) ++ r := fun hne ⟨r, hr⟩ => by
            rw [List.append_assoc] at hr
            obtain ⟨r', hr'⟩ := nxt _ hr
            simp only [List.singleton_append, List.cons.injEq, Prod.mk.injEq] at hr'
            exact hne ⟨hr'.1.1.symm, hr'.1.2.symm⟩
          have BAD := Lib.hid bad
          have grow : Kr TI (KpF P B W4 W6) w.heap.size W6.heap.size X (X.setCell ⟨w1.heap.size + 1, 0, none⟩ (.int .i64 ((pre.length : Int) + 1))) := Kr.of_grown (grownBy_setCell' X _ _) (by omega) (fun j hj => by
            cases hj
            refine ⟨by first | omega | (simp only; omega), fun hk => ?_, fun o ho => ?_⟩
            · rcases hk with ⟨-, o, hk2, hk3⟩ | ⟨hk1, -⟩
              · exact TY.out _ o hk2 hk3 rfl
              · omega
            · rw [show X.heap[w1.heap.size + 1]? = _ from h1] at ho
              cases ho
              exact ⟨_, _, _, rfl, by decide⟩)
          have GROW := Lib.hid grow
          have H6N := Lib.hid hn6
          have H4N := Lib.hid hz4
          have H6Z := Lib.hid hz6
          have HNE := Lib.hid (K.out.num)
          clear h0 h1 h2 h3 h4 h5 h6 h7 out6 grow hn6 hz4 hz6 hgs hbb HST hcl hka hy nxt bad
          by_cases hk : yk.toList = xk.toList
          · have q1 : (yk.toList == xk.toList) = true := by rw [beq_iff_eq]; exact hk
            by_cases hv : yv = xv
            · have q2 : (yv != xv) = false := by simp [hv]
              have q3 : (yv == xv) = true := by simp [hv]
              have HK := Lib.hid ((bytes_eqK _ _).1 hk)
              have HV := Lib.hid hv
              clear hk hv
              gi_wp2_with fail
              have hb := X10.out.set 0 (.int .i64 ((pre.length : Int) + 1))
              have hlt1 := X10.out.lt
              have h9 := H6N.out
              refine ⟨GROW.out, ?_, by rw [List.length_append, List.length_singleton]; exact hb, (Below.heap_setCell X ⟨w1.heap.size + 1, 0, none⟩ _ _ (by first | omega | (simp only; omega))).trans X9.out, (Below.heap_setCell X ⟨w1.heap.size + 1, 0, none⟩ _ _ (by first | omega | (simp only; omega))).trans X6.out, GX.out.setCell (p := ⟨w1.heap.size + 1, 0, none⟩) (by first | omega | (simp only; omega)) _, Nat.le_trans SX.out (by simp [World.setCell]), fun k o hk ho hp => ?_, RX.out.below GROW.out.below⟩
              · obtain ⟨r, hr⟩ := P0.out
                obtain ⟨r', hr'⟩ := NX.out r hr
                exact ⟨r', by rw [hr, hr', HK.out, HV.out, List.append_assoc]; rfl⟩
              · have h10 := KX.out k o hk ho hp
                exact (Below.heap_setCell X ⟨w1.heap.size + 1, 0, none⟩ _ k (fun e => typed_ne X10.out (HNE.out _) h10 hp e)).trans h10
            · have q2 : (yv != xv) = true := by simp [hv]
              have q3 : (yv == xv) = false := by simp [hv]
              have BD := Lib.hid (BAD.out fun h => hv h.2)
              clear hk hv
              gi_wp2_with fail
              exact ⟨trivial, OUT.out, rfl, BD.out⟩
          · have q1 : (yk.toList == xk.toList) = false := by rw [beq_eq_false_iff_ne]; exact hk
            have BD := Lib.hid (BAD.out fun h => hk (by rw [h.1]))
            clear hk
            gi_wp2_with fail
            exact ⟨trivial, OUT.out, rfl, BD.out⟩
        · have zn : decide ((fs.length : Int) ≤ (pre.length : Int)) = true := by simp; omega
          have znn : decide (fs.length ≤ pre.length) = true := by simp; omega
          have BD := Lib.hid (show ¬ ∃ r, ks = (pre ++ [(xk, xv)]) ++ r from fun ⟨r, hr⟩ => by
            have h8 := KLE.out
            rw [hr, List.length_append, List.length_append, List.length_singleton] at h8
            omega)
          clear h0 h1 h2 h3 h4 h5 h6 h7 out6 hn6 hz4 hz6 hgs hbb HST hcl hn
          gi_wp2_with fail
          exact ⟨trivial, OUT.out, rfl, BD.out⟩
      case done =>
        rintro D xs X hD rfl ⟨h0, h1, h2, h3, h4, h5, h6, h7⟩ hK
        have c10 := h1.cell 0 _ rfl
        have c9 := h2.cell 0 _ rfl
        have hkl := KLE.out
        rw [hkl] at c10
        have S := Lib.hid (K.out.stay S.out h6)
        have X10 := Lib.hid h1
        have X9 := Lib.hid h2
        have X6 := Lib.hid h3
        have GX := Lib.hid h4
        have RX := Lib.hid (R0.out.below h4)
        have HK := Lib.hid hK
        have HD := Lib.hid (show w.heap.size < D from by omega)
        have FLC := Lib.hid (K.out.floor X B (.pointer (some ⟨gp, 0, none⟩)) l key S.out (Nat.le_trans hbb h4.size) HL.out HKY.out)
        have RFL := Lib.hid (fun w h => ref_floor (.slice A l.length ca) l key w h HLL.out)
        generalize floorI l key = fl at *
        obtain ⟨fk, fb⟩ := fl
        simp only at FLC RFL
        have q1 : (fk.toList == fk.toList) = true := by simp
        have q2 : (fb == fb) = true := by simp
        clear h0 h1 h2 h3 h4 h5 h6 h7 hK hn6 hz4 hz6 hgs hbb HST hcl hkl hD
        gi_wp2_with fail
        refine ⟨trivial, (callsIn_wide.2 FLC.out).mono ?_⟩
        rintro z w7 ⟨rfl, hb7⟩
        have RX := Lib.hid (RX.out.below (hb7.mono GX.out.size))
        have X10 := Lib.hid (X10.out.later hb7)
        have X9 := Lib.hid (X9.out.later hb7)
        have X6 := Lib.hid (X6.out.later hb7)
        have GX := Lib.hid (GX.out.trans (hb7.mono GX.out.size))
        have HK := Lib.hid ((hb7.block D (Array.getElem?_eq_some_iff.1 HK.out).1).trans HK.out)
        clear hb7 c10 c9
        gi_wp2_with fail
        refine ⟨trivial, (callsIn_wide.2 (RFL.out _ (RX.out.more GX.out.size))).mono ?_⟩
        rintro z w8 ⟨rfl, hb8⟩
        have X10 := Lib.hid (X10.out.later hb8)
        have X9 := Lib.hid (X9.out.later hb8)
        have X6 := Lib.hid (X6.out.later hb8)
        have GX := Lib.hid (GX.out.trans (hb8.mono GX.out.size))
        have HK := Lib.hid ((hb8.block D (Array.getElem?_eq_some_iff.1 HK.out).1).trans HK.out)
        clear hb8
        have c10 := X10.out.cell 0 _ rfl
        have c9 := X9.out.cell 0 _ rfl
        have c6 := X6.out.cell 0 _ rfl
        have f6 := X6.out.frozen 0
        rw [KLE.out] at c10
        gi_wp2_with fail
        have X7 := X6.out.set 0 (.bool true)
        have hD9 : (w8.setCell ⟨w.heap.size, 0, none⟩ (.bool true)).heap[D]? = some (.deferred (some [])) := (Below.heap_setCell w8 ⟨w.heap.size, 0, none⟩ _ D (by have := HD.out; first | omega | (simp only; omega))).trans HK.out
        have G9 := GX.out.setCell (p := ⟨w.heap.size, 0, none⟩) (Nat.le_refl _) (.bool true)
        clear c6 f6 c9 c10
        generalize w8.setCell ⟨w.heap.size, 0, none⟩ (.bool true) = W9 at *
        refine ⟨by simp, .inl ⟨_, _, rfl, run_takeDeferred hD9, ?_⟩⟩
        have q3 := X7.keep (grownBy_putObj' W9 D (.deferred none)) (by have := HD.out; simp; omega)
        have r0 := q3.cell 0 _ rfl
        refine ⟨_, (by rw [results_cell1 rfl]; go_simp), rfl, G9.trans (belowK_b (w := w) (Nat.le_refl _) W9 D _ _ (Nat.le_of_lt HD.out) hD9 rfl rfl)⟩
      case stop =>
        rintro D c pre X _ ⟨-, h1⟩ ⟨rfl, h2⟩ _
        exact absurd h1 h2
end Go.Proofs.Ytlihiojdjcmggaa
