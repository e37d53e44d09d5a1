/- Layer 13 (the list of layer 12, of slices of versions), the project's: From: what it tells, one by one. -/
import Derived.Test.YtigdkflknhdbgaaKe
import Derived.Test.YtigdkflknhdbgaaBtu
import Derived.RangeFuncBound
import Derived.RangeFuncLeaves
import Derived.Shelf.Abstract
import Derived.Shelf.RegionOpen
import Derived.OwnWalkIn
import Derived.TacticsInMore
import Derived.LoopNIn
import Derived.LoopIn
import Derived.Sort.QuietIn
import Derived.Deep.LoopGhost
namespace Go.Proofs.Ytigdkflknhdbgaa.Skp
open Go.RowKit Go.Shelf
set_option linter.unusedVariables false
attribute [local go_sem] Oper.semAt_some

theorem run_From (p : Value) (n : Nat) (hp : p = .pointer (some ⟨n, 0, none⟩)) (key : ByteArray) (w : World) :
    Calls Try.prog 30 #[p, .string key] w fun e w' => e = .returned (.func (.func 48) #[] #[.pointer (some ⟨w.heap.size, 0, none⟩), .pointer (some ⟨w.heap.size + 1, 0, none⟩)]) ∧
      w' = (w.alloc (.cells #[p] 65)).alloc (.cells #[.string key] 9) := by
  subst hp
  go_enter Try.func30, Try.ntmps30
  go_wp2_with fail
  go_ret
  exact ⟨rfl, rfl⟩

theorem SkM.move {mk : Nat} {w w' : World} {M : List Nd} {l : List It} (h : SkM mk w M l) (hm : ∀ i, OwnK M i → w'.heap[i]? = w.heap[i]?) : SkM mk w' M l :=
  ⟨⟨fun i x hi => (hm _ ⟨x, List.mem_of_getElem? hi, rfl⟩).trans (h.nodes.at' i x hi), h.nodes.bs⟩, h.len, h.head, h.items, h.link, h.levs, h.asc⟩
theorem kv_step {l : List It} {a i : Nat} (ha : a ≤ i) (hi : i < l.length) : kvI ((l.take (i + 1)).drop a) = kvI ((l.take i).drop a) ++ [(l[i].key, l[i].v)] := by
  rw [List.take_succ_eq_append_getElem hi, List.drop_append_of_le_length (by rw [List.length_take]; omega)]
  unfold kvI
  rw [List.map_append]
  rfl
theorem kv_rest {l : List It} {a i : Nat} : kvI (l.drop a) = kvI ((l.take i).drop a) ++ kvI ((l.drop i).drop (a - i)) := by
  rcases Nat.lt_or_ge l.length i with h | h
  · rw [List.take_of_length_le (by omega), List.drop_eq_nil_of_le (by omega : l.length ≤ i)]
    simp [kvI]
  · unfold kvI
    rw [← List.map_append]
    congr 1
    have := List.drop_append (l₁ := l.take i) (l₂ := l.drop i) (i := a)
    rw [List.take_append_drop, List.length_take, Nat.min_eq_left h] at this
    exact this
/-- What holds between two rounds: the place of the node that is told next; n: how many are left. -/
def RelF (mk : Nat) (M : List Nd) (l : List It) (a s1 s2 B : Nat) (key : ByteArray) (J : List (ByteArray × Sl) → World → Prop) (n : Nat) (x : Value) (wr : World) : Prop :=
  ∃ i, x = nodeP M l i ∧ a ≤ i ∧ i ≤ l.length ∧ n = l.length - i ∧ J (kvI ((l.take i).drop a)) wr ∧ SkM mk wr M l ∧ Box wr s1 #[.pointer (some ⟨bN M 0, 0, none⟩)] 65 ∧ B ≤ wr.heap.size

set_option maxRecDepth 100000 in
set_option maxHeartbeats 4000000 in
theorem from_tells {T : TypeId → Bool} (mk : Nat) (M : List Nd) (l : List It) (key : ByteArray) (w : World) (s1 s2 : Nat) (Z : Prop) (Kp : Nat → Prop) (n₀ : Nat) (h : SkM mk w M l) (hl : l.length ≤ 1000)
    (h1 : Box w s1 #[.pointer (some ⟨bN M 0, 0, none⟩)] 65) (h2 : Box w s2 #[.string key] 9) (hk1 : Kp s1) (hkM : ∀ i, OwnK M i → Kp i) :
    Tells10 Try.prog Z T Kp n₀ 48 #[.pointer (some ⟨s1, 0, none⟩), .pointer (some ⟨s2, 0, none⟩)] encKV
      (fun xs => xs = kvI (fromI l key)) (fun pre => pre ≠ [] ∧ ∃ r, kvI (fromI l key) = pre ++ r) 1000 w := fun L J Jx W hW hJ hJx hY h0 => by
  have SW := Lib.hid (h.on hW)
  have B1 := Lib.hid (show Box W s1 _ _ from h1.later hW)
  have b1 := B1.out.cell 0 _ rfl
  have b2 := (h2.later hW).cell 0 _ rfl
  have bm := (SW.out.nodes.tail SW.out.lv0).2
  have PF := Lib.hid (p_first mk M l key W SW.out)
  have HY := Lib.hid hY
  have HJ := Lib.hid hJ
  have H0 := Lib.hid h0
  have HL := Lib.hid hl
  have HK1 := Lib.hid hk1
  have HKM := Lib.hid hkM
  have AL := Lib.hid (at_le key l)
  clear hY hJ hJx h0 hW h1 h2 h hl hk1 hkM
  unfold encKV at *
  refine (callsIn_wide (n := 4)).1 ?_
  refine callsIn_of_wp Try.func48 rfl trivial ?_ rfl
  simp only [Try.ntmps48, List.size_toArray, List.length_cons, List.length_nil, Nat.reduceAdd, Nat.reduceSub, Array.replicate_succ, Array.replicate_zero, List.push_toArray, List.append_toArray, List.nil_append, List.cons_append]
  gi_wp2_with fail
  refine ⟨trivial, (callsIn_wide.2 PF.out).mono ?_⟩
  rintro e w1 ⟨rfl, hb1⟩
  have E := easy_wide 4 Try.prog
  have R0 := Lib.hid (show ∃ n, RelF mk M l (atI key l) s1 s2 W.heap.size key J n (nodeP M l (atI key l)) w1 from ⟨_, atI key l, rfl, Nat.le_refl _, AL.out, rfl, by
    rw [List.drop_eq_nil_of_le (by rw [List.length_take]; omega)]
    exact HJ.out _ _ _ H0.out (Tw.of_below hb1), SW.out.on hb1, B1.out.later hb1, hb1.size⟩)
  clear hb1 b1 b2 bm
  generalize nodeP M l (atI key l) = np at *
  gi_wp2_with fail
  gi_loopw [5] (fun x wr => ∃ n, RelF mk M l (atI key l) s1 s2 W.heap.size key J n x wr) (fun x wr => leastOf fun n => RelF mk M l (atI key l) s1 s2 W.heap.size key J n x wr)
  case atStart => exact R0.out
  case round =>
    have LS := Lib.hid (leastOf_spec hrel)
    clear R0 hrel
    rename World => wr
    obtain ⟨⟨i, rfl, hai, hil, hn, hj, hs, hb, hB⟩, hmin⟩ := LS.out
    have RN := Lib.hid hn
    have RM := Lib.hid hmin
    have JP := Lib.hid hj
    have SR := Lib.hid hs
    have BR := Lib.hid hb
    have HB := Lib.hid hB
    have HAI := Lib.hid hai
    have HIL := Lib.hid hil
    clear hn hmin hj hs hb hB hai hil LS
    by_cases hlt : i < l.length
    · have XN : nodeP M l i = .pointer (some ⟨bN M (i + 1), 0, none⟩) := if_pos hlt
      obtain ⟨q0, q1, -, ag, q3, hag⟩ := SR.out.key hlt
      have PB := Lib.hid (fun U (hU : SkM mk U M l) => p_behind mk M l i U hU hlt)
      have KV := Lib.hid (kv_step HAI.out hlt)
      have hage : decide ((ag : Int) ≤ (mk : Int)) = true := by rw [decide_eq_true_eq]; omega
      have hagn : decide (ag ≤ mk) = true := by rw [decide_eq_true_eq]; exact hag
      have JD := Lib.hid (HJ.out _ wr wr.drew JP.out (Tw.of_below ((Below.refl _ _).drewN 1)))
      have SD := Lib.hid (show SkM mk wr.drew M l from SR.out.on ((Below.refl _ _).drewN 1))
      have BD := Lib.hid (show Box wr.drew s1 _ _ from BR.out)
      obtain ⟨fn, tmps, assign, body, hy, hR⟩ := HY.out _ ((l[i]'hlt).key, (l[i]'hlt).v) wr.drew JD.out ⟨by simp, _, by rw [← KV.out]; exact kv_rest⟩ (by
        unfold kvI
        rw [List.length_map, List.length_drop, List.length_take]
        have := HL.out
        omega) HB.out
      obtain ⟨bb, hbb⟩ : ∃ bb, bN M (i + 1) = bb := ⟨_, rfl⟩
      obtain ⟨ks, hks⟩ : ∃ ks, (l[i]'hlt).key = ks := ⟨_, rfl⟩
      obtain ⟨vs, hvs⟩ : ∃ vs, (l[i]'hlt).v = vs := ⟨_, rfl⟩
      have NK := Lib.hid (show ∀ W3, Kr T Kp n₀ W.heap.size wr.drew W3 → (SkM mk W3 M l ∧ Box W3 s1 #[.pointer (some ⟨bN M 0, 0, none⟩)] 65) ∧ (fun W' : World => W'.cell? ⟨bb, 0, none⟩ = some (.string ks) ∧ W'.cell? ⟨bb, 1, none⟩ = some (.slice vs.a vs.n vs.c) ∧ W'.cell? ⟨bb, 3, none⟩ = some (.int .i64 (ag : Int))) W3 from fun W3 hk => by
        have hkk : ∀ i, OwnK M i → W3.heap[i]? = wr.drew.heap[i]? := fun j hj => by
          obtain ⟨x, hx, rfl⟩ := hj
          obtain ⟨t, ht, rfl⟩ := List.getElem_of_mem hx
          exact hk.kept _ (HKM.out _ ⟨_, hx, rfl⟩) (SD.out.nodes.at' t _ (List.getElem?_eq_getElem ht)).lt
        have S3 := SD.out.move hkk
        have hkb := hkk (bN M (i + 1)) (by
          have h1 : i + 1 < M.length := by rw [SD.out.len]; omega
          rw [bN_at h1]
          exact ⟨_, List.getElem_mem h1, rfl⟩)
        have mv : ∀ j v, wr.cell? ⟨bN M (i + 1), j, none⟩ = some v → W3.cell? ⟨bN M (i + 1), j, none⟩ = some v := fun j v hc => by
          unfold World.cell? at hc ⊢
          rw [hkb]
          exact hc
        rw [← hbb, ← hks, ← hvs]
        exact ⟨⟨S3, (hk.kept _ HK1.out BD.out.lt).trans BD.out⟩, mv _ _ q0, mv _ _ q1, mv _ _ q3⟩)
      have HI : (fun W' : World => W'.cell? ⟨bb, 0, none⟩ = some (.string ks) ∧ W'.cell? ⟨bb, 1, none⟩ = some (.slice vs.a vs.n vs.c) ∧ W'.cell? ⟨bb, 3, none⟩ = some (.int .i64 (ag : Int))) wr.drew := by
        rw [← hbb, ← hks, ← hvs]
        exact ⟨q0, q1, q3⟩
      have HSP := Lib.hid (show (kvI ((l.take i).drop (atI key l)) ++ [(ks, vs)] ≠ []) ∧ ∃ r, kvI (fromI l key) = kvI ((l.take i).drop (atI key l)) ++ [(ks, vs)] ++ r from ⟨by simp, _, by
        rw [← hks, ← hvs, ← KV.out]
        exact kv_rest⟩)
      have bm := (SR.out.nodes.tail SR.out.lv0).2
      dsimp only at hy
      have HLT := Lib.hid hlt
      rw [hks, hvs] at hy hR KV
      rw [hbb] at XN q0 q1 q3 PB
      rw [hks] at q0
      rw [hvs] at q1
      rw [XN] at RN
      rw [XN]
      clear hlt hbb hks hvs XN hag
      gi_wp2_with fail
      refine regj_start [] (fun W' : World => W'.cell? ⟨bb, 0, none⟩ = some (.string ks) ∧ W'.cell? ⟨bb, 1, none⟩ = some (.slice vs.a vs.n vs.c) ∧ W'.cell? ⟨bb, 3, none⟩ = some (.int .i64 (ag : Int))) (by kernel_rfl) ?_
      refine regj_take E 0 18 (v := ?_) (T' := ?_) HI (by kernel_rfl) (by kernel_rfl) (by kernel_rfl) (by kernel_rfl) (by kernel_rfl) (fun _ _ _ h => h) (fun o ho => ?_) ?_ ?_
      rotate_left 2
      · cases ho
        refine ⟨rfl, rfl, fun W hW => ?_⟩
        obtain ⟨i1, i2, i3⟩ := (show W.cell? _ = _ ∧ W.cell? _ = _ ∧ W.cell? _ = _ from hW)
        go_simp; (try with_reducible rfl)
      · simp only [List.setIfInBounds_toArray, List.set_cons_succ, List.set_cons_zero]; exact rfl
      refine regj_take E 1 19 (v := ?_) (T' := ?_) HI (by kernel_rfl) (by kernel_rfl) (by kernel_rfl) (by kernel_rfl) (by kernel_rfl) (fun _ _ _ h => h) (fun o ho => ?_) ?_ ?_
      rotate_left 2
      · cases ho
        refine ⟨rfl, rfl, fun W hW => ?_⟩
        obtain ⟨i1, i2, i3⟩ := (show W.cell? _ = _ ∧ W.cell? _ = _ ∧ W.cell? _ = _ from hW)
        go_simp; (try with_reducible rfl)
      · simp only [List.setIfInBounds_toArray, List.set_cons_succ, List.set_cons_zero]; exact rfl
      refine regj_take E 2 20 (v := ?_) (T' := ?_) HI (by kernel_rfl) (by kernel_rfl) (by kernel_rfl) (by kernel_rfl) (by kernel_rfl) (fun _ _ _ h => h) (fun o ho => ?_) ?_ ?_
      rotate_left 2
      · cases ho
        refine ⟨rfl, rfl, fun W hW => ?_⟩
        obtain ⟨i1, i2, i3⟩ := (show W.cell? _ = _ ∧ W.cell? _ = _ ∧ W.cell? _ = _ from hW)
        go_simp; (try with_reducible rfl)
      · simp only [List.setIfInBounds_toArray, List.set_cons_succ, List.set_cons_zero]; exact rfl
      refine regj_take E 3 21 (v := ?_) (T' := ?_) HI (by kernel_rfl) (by kernel_rfl) (by kernel_rfl) (by kernel_rfl) (by kernel_rfl) (fun _ _ _ h => h) (fun o ho => ?_) ?_ ?_
      rotate_left 2
      · cases ho
        refine ⟨rfl, rfl, fun W hW => ?_⟩
        obtain ⟨i1, i2, i3⟩ := (show W.cell? _ = _ ∧ W.cell? _ = _ ∧ W.cell? _ = _ from hW)
        go_simp; (try with_reducible rfl)
      · simp only [List.setIfInBounds_toArray, List.set_cons_succ, List.set_cons_zero]; exact rfl
      refine regj_take E 4 22 (v := ?_) (T' := ?_) HI (by kernel_rfl) (by kernel_rfl) (by kernel_rfl) (by kernel_rfl) (by kernel_rfl) (fun _ _ _ h => h) (fun o ho => ?_) ?_ ?_
      rotate_left 2
      · cases ho
        refine ⟨rfl, rfl, fun W hW => ?_⟩
        obtain ⟨i1, i2, i3⟩ := (show W.cell? _ = _ ∧ W.cell? _ = _ ∧ W.cell? _ = _ from hW)
        go_simp; (try with_reducible rfl)
      · simp only [List.setIfInBounds_toArray, List.set_cons_succ, List.set_cons_zero]; exact rfl
      refine regj_take E 5 23 (v := ?_) (T' := ?_) HI (by kernel_rfl) (by kernel_rfl) (by kernel_rfl) (by kernel_rfl) (by kernel_rfl) (fun _ _ _ h => h) (fun o ho => ?_) ?_ ?_
      rotate_left 2
      · cases ho
        refine ⟨rfl, rfl, fun W hW => ?_⟩
        obtain ⟨i1, i2, i3⟩ := (show W.cell? _ = _ ∧ W.cell? _ = _ ∧ W.cell? _ = _ from hW)
        go_simp; (try with_reducible rfl)
      · simp only [List.setIfInBounds_toArray, List.set_cons_succ, List.set_cons_zero]; exact rfl
      refine regj_take E 6 24 (v := ?_) (T' := ?_) HI (by kernel_rfl) (by kernel_rfl) (by kernel_rfl) (by kernel_rfl) (by kernel_rfl) (fun _ _ _ h => h) (fun o ho => ?_) ?_ ?_
      rotate_left 2
      · cases ho
        refine ⟨rfl, rfl, fun W hW => ?_⟩
        obtain ⟨i1, i2, i3⟩ := (show W.cell? _ = _ ∧ W.cell? _ = _ ∧ W.cell? _ = _ from hW)
        go_simp; (try with_reducible rfl)
      · simp only [List.setIfInBounds_toArray, List.set_cons_succ, List.set_cons_zero]; exact rfl
      refine regj_take E 7 25 (v := ?_) (T' := ?_) HI (by kernel_rfl) (by kernel_rfl) (by kernel_rfl) (by kernel_rfl) (by kernel_rfl) (fun _ _ _ h => h) (fun o ho => ?_) ?_ ?_
      rotate_left 2
      · cases ho
        refine ⟨rfl, rfl, fun W hW => ?_⟩
        obtain ⟨i1, i2, i3⟩ := (show W.cell? _ = _ ∧ W.cell? _ = _ ∧ W.cell? _ = _ from hW)
        go_simp; (try with_reducible rfl)
      · simp only [List.setIfInBounds_toArray, List.set_cons_succ, List.set_cons_zero]; exact rfl
      refine regj_take E 8 26 (v := ?_) (T' := ?_) HI (by kernel_rfl) (by kernel_rfl) (by kernel_rfl) (by kernel_rfl) (by kernel_rfl) (fun _ _ _ h => h) (fun o ho => ?_) ?_ ?_
      rotate_left 2
      · cases ho
        refine ⟨rfl, rfl, fun W hW => ?_⟩
        obtain ⟨i1, i2, i3⟩ := (show W.cell? _ = _ ∧ W.cell? _ = _ ∧ W.cell? _ = _ from hW)
        go_simp; (try with_reducible rfl)
      · simp only [List.setIfInBounds_toArray, List.set_cons_succ, List.set_cons_zero]; exact rfl
      refine regj_take E 9 27 (v := ?_) (T' := ?_) HI (by kernel_rfl) (by kernel_rfl) (by kernel_rfl) (by kernel_rfl) (by kernel_rfl) (fun _ _ _ h => h) (fun o ho => ?_) ?_ ?_
      rotate_left 2
      · cases ho
        refine ⟨rfl, rfl, fun W hW => ?_⟩
        obtain ⟨i1, i2, i3⟩ := (show W.cell? _ = _ ∧ W.cell? _ = _ ∧ W.cell? _ = _ from hW)
        go_simp; (try with_reducible rfl)
      · simp only [List.setIfInBounds_toArray, List.set_cons_succ, List.set_cons_zero]; exact rfl
      refine regj_take E 10 28 (v := ?_) (T' := ?_) HI (by kernel_rfl) (by kernel_rfl) (by kernel_rfl) (by kernel_rfl) (by kernel_rfl) (fun _ _ _ h => h) (fun o ho => ?_) ?_ ?_
      rotate_left 2
      · cases ho
        refine ⟨rfl, rfl, fun W hW => ?_⟩
        obtain ⟨i1, i2, i3⟩ := (show W.cell? _ = _ ∧ W.cell? _ = _ ∧ W.cell? _ = _ from hW)
        go_simp; (try with_reducible rfl)
      · simp only [List.setIfInBounds_toArray, List.set_cons_succ, List.set_cons_zero]; exact rfl
      refine regj_take E 11 29 (v := ?_) (T' := ?_) HI (by kernel_rfl) (by kernel_rfl) (by kernel_rfl) (by kernel_rfl) (by kernel_rfl) (fun _ _ _ h => h) (fun o ho => ?_) ?_ ?_
      rotate_left 2
      · cases ho
        refine ⟨rfl, rfl, fun W hW => ?_⟩
        obtain ⟨i1, i2, i3⟩ := (show W.cell? _ = _ ∧ W.cell? _ = _ ∧ W.cell? _ = _ from hW)
        go_simp; (try with_reducible rfl)
      · simp only [List.setIfInBounds_toArray, List.set_cons_succ, List.set_cons_zero]; exact rfl
      refine regj_take E 12 30 (v := ?_) (T' := ?_) HI (by kernel_rfl) (by kernel_rfl) (by kernel_rfl) (by kernel_rfl) (by kernel_rfl) (fun _ _ _ h => h) (fun o ho => ?_) ?_ ?_
      rotate_left 2
      · cases ho
        refine ⟨rfl, rfl, fun W hW => ?_⟩
        obtain ⟨i1, i2, i3⟩ := (show W.cell? _ = _ ∧ W.cell? _ = _ ∧ W.cell? _ = _ from hW)
        go_simp; (try with_reducible rfl)
      · simp only [List.setIfInBounds_toArray, List.set_cons_succ, List.set_cons_zero]; exact rfl
      refine regj_take E 13 31 (v := ?_) (T' := ?_) HI (by kernel_rfl) (by kernel_rfl) (by kernel_rfl) (by kernel_rfl) (by kernel_rfl) (fun _ _ _ h => h) (fun o ho => ?_) ?_ ?_
      rotate_left 2
      · cases ho
        refine ⟨rfl, rfl, fun W hW => ?_⟩
        obtain ⟨i1, i2, i3⟩ := (show W.cell? _ = _ ∧ W.cell? _ = _ ∧ W.cell? _ = _ from hW)
        go_simp; (try with_reducible rfl)
      · simp only [List.setIfInBounds_toArray, List.set_cons_succ, List.set_cons_zero]; exact rfl
      refine regj_take E 14 32 (v := ?_) (T' := ?_) HI (by kernel_rfl) (by kernel_rfl) (by kernel_rfl) (by kernel_rfl) (by kernel_rfl) (fun _ _ _ h => h) (fun o ho => ?_) ?_ ?_
      rotate_left 2
      · cases ho
        refine ⟨rfl, rfl, fun W hW => ?_⟩
        obtain ⟨i1, i2, i3⟩ := (show W.cell? _ = _ ∧ W.cell? _ = _ ∧ W.cell? _ = _ from hW)
        go_simp; (try with_reducible rfl)
      · simp only [List.setIfInBounds_toArray, List.set_cons_succ, List.set_cons_zero]; exact rfl
      refine regj_take E 15 33 (v := ?_) (T' := ?_) HI (by kernel_rfl) (by kernel_rfl) (by kernel_rfl) (by kernel_rfl) (by kernel_rfl) (fun _ _ _ h => h) (fun o ho => ?_) ?_ ?_
      rotate_left 2
      · cases ho
        refine ⟨rfl, rfl, fun W hW => ?_⟩
        obtain ⟨i1, i2, i3⟩ := (show W.cell? _ = _ ∧ W.cell? _ = _ ∧ W.cell? _ = _ from hW)
        go_simp; (try with_reducible rfl)
      · simp only [List.setIfInBounds_toArray, List.set_cons_succ, List.set_cons_zero]; exact rfl
      refine regj_round E (I' := (fun W' : World => W'.cell? ⟨bb, 0, none⟩ = some (.string ks) ∧ W'.cell? ⟨bb, 1, none⟩ = some (.slice vs.a vs.n vs.c) ∧ W'.cell? ⟨bb, 3, none⟩ = some (.int .i64 (ag : Int)))) (fun _ h => h) 16 34 (by kernel_rfl) (by kernel_rfl) L fn tmps assign body (fun o ho => by cases ho; exact ⟨rfl, rfl, by go_simp⟩) ?_
      refine RoundIn.mono (round_wide _ hR) ?_
      rintro e W3 ⟨hres, hk3⟩
      have K3 := Lib.hid hk3
      have N3 := Lib.hid (NK.out W3 hk3)
      have HI := N3.out.2
      clear hk3
      rcases hres with ⟨rfl, hJ3⟩ | ⟨hz, rfl, hJ3⟩
      rotate_left
      · have HZ := Lib.hid hz
        have J3 := Lib.hid hJ3
        clear hJ3 hz
        refine ⟨_, _, rfl, .inr HI, (by simp only [List.setIfInBounds_toArray, List.set_cons_succ, List.set_cons_zero]; exact rfl), ?_⟩
        refine regj_take E 17 35 (v := ?_) (T' := ?_) HI (by kernel_rfl) (by kernel_rfl) (by kernel_rfl) (by kernel_rfl) (by kernel_rfl) (fun _ _ _ h => h) (fun o ho => ?_) ?_ ?_
        rotate_left 2
        · cases ho
          refine ⟨rfl, rfl, fun W hW => ?_⟩
          obtain ⟨i1, i2, i3⟩ := (show W.cell? _ = _ ∧ W.cell? _ = _ ∧ W.cell? _ = _ from hW)
          go_simp; (try with_reducible rfl)
        · simp only [List.setIfInBounds_toArray, List.set_cons_succ, List.set_cons_zero]; exact rfl
        refine regj_take E 18 36 (v := ?_) (T' := ?_) HI (by kernel_rfl) (by kernel_rfl) (by kernel_rfl) (by kernel_rfl) (by kernel_rfl) (fun _ _ _ h => h) (fun o ho => ?_) ?_ ?_
        rotate_left 2
        · cases ho
          refine ⟨rfl, rfl, fun W hW => ?_⟩
          obtain ⟨i1, i2, i3⟩ := (show W.cell? _ = _ ∧ W.cell? _ = _ ∧ W.cell? _ = _ from hW)
          go_simp; (try with_reducible rfl)
        · simp only [List.setIfInBounds_toArray, List.set_cons_succ, List.set_cons_zero]; exact rfl
        refine regj_done (by kernel_rfl) ?_
        gi_wp2_with fail
        refine bodyPost_ret (results_none rfl _ _ _) rfl ?_
        exact ⟨⟨_, rfl⟩, .inr ⟨_, HSP.out, J3.out⟩⟩
      have J3 := Lib.hid hJ3
      clear hJ3
      refine ⟨_, _, rfl, .inr HI, (by simp only [List.setIfInBounds_toArray, List.set_cons_succ, List.set_cons_zero]; exact rfl), ?_⟩
      refine regj_take E 17 35 (v := ?_) (T' := ?_) HI (by kernel_rfl) (by kernel_rfl) (by kernel_rfl) (by kernel_rfl) (by kernel_rfl) (fun _ _ _ h => h) (fun o ho => ?_) ?_ ?_
      rotate_left 2
      · cases ho
        refine ⟨rfl, rfl, fun W hW => ?_⟩
        obtain ⟨i1, i2, i3⟩ := (show W.cell? _ = _ ∧ W.cell? _ = _ ∧ W.cell? _ = _ from hW)
        go_simp; (try with_reducible rfl)
      · simp only [List.setIfInBounds_toArray, List.set_cons_succ, List.set_cons_zero]; exact rfl
      refine regj_take E 18 36 (v := ?_) (T' := ?_) HI (by kernel_rfl) (by kernel_rfl) (by kernel_rfl) (by kernel_rfl) (by kernel_rfl) (fun _ _ _ h => h) (fun o ho => ?_) ?_ ?_
      rotate_left 2
      · cases ho
        refine ⟨rfl, rfl, fun W hW => ?_⟩
        obtain ⟨i1, i2, i3⟩ := (show W.cell? _ = _ ∧ W.cell? _ = _ ∧ W.cell? _ = _ from hW)
        go_simp; (try with_reducible rfl)
      · simp only [List.setIfInBounds_toArray, List.set_cons_succ, List.set_cons_zero]; exact rfl
      refine regj_done (by kernel_rfl) ?_
      have S4 := Lib.hid N3.out.1.1
      have b1 := N3.out.1.2.cell 0 _ rfl
      have PB := Lib.hid (PB.out W3 S4.out)
      generalize hnp : nodeP M l (i + 1) = np2 at *
      gi_wp2_with fail
      refine ⟨trivial, (callsIn_wide.2 PB.out).mono ?_⟩
      rintro e w5 ⟨rfl, rfl⟩
      gi_wp2_with fail
      have RN2 := Lib.hid (show RelF mk M l (atI key l) s1 s2 W.heap.size key J (l.length - (i + 1)) np2 w5 from ⟨i + 1, hnp.symm, Nat.le_succ_of_le HAI.out, HLT.out, rfl, by rw [KV.out]; exact J3.out, S4.out, N3.out.1.2, Nat.le_trans HB.out K3.out.size⟩)
      go_roundw
      case rel => exact ⟨_, RN2.out⟩
      case measure =>
        have h1 := (leastOf_spec (p := fun n => RelF mk M l (atI key l) s1 s2 W.heap.size key J n np2 w5) ⟨_, RN2.out⟩).2 _ RN2.out
        have h2 := HLT.out
        have h3 := RN.out
        omega
    · obtain rfl : i = l.length := by have := HIL.out; omega
      have XN : nodeP M l l.length = .pointer none := if_neg hlt
      have HE := Lib.hid (show kvI ((l.take l.length).drop (atI key l)) = kvI (fromI l key) from by rw [List.take_length]; rfl)
      rw [XN]
      clear hlt XN
      gi_wp2_with fail
      go_end0
      exact ⟨⟨_, rfl⟩, .inl ⟨_, HE.out, JP.out⟩⟩
theorem p_from {T : TypeId → Bool} (mk : Nat) (M : List Nd) (l : List It) (key : ByteArray) (w : World) (S : Nat → Prop) (hS : ∀ i, OwnK M i → S i) (h : SkM mk w M l) (hl : l.length ≤ 1000) :
    Calls Try.prog 30 #[.pointer (some ⟨bN M 0, 0, none⟩), .string key] w (FromI T (fun w w' k => S k ∨ (w.heap.size ≤ k ∧ k < w'.heap.size)) (fromI l key) w) := by
  refine (run_From _ (bN M 0) rfl key w).mono ?_
  rintro e w' ⟨rfl, rfl⟩
  have hb : Below w.heap.size w ((w.alloc (.cells #[.pointer (some ⟨bN M 0, 0, none⟩)] 65)).alloc (.cells #[.string key] 9)) := (alloc_below w _).alloc (by simp) _
  refine ⟨_, _, rfl, fun args w => ?_, hb, fun Z n₀ hn => ?_⟩
  · first | kernel_rfl | (go_simp; done)
  · have BA := (Box.new w #[.pointer (some ⟨bN M 0, 0, none⟩)] 65 _ rfl).alloc (.cells #[.string key] 9)
    have BB := Box.new (w.alloc (.cells #[.pointer (some ⟨bN M 0, 0, none⟩)] 65)) #[.string key] 9 (w.heap.size + 1) (by simp)
    exact from_tells mk M l key _ w.heap.size (w.heap.size + 1) Z _ n₀ (h.on hb) hl BA BB (.inr ⟨Nat.le_refl _, by simp; omega⟩) fun i hi => .inl (hS i hi)
end Go.Proofs.Ytigdkflknhdbgaa.Skp
