/- Layer 14: versions sorted by a closure, stably (slices.SortStableFunc of at most 20: one slices.insertionSortCmpFunc). -/
import Derived.Test.YtlpakooogbaclaaGa
import Derived.Test.YtlpakooogbaclaaRR
import Derived.Test.YtlpakooogbaclaaGs
import Derived.Test.YtlpakooogbaclaaBapp
import Derived.BigQuiet
import Derived.StillTailTactics
namespace Go.Proofs.Ytlpakooogbaclaa
open Go.RowKit
set_option linter.unusedVariables false

section
variable {w : World} {base g cap n : Nat} {m : List Ver}
theorem own_cells (h : OwnVr w base (.slice (some ⟨g, 0, none⟩) n cap) m) : n = m.length ∧ base ≤ g ∧ m.length ≤ cap ∧ cap ≤ maxLen ∧ ∃ cur, w.heap[g]? = some (.cells cur 50 (0, 0)) ∧ cur.size = cap * 8 ∧ ∀ j u, (verL.all m)[j]? = some u → w.cell? ⟨g, j, none⟩ = some u := by
  rcases h.2 with ⟨e, hn⟩ | ⟨g', cap', cur, e, hbg, hg, hnc, hcm, hcs, htake⟩
  · cases e
  cases e
  refine ⟨rfl, hbg, hnc, hcm, cur, hg, hcs, fun j u hu => ?_⟩
  have hj := (List.getElem?_eq_some_iff.1 hu).1
  rw [Lay.all_length] at hj
  rw [World.ownsRow.cellAt h j hj]
  exact hu

/-- A version stored in its place. -/
theorem own_set8 (h : OwnVr w base (.slice (some ⟨g, 0, none⟩) n cap) m) {k : Nat} (hk : k < m.length) (v : Ver) :
    OwnVr (w.setCells g (k * 8) (verL.enc v)) base (.slice (some ⟨g, 0, none⟩) n cap) (m.set k v) ∧ w.grownBy (w.setCells g (k * 8) (verL.enc v)) (some g) := by
  refine ⟨?_, grown_setCells g _ _ w⟩
  obtain ⟨rfl, hbg, hnc, hcm, cur, hg, hcs, hcell⟩ := own_cells h
  have hel : (verL.enc v).length = 8 := rfl
  obtain ⟨c1, hc1, hz1⟩ := heap_setCells g 50 (verL.enc v) (k * 8) w cur hg
  have hsome : ∀ j, j < cap * 8 → (w.cell? ⟨g, j, none⟩).isSome = true := fun j hj => by
    have hjc : j < cur.size := by rw [hcs]; exact hj
    rw [cell_of_row _ _ _ _ _ (0, 0) hg, Array.getElem?_eq_getElem hjc]; rfl
  have key := OwnX.of_cells (L := verL) (e := 50) (base := base) (l := m.set k v) hc1 (by rw [hz1, hcs]; rfl) (cap := cap) (by rw [List.length_set]; exact hnc) hcm hbg ?_
  · rwa [List.length_set] at key
  intro j u hu
  have hjl := (List.getElem?_eq_some_iff.1 hu).1
  rw [Lay.all_length, List.length_set, show verL.sz = 8 from rfl] at hjl
  have hspl : m.set k v = m.take k ++ v :: m.drop (k + 1) := by
    rw [List.set_eq_take_append_cons_drop, if_pos hk]
  have htl : (verL.all (m.take k)).length = k * 8 := by rw [Lay.all_length, List.length_take, Nat.min_eq_left (by omega)]; rfl
  rw [hspl, Lay.all_append, Lay.all_cons] at hu
  have hm2 : verL.all m = verL.all (m.take k) ++ (verL.enc m[k] ++ verL.all (m.drop (k + 1))) := by
    rw [← Lay.all_cons, ← List.drop_eq_getElem_cons hk, ← Lay.all_append, List.take_append_drop]
  rcases Nat.lt_or_ge j (k * 8) with h1 | h1
  · rw [World.cell?_setCells_out g _ _ w ⟨g, j, none⟩ (fun _ _ => by simp only; omega)]
    refine hcell j u ?_
    rw [List.getElem?_append_left (by omega)] at hu
    rw [hm2, List.getElem?_append_left (by omega)]
    exact hu
  · rw [List.getElem?_append_right (by omega), htl] at hu
    rcases Nat.lt_or_ge j (k * 8 + 8) with h2 | h2
    · rw [List.getElem?_append_left (by omega)] at hu
      have := World.cell?_setCells_in g (verL.enc v) (k * 8) w (fun t ht => hsome _ (by omega)) (j - k * 8) (by omega)
      rw [show k * 8 + (j - k * 8) = j from by omega] at this
      rw [this, ← hu, List.getElem?_eq_getElem]
    · rw [List.getElem?_append_right (by omega), hel] at hu
      rw [World.cell?_setCells_out g _ _ w ⟨g, j, none⟩ (fun _ _ => by simp only; omega)]
      refine hcell j u ?_
      rw [hm2, List.getElem?_append_right (by omega), htl, List.getElem?_append_right (by rw [verL.len]; show 8 ≤ _; omega), verL.len]
      exact hu
end

/-- What a closure tells of two versions, as long as A holds. -/
def AsksC (fa : Nat) (la : Array Value) (c : Ver → Ver → Int) (A : World → Prop) : Prop :=
  ∀ (a b : Ver) (W : World), A W → Calls Try.prog fa (#[verV a, verV b] ++ la) W fun e W' => e = .returned (.int .i64 (c a b)) ∧ Below W.heap.size W W'
def ltC (c : Ver → Ver → Int) (a b : Ver) : Bool := decide (c a b < 0)
theorem grown_of {g : Option Nat} {W W' : World} (h : Below W.heap.size W W') : W.grownBy W' g := ⟨h.os, h.tape, h.output, h.size, fun k hk _ => h.block k hk⟩

set_option maxHeartbeats 8000000 in
set_option maxRecDepth 100000 in
theorem p_insSort (g cap base : Nat) (l : List Ver) (fa : Nat) (la : Array Value) (c : Ver → Ver → Int) (A : World → Prop) (eg : ∀ args w, (callFunc fa args).run Try.prog w = .ok (.enter fa args) w) (hAsk : AsksC fa la c A)
    (w : World) (hAw : ∀ W, w.grownBy W (some g) → A W) (ho : OwnVr w base (.slice (some ⟨g, 0, none⟩) l.length cap) l) (hl : l.length ≤ 1000) :
    Calls Try.prog 72 #[.slice (some ⟨g, 0, none⟩) l.length cap, .int .i64 0, .int .i64 l.length, .func (.func fa) #[] la] w fun z w' => (∃ v, z = .returned v) ∧ OwnVr w' base (.slice (some ⟨g, 0, none⟩) l.length cap) (sortR (ltC c) l) ∧ w.grownBy w' (some g) := by
  have HL := Lib.hid hl
  have HAW := Lib.hid hAw
  have HAS := Lib.hid hAsk
  have O := Lib.hid ho
  clear hl hAw hAsk ho
  go_enter Try.func72, Try.ntmps72
  go_wp2_with fail
  go_loopw [8] (fun x wr => ∃ i : Nat, x = .int .i64 i ∧ 1 ≤ i ∧ i ≤ l.length + 1 ∧ OwnVr wr base (.slice (some ⟨g, 0, none⟩) l.length cap) (sortedR (ltC c) l i) ∧ w.grownBy wr (some g)) (fun x _ => l.length + 1 - (intOf x).toNat)
  case atStart => exact ⟨1, rfl, Nat.le_refl _, by omega, by rw [sorted_one]; exact O.out, World.grownBy.refl w _⟩
  case round =>
    obtain ⟨i, rfl, h1, hi, hro, hgb⟩ := hrel
    rename World => wo
    have RO := Lib.hid hro
    have GB := Lib.hid hgb
    clear hro hgb O
    by_cases hlt : i < l.length
    · have zl : decide ((i : Int) < (l.length : Int)) = true := by simp; omega
      have hw64 : IntKind.i64.wrap ((i : Int) + 1) = (i : Int) + 1 := by rw [IntKind.wrap_i64]; have := HL.out; omega
      have SW := sorted_way (lt := ltC c) hlt
      have SS := Lib.hid (sorted_step (lt := ltC c) hlt)
      have SLN : (sortR (ltC c) (l.take i)).length = i := by
        have := sorted_len (lt := ltC c) (l.take i) i
        rw [sorted_all _ (by rw [List.length_take]; omega), List.length_take] at this
        omega
      obtain ⟨v, hv⟩ : ∃ v, l[i] = v := ⟨_, rfl⟩
      rw [hv] at SW SS
      obtain ⟨s, hs⟩ : ∃ s, sortR (ltC c) (l.take i) = s := ⟨_, rfl⟩
      rw [hs] at SW SS SLN
      obtain ⟨r, hr⟩ : ∃ r, l.drop (i + 1) = r := ⟨_, rfl⟩
      have RL : s.length + 1 + r.length = l.length := by rw [SLN, ← hr, List.length_drop]; omega
      rw [hr] at SW SS
      rw [SW, SLN] at RO
      have SL := Lib.hid SLN
      have RLN := Lib.hid RL
      have WE := Lib.hid (fun j (h : j ≤ s.length) ha hb => way_end (lt := ltC c) (v := v) r h ha hb)
      clear SW SLN RL hv hs hr
      go_wp2_with fail
      go_loopw [9] (fun x wr => ∃ j : Nat, x = .int .i64 j ∧ j ≤ i ∧ (∀ (k : Nat) (hk : k < s.length), j ≤ k → ltC c v s[k] = true) ∧ OwnVr wr base (.slice (some ⟨g, 0, none⟩) l.length cap) (wayR s v r j) ∧ w.grownBy wr (some g)) (fun x _ => (intOf x).toNat)
      case atStart => exact ⟨i, rfl, Nat.le_refl _, fun k hk h => by have := SL.out; omega, RO.out, GB.out⟩
      case round =>
        obtain ⟨j, rfl, hj, hal, hro, hgb⟩ := hrel
        rename World => wi
        have AL := Lib.hid hal
        have RO := Lib.hid hro
        have GB := Lib.hid hgb
        clear hal hro hgb
        by_cases hj0 : 0 < j
        · have zj : decide ((0 : Int) < (j : Int)) = true := by simp; omega
          have hsl := SL.out
          have hrl := RLN.out
          have hll := HL.out
          have hwm : IntKind.i64.wrap ((j : Int) - 1) = ((j - 1 : Nat) : Int) := by rw [IntKind.wrap_i64]; omega
          have hjs : j - 1 < s.length := by omega
          have hwl : (wayR s v r j).length = l.length := by rw [way_len s v r (by omega)]; exact hrl
          have e1 : (wayR s v r j)[j]'(by omega) = v := by
            have := way_at s v r (j := j) (by omega)
            rw [List.getElem?_eq_getElem (by omega)] at this
            exact Option.some.inj this
          have e2 : (wayR s v r j)[j - 1]'(by omega) = s[j - 1] := by
            have := way_ahead s v r (j := j) (by omega) hj0
            rw [List.getElem?_eq_getElem (by omega), List.getElem?_eq_getElem hjs] at this
            exact Option.some.inj this
          have WS := Lib.hid (way_swap s v r (j := j - 1) hjs)
          obtain ⟨y, hy⟩ : ∃ y, s[j - 1] = y := ⟨_, rfl⟩
          rw [hy] at WS e2
          rw [show j - 1 + 1 = j from by omega] at WS
          have HY := Lib.hid hy
          obtain ⟨bL, oL, eA, -, c0, c1, c2, c3, c4, c5, c6, c7⟩ := RdVr.here RO.out.rd j (by omega)
          cases eA
          obtain ⟨bL, oL, eA, -, d0, d1, d2, d3, d4, d5, d6, d7⟩ := RdVr.here RO.out.rd (j - 1) (by omega)
          cases eA
          simp only [e1, e2, Nat.zero_add] at c0 c1 c2 c3 c4 c5 c6 c7 d0 d1 d2 d3 d4 d5 d6 d7
          have CM := Lib.hid (fun W (h : A W) => HAS.out v y W h)
          obtain ⟨cv, hcv⟩ : ∃ cv, c v y = cv := ⟨_, rfl⟩
          rw [hcv] at CM
          have HLT := Lib.hid (show ltC c v y = decide (cv < 0) from by unfold ltC; rw [hcv])
          have OS := Lib.hid (fun (W : World) (h : OwnVr W base (.slice (some ⟨g, 0, none⟩) l.length cap) (wayR s v r j)) => own_set8 h (k := j) (by omega) y)
          have OS2 := Lib.hid (fun (W : World) (h : OwnVr W base (.slice (some ⟨g, 0, none⟩) l.length cap) ((wayR s v r j).set j y)) => own_set8 h (k := j - 1) (by rw [List.length_set]; omega) v)
          rw [WS.out] at OS2
          have hji : (j : Int) < (l.length : Int) := by omega
          have hjm : ((j - 1 : Nat) : Int) < (l.length : Int) := by omega
          have AR := Lib.hid (HAW.out wi.drew (GB.out.trans ⟨rfl, rfl, rfl, Nat.le_refl _, fun _ _ _ => rfl⟩))
          obtain ⟨k1, b1, a1, s1, ⟨x1, y1⟩, u1, g1⟩ := y
          obtain ⟨k0, b0, a0, s0, ⟨x0, y0⟩, u0, g0⟩ := v
          unfold verV at CM
          simp only at *
          obtain ⟨bq, hbq⟩ : ∃ bq, decide (cv < 0) = bq := ⟨_, rfl⟩
          obtain ⟨jm, hjm2⟩ : ∃ jm, j - 1 = jm := ⟨_, rfl⟩
          rw [hjm2] at hwm d0 d1 d2 d3 d4 d5 d6 d7 hjm OS2
          go_wp2_with fail
          have HQ : (fun W => W = wi.drew) wi.drew := rfl
          refine regk_start [14] (fun W => W = wi.drew) (by kernel_rfl) ?_
          refine regk_free 0 18 (v := ?_) (T' := ?_) (fun _ => HQ) (by kernel_rfl) (by kernel_rfl) (by kernel_rfl) (by kernel_rfl) (fun _ _ _ h => h) (fun o ho => ?_) ?_ ?_
          rotate_left 2
          · cases ho
            refine ⟨rfl, rfl, fun W => ?_⟩
            go_simp; (try with_reducible rfl)
          · simp only [List.setIfInBounds_toArray, List.set_cons_succ, List.set_cons_zero]; exact rfl
          refine regk_free 1 19 (v := ?_) (T' := ?_) (fun _ => HQ) (by kernel_rfl) (by kernel_rfl) (by kernel_rfl) (by kernel_rfl) (fun _ _ _ h => h) (fun o ho => ?_) ?_ ?_
          rotate_left 2
          · cases ho
            refine ⟨rfl, rfl, fun W => ?_⟩
            go_simp; (try with_reducible rfl)
          · simp only [List.setIfInBounds_toArray, List.set_cons_succ, List.set_cons_zero]; exact rfl
          refine regk_free 2 20 (v := ?_) (T' := ?_) (fun _ => HQ) (by kernel_rfl) (by kernel_rfl) (by kernel_rfl) (by kernel_rfl) (fun _ _ _ h => h) (fun o ho => ?_) ?_ ?_
          rotate_left 2
          · cases ho
            refine ⟨rfl, rfl, fun W => ?_⟩
            go_simp; (try with_reducible rfl)
          · simp only [List.setIfInBounds_toArray, List.set_cons_succ, List.set_cons_zero]; exact rfl
          refine regk_free 3 21 (v := ?_) (T' := ?_) (fun _ => HQ) (by kernel_rfl) (by kernel_rfl) (by kernel_rfl) (by kernel_rfl) (fun _ _ _ h => h) (fun o ho => ?_) ?_ ?_
          rotate_left 2
          · cases ho
            refine ⟨rfl, rfl, fun W => ?_⟩
            go_simp; (try with_reducible rfl)
          · simp only [List.setIfInBounds_toArray, List.set_cons_succ, List.set_cons_zero]; exact rfl
          refine regk_free 4 22 (v := ?_) (T' := ?_) (fun _ => HQ) (by kernel_rfl) (by kernel_rfl) (by kernel_rfl) (by kernel_rfl) (fun _ _ _ h => h) (fun o ho => ?_) ?_ ?_
          rotate_left 2
          · cases ho
            refine ⟨rfl, rfl, fun W => ?_⟩
            go_simp; (try with_reducible rfl)
          · simp only [List.setIfInBounds_toArray, List.set_cons_succ, List.set_cons_zero]; exact rfl
          refine regk_free 5 23 (v := ?_) (T' := ?_) (fun _ => HQ) (by kernel_rfl) (by kernel_rfl) (by kernel_rfl) (by kernel_rfl) (fun _ _ _ h => h) (fun o ho => ?_) ?_ ?_
          rotate_left 2
          · cases ho
            refine ⟨rfl, rfl, fun W => ?_⟩
            go_simp; (try with_reducible rfl)
          · simp only [List.setIfInBounds_toArray, List.set_cons_succ, List.set_cons_zero]; exact rfl
          refine regk_free 6 24 (v := ?_) (T' := ?_) (fun _ => HQ) (by kernel_rfl) (by kernel_rfl) (by kernel_rfl) (by kernel_rfl) (fun _ _ _ h => h) (fun o ho => ?_) ?_ ?_
          rotate_left 2
          · cases ho
            refine ⟨rfl, rfl, fun W => ?_⟩
            go_simp; (try with_reducible rfl)
          · simp only [List.setIfInBounds_toArray, List.set_cons_succ, List.set_cons_zero]; exact rfl
          refine regk_free 7 25 (v := ?_) (T' := ?_) (fun _ => HQ) (by kernel_rfl) (by kernel_rfl) (by kernel_rfl) (by kernel_rfl) (fun _ _ _ h => h) (fun o ho => ?_) ?_ ?_
          rotate_left 2
          · cases ho
            refine ⟨rfl, rfl, fun W => ?_⟩
            go_simp; (try with_reducible rfl)
          · simp only [List.setIfInBounds_toArray, List.set_cons_succ, List.set_cons_zero]; exact rfl
          refine regk_take 8 26 (v := ?_) (T' := ?_) HQ (by kernel_rfl) (by kernel_rfl) (by kernel_rfl) (by kernel_rfl) (by kernel_rfl) (by kernel_rfl) (fun _ _ _ h => h) (fun o ho => ?_) ?_ ?_
          rotate_left 2
          · cases ho
            refine ⟨rfl, rfl, fun W hW => ?_⟩
            have hW := (show W = _ from hW); subst hW; go_simp; (try with_reducible rfl)
          · simp only [List.setIfInBounds_toArray, List.set_cons_succ, List.set_cons_zero]; exact rfl
          refine regk_free 9 27 (v := ?_) (T' := ?_) (fun _ => HQ) (by kernel_rfl) (by kernel_rfl) (by kernel_rfl) (by kernel_rfl) (fun _ _ _ h => h) (fun o ho => ?_) ?_ ?_
          rotate_left 2
          · cases ho
            refine ⟨rfl, rfl, fun W => ?_⟩
            go_simp; (try with_reducible rfl)
          · simp only [List.setIfInBounds_toArray, List.set_cons_succ, List.set_cons_zero]; exact rfl
          refine regk_free 10 28 (v := ?_) (T' := ?_) (fun _ => HQ) (by kernel_rfl) (by kernel_rfl) (by kernel_rfl) (by kernel_rfl) (fun _ _ _ h => h) (fun o ho => ?_) ?_ ?_
          rotate_left 2
          · cases ho
            refine ⟨rfl, rfl, fun W => ?_⟩
            go_simp; (try with_reducible rfl)
          · simp only [List.setIfInBounds_toArray, List.set_cons_succ, List.set_cons_zero]; exact rfl
          refine regk_free 11 29 (v := ?_) (T' := ?_) (fun _ => HQ) (by kernel_rfl) (by kernel_rfl) (by kernel_rfl) (by kernel_rfl) (fun _ _ _ h => h) (fun o ho => ?_) ?_ ?_
          rotate_left 2
          · cases ho
            refine ⟨rfl, rfl, fun W => ?_⟩
            go_simp; (try with_reducible rfl)
          · simp only [List.setIfInBounds_toArray, List.set_cons_succ, List.set_cons_zero]; exact rfl
          refine regk_free 12 30 (v := ?_) (T' := ?_) (fun _ => HQ) (by kernel_rfl) (by kernel_rfl) (by kernel_rfl) (by kernel_rfl) (fun _ _ _ h => h) (fun o ho => ?_) ?_ ?_
          rotate_left 2
          · cases ho
            refine ⟨rfl, rfl, fun W => ?_⟩
            go_simp; (try with_reducible rfl)
          · simp only [List.setIfInBounds_toArray, List.set_cons_succ, List.set_cons_zero]; exact rfl
          refine regk_take 13 31 (v := ?_) (T' := ?_) HQ (by kernel_rfl) (by kernel_rfl) (by kernel_rfl) (by kernel_rfl) (by kernel_rfl) (by kernel_rfl) (fun _ _ _ h => h) (fun o ho => ?_) ?_ ?_
          rotate_left 2
          · cases ho
            refine ⟨rfl, rfl, fun W hW => ?_⟩
            have hW := (show W = _ from hW); subst hW; go_simp; (try with_reducible rfl)
          · simp only [List.setIfInBounds_toArray, List.set_cons_succ, List.set_cons_zero]; exact rfl
          refine regk_call (I' := (fun W => W = wi.drew)) (fun _ h => h) 14 32 (by kernel_rfl) fa (#[.agg #[.string k0, .int .i64 b0, .int .i64 a0, .int .i64 s0, .int .i64 x0, .int .i64 y0, .string u0, .bool g0], .agg #[.string k1, .int .i64 b1, .int .i64 a1, .int .i64 s1, .int .i64 x1, .int .i64 y1, .string u1, .bool g1]] ++ la) (fun o ho => by cases ho; exact ⟨rfl, rfl, fun W => by go_simp⟩) ?_
          refine (CM.out _ AR.out).mono ?_
          rintro e w5 ⟨rfl, hb5⟩
          have G5 := Lib.hid hb5
          clear hb5
          refine ⟨_, _, rfl, noB_no (by kernel_rfl), (by simp only [List.setIfInBounds_toArray, List.set_cons_succ, List.set_cons_zero]; exact rfl), ?_⟩
          refine regk_free 15 33 (v := ?_) (T' := ?_) (noB_no (by kernel_rfl)) (by kernel_rfl) (by kernel_rfl) (by kernel_rfl) (by kernel_rfl) (fun _ _ _ h => h) (fun o ho => ?_) ?_ ?_
          rotate_left 2
          · cases ho
            refine ⟨rfl, rfl, fun W => ?_⟩
            go_simp; (try with_reducible rfl)
          · simp only [List.setIfInBounds_toArray, List.set_cons_succ, List.set_cons_zero]; exact rfl
          refine regk_free 16 34 (v := ?_) (T' := ?_) (noB_no (by kernel_rfl)) (by kernel_rfl) (by kernel_rfl) (by kernel_rfl) (by kernel_rfl) (fun _ _ _ h => h) (fun o ho => ?_) ?_ ?_
          rotate_left 2
          · cases ho
            refine ⟨rfl, rfl, fun W => ?_⟩
            go_simp; (try with_reducible rfl)
          · simp only [List.setIfInBounds_toArray, List.set_cons_succ, List.set_cons_zero]; exact rfl
          refine regk_done (by kernel_rfl) ?_
          have OW := Lib.hid (show OwnVr w5 base (.slice (some ⟨g, 0, none⟩) l.length cap) (wayR s ⟨k0, b0, a0, s0, (x0, y0), u0, g0⟩ r j) from RO.out.on (show Below wi.heap.size wi w5 from ((Below.refl _ wi).drewN 1).trans G5.out))
          have GB := Lib.hid (GB.out.trans (grown_of (g := some g) (show Below wi.heap.size wi w5 from ((Below.refl _ wi).drewN 1).trans G5.out)))
          clear c0 c1 c2 c3 c4 c5 c6 c7 d0 d1 d2 d3 d4 d5 d6 d7
          have HBQ := Lib.hid hbq
          have JM := Lib.hid hjm2
          clear hbq
          cases bq
          · have EN := Lib.hid (show OwnVr w5 base (.slice (some ⟨g, 0, none⟩) l.length cap) (sortedR (ltC c) l (i + 1)) from by
              rw [← SS.out, ← WE.out j (by omega) (fun k hk h => AL.out k hk h) (fun h _ => by
                have : s[j - 1] = _ := HY.out
                rw [this, HLT.out, HBQ.out])]
              exact OW.out)
            clear e1 e2
            go_wp2_with fail
            go_roundw
            case rel => exact ⟨i + 1, by go_num, by omega, by omega, EN.out, GB.out⟩
            case measure => simp [intOf]; omega
          · obtain ⟨bL, oL, eA, -, c0, c1, c2, c3, c4, c5, c6, c7⟩ := RdVr.here OW.out.rd j (by omega)
            cases eA
            obtain ⟨bL, oL, eA, -, d0, d1, d2, d3, d4, d5, d6, d7⟩ := RdVr.here OW.out.rd (j - 1) (by omega)
            cases eA
            simp only [e1, e2, Nat.zero_add] at c0 c1 c2 c3 c4 c5 c6 c7 d0 d1 d2 d3 d4 d5 d6 d7
            rw [hjm2] at d0 d1 d2 d3 d4 d5 d6 d7
            have fz : ∀ k, w5.frozen? ⟨g, k, none⟩ = false := fun k => OW.out.frozen k
            have O1 := Lib.hid (OS.out w5.drew OW.out)
            have JJ := Lib.hid (show jm < l.length ∧ jm < s.length ∧ jm + 1 = j from by omega)
            have WL := Lib.hid hwl
            clear e1 e2 hwl
            go_wp2_with fail
            have HQ : (fun W => W = w5.drew) w5.drew := rfl
            refine regk_start [15, 17] (fun W => W = w5.drew) (by kernel_rfl) ?_
            refine regk_free 0 37 (v := ?_) (T' := ?_) (fun _ => HQ) (by kernel_rfl) (by kernel_rfl) (by kernel_rfl) (by kernel_rfl) (fun _ _ _ h => h) (fun o ho => ?_) ?_ ?_
            rotate_left 2
            · cases ho
              refine ⟨rfl, rfl, fun W => ?_⟩
              go_simp; (try with_reducible rfl)
            · simp only [List.setIfInBounds_toArray, List.set_cons_succ, List.set_cons_zero]; exact rfl
            refine regk_free 1 38 (v := ?_) (T' := ?_) (fun _ => HQ) (by kernel_rfl) (by kernel_rfl) (by kernel_rfl) (by kernel_rfl) (fun _ _ _ h => h) (fun o ho => ?_) ?_ ?_
            rotate_left 2
            · cases ho
              refine ⟨rfl, rfl, fun W => ?_⟩
              go_simp; (try with_reducible rfl)
            · simp only [List.setIfInBounds_toArray, List.set_cons_succ, List.set_cons_zero]; exact rfl
            refine regk_free 2 39 (v := ?_) (T' := ?_) (fun _ => HQ) (by kernel_rfl) (by kernel_rfl) (by kernel_rfl) (by kernel_rfl) (fun _ _ _ h => h) (fun o ho => ?_) ?_ ?_
            rotate_left 2
            · cases ho
              refine ⟨rfl, rfl, fun W => ?_⟩
              go_simp; (try with_reducible rfl)
            · simp only [List.setIfInBounds_toArray, List.set_cons_succ, List.set_cons_zero]; exact rfl
            refine regk_free 3 40 (v := ?_) (T' := ?_) (fun _ => HQ) (by kernel_rfl) (by kernel_rfl) (by kernel_rfl) (by kernel_rfl) (fun _ _ _ h => h) (fun o ho => ?_) ?_ ?_
            rotate_left 2
            · cases ho
              refine ⟨rfl, rfl, fun W => ?_⟩
              go_simp; (try with_reducible rfl)
            · simp only [List.setIfInBounds_toArray, List.set_cons_succ, List.set_cons_zero]; exact rfl
            refine regk_free 4 41 (v := ?_) (T' := ?_) (fun _ => HQ) (by kernel_rfl) (by kernel_rfl) (by kernel_rfl) (by kernel_rfl) (fun _ _ _ h => h) (fun o ho => ?_) ?_ ?_
            rotate_left 2
            · cases ho
              refine ⟨rfl, rfl, fun W => ?_⟩
              go_simp; (try with_reducible rfl)
            · simp only [List.setIfInBounds_toArray, List.set_cons_succ, List.set_cons_zero]; exact rfl
            refine regk_free 5 42 (v := ?_) (T' := ?_) (fun _ => HQ) (by kernel_rfl) (by kernel_rfl) (by kernel_rfl) (by kernel_rfl) (fun _ _ _ h => h) (fun o ho => ?_) ?_ ?_
            rotate_left 2
            · cases ho
              refine ⟨rfl, rfl, fun W => ?_⟩
              go_simp; (try with_reducible rfl)
            · simp only [List.setIfInBounds_toArray, List.set_cons_succ, List.set_cons_zero]; exact rfl
            refine regk_free 6 43 (v := ?_) (T' := ?_) (fun _ => HQ) (by kernel_rfl) (by kernel_rfl) (by kernel_rfl) (by kernel_rfl) (fun _ _ _ h => h) (fun o ho => ?_) ?_ ?_
            rotate_left 2
            · cases ho
              refine ⟨rfl, rfl, fun W => ?_⟩
              go_simp; (try with_reducible rfl)
            · simp only [List.setIfInBounds_toArray, List.set_cons_succ, List.set_cons_zero]; exact rfl
            refine regk_free 7 44 (v := ?_) (T' := ?_) (fun _ => HQ) (by kernel_rfl) (by kernel_rfl) (by kernel_rfl) (by kernel_rfl) (fun _ _ _ h => h) (fun o ho => ?_) ?_ ?_
            rotate_left 2
            · cases ho
              refine ⟨rfl, rfl, fun W => ?_⟩
              go_simp; (try with_reducible rfl)
            · simp only [List.setIfInBounds_toArray, List.set_cons_succ, List.set_cons_zero]; exact rfl
            refine regk_free 8 45 (v := ?_) (T' := ?_) (fun _ => HQ) (by kernel_rfl) (by kernel_rfl) (by kernel_rfl) (by kernel_rfl) (fun _ _ _ h => h) (fun o ho => ?_) ?_ ?_
            rotate_left 2
            · cases ho
              refine ⟨rfl, rfl, fun W => ?_⟩
              go_simp; (try with_reducible rfl)
            · simp only [List.setIfInBounds_toArray, List.set_cons_succ, List.set_cons_zero]; exact rfl
            refine regk_take 9 46 (v := ?_) (T' := ?_) HQ (by kernel_rfl) (by kernel_rfl) (by kernel_rfl) (by kernel_rfl) (by kernel_rfl) (by kernel_rfl) (fun _ _ _ h => h) (fun o ho => ?_) ?_ ?_
            rotate_left 2
            · cases ho
              refine ⟨rfl, rfl, fun W hW => ?_⟩
              have hW := (show W = _ from hW); subst hW; go_simp; (try with_reducible rfl)
            · simp only [List.setIfInBounds_toArray, List.set_cons_succ, List.set_cons_zero]; exact rfl
            refine regk_free 10 47 (v := ?_) (T' := ?_) (fun _ => HQ) (by kernel_rfl) (by kernel_rfl) (by kernel_rfl) (by kernel_rfl) (fun _ _ _ h => h) (fun o ho => ?_) ?_ ?_
            rotate_left 2
            · cases ho
              refine ⟨rfl, rfl, fun W => ?_⟩
              go_simp; (try with_reducible rfl)
            · simp only [List.setIfInBounds_toArray, List.set_cons_succ, List.set_cons_zero]; exact rfl
            refine regk_free 11 48 (v := ?_) (T' := ?_) (fun _ => HQ) (by kernel_rfl) (by kernel_rfl) (by kernel_rfl) (by kernel_rfl) (fun _ _ _ h => h) (fun o ho => ?_) ?_ ?_
            rotate_left 2
            · cases ho
              refine ⟨rfl, rfl, fun W => ?_⟩
              go_simp; (try with_reducible rfl)
            · simp only [List.setIfInBounds_toArray, List.set_cons_succ, List.set_cons_zero]; exact rfl
            refine regk_free 12 49 (v := ?_) (T' := ?_) (fun _ => HQ) (by kernel_rfl) (by kernel_rfl) (by kernel_rfl) (by kernel_rfl) (fun _ _ _ h => h) (fun o ho => ?_) ?_ ?_
            rotate_left 2
            · cases ho
              refine ⟨rfl, rfl, fun W => ?_⟩
              go_simp; (try with_reducible rfl)
            · simp only [List.setIfInBounds_toArray, List.set_cons_succ, List.set_cons_zero]; exact rfl
            refine regk_take 13 50 (v := ?_) (T' := ?_) HQ (by kernel_rfl) (by kernel_rfl) (by kernel_rfl) (by kernel_rfl) (by kernel_rfl) (by kernel_rfl) (fun _ _ _ h => h) (fun o ho => ?_) ?_ ?_
            rotate_left 2
            · cases ho
              refine ⟨rfl, rfl, fun W hW => ?_⟩
              have hW := (show W = _ from hW); subst hW; go_simp; (try with_reducible rfl)
            · simp only [List.setIfInBounds_toArray, List.set_cons_succ, List.set_cons_zero]; exact rfl
            refine regk_free 14 51 (v := ?_) (T' := ?_) (fun _ => HQ) (by kernel_rfl) (by kernel_rfl) (by kernel_rfl) (by kernel_rfl) (fun _ _ _ h => h) (fun o ho => ?_) ?_ ?_
            rotate_left 2
            · cases ho
              refine ⟨rfl, rfl, fun W => ?_⟩
              go_simp; (try with_reducible rfl)
            · simp only [List.setIfInBounds_toArray, List.set_cons_succ, List.set_cons_zero]; exact rfl
            refine regk_store (I' := (fun W => W = w5.drew)) (fun _ h => h) 15 (w' := ((((((((w5.drew.setCell ⟨g, j * 8, none⟩ (.string k1)).setCell ⟨g, j * 8 + 1, none⟩ (.int .i64 b1)).setCell ⟨g, j * 8 + 2, none⟩ (.int .i64 a1)).setCell ⟨g, j * 8 + 3, none⟩ (.int .i64 s1)).setCell ⟨g, j * 8 + 4, none⟩ (.int .i64 x1)).setCell ⟨g, j * 8 + 5, none⟩ (.int .i64 y1)).setCell ⟨g, j * 8 + 6, none⟩ (.string u1)).setCell ⟨g, j * 8 + 7, none⟩ (.bool g1))) (by kernel_rfl) (fun o ho => ?_) (noB_no (by kernel_rfl)) ?_
            · cases ho
              refine ⟨rfl, rfl, ?_⟩
              go_simp; (try with_reducible rfl)
            have P1 := Lib.hid (show OwnVr ((((((((w5.drew.setCell ⟨g, j * 8, none⟩ (.string k1)).setCell ⟨g, j * 8 + 1, none⟩ (.int .i64 b1)).setCell ⟨g, j * 8 + 2, none⟩ (.int .i64 a1)).setCell ⟨g, j * 8 + 3, none⟩ (.int .i64 s1)).setCell ⟨g, j * 8 + 4, none⟩ (.int .i64 x1)).setCell ⟨g, j * 8 + 5, none⟩ (.int .i64 y1)).setCell ⟨g, j * 8 + 6, none⟩ (.string u1)).setCell ⟨g, j * 8 + 7, none⟩ (.bool g1)) base (.slice (some ⟨g, 0, none⟩) l.length cap) ((wayR s ⟨k0, b0, a0, s0, (x0, y0), u0, g0⟩ r j).set j ⟨k1, b1, a1, s1, (x1, y1), u1, g1⟩) from O1.out.1)
            have P2 := Lib.hid (show w5.drew.grownBy ((((((((w5.drew.setCell ⟨g, j * 8, none⟩ (.string k1)).setCell ⟨g, j * 8 + 1, none⟩ (.int .i64 b1)).setCell ⟨g, j * 8 + 2, none⟩ (.int .i64 a1)).setCell ⟨g, j * 8 + 3, none⟩ (.int .i64 s1)).setCell ⟨g, j * 8 + 4, none⟩ (.int .i64 x1)).setCell ⟨g, j * 8 + 5, none⟩ (.int .i64 y1)).setCell ⟨g, j * 8 + 6, none⟩ (.string u1)).setCell ⟨g, j * 8 + 7, none⟩ (.bool g1)) (some g) from O1.out.2)
            clear O1 fz c0 c1 c2 c3 c4 c5 c6 c7 d0 d1 d2 d3 d4 d5 d6 d7
            generalize ((((((((w5.drew.setCell ⟨g, j * 8, none⟩ (.string k1)).setCell ⟨g, j * 8 + 1, none⟩ (.int .i64 b1)).setCell ⟨g, j * 8 + 2, none⟩ (.int .i64 a1)).setCell ⟨g, j * 8 + 3, none⟩ (.int .i64 s1)).setCell ⟨g, j * 8 + 4, none⟩ (.int .i64 x1)).setCell ⟨g, j * 8 + 5, none⟩ (.int .i64 y1)).setCell ⟨g, j * 8 + 6, none⟩ (.string u1)).setCell ⟨g, j * 8 + 7, none⟩ (.bool g1)) = Wa at *
            obtain ⟨bL, oL, eA, -, d0, d1, d2, d3, d4, d5, d6, d7⟩ := RdVr.here P1.out.rd jm (by rw [List.length_set, WL.out]; exact JJ.out.1)
            cases eA
            simp only [Nat.zero_add] at d0 d1 d2 d3 d4 d5 d6 d7
            have fz : ∀ k, Wa.frozen? ⟨g, k, none⟩ = false := fun k => P1.out.frozen k
            have O2 := Lib.hid (OS2.out Wa P1.out)
            refine regk_free 16 52 (v := ?_) (T' := ?_) (noB_no (by kernel_rfl)) (by kernel_rfl) (by kernel_rfl) (by kernel_rfl) (by kernel_rfl) (fun _ _ _ h => h) (fun o ho => ?_) ?_ ?_
            rotate_left 2
            · cases ho
              refine ⟨rfl, rfl, fun W => ?_⟩
              go_simp; (try with_reducible rfl)
            · simp only [List.setIfInBounds_toArray, List.set_cons_succ, List.set_cons_zero]; exact rfl
            refine regk_store (I' := (fun W => W = w5.drew)) (fun _ h => h) 17 (w' := ((((((((Wa.setCell ⟨g, jm * 8, none⟩ (.string k0)).setCell ⟨g, jm * 8 + 1, none⟩ (.int .i64 b0)).setCell ⟨g, jm * 8 + 2, none⟩ (.int .i64 a0)).setCell ⟨g, jm * 8 + 3, none⟩ (.int .i64 s0)).setCell ⟨g, jm * 8 + 4, none⟩ (.int .i64 x0)).setCell ⟨g, jm * 8 + 5, none⟩ (.int .i64 y0)).setCell ⟨g, jm * 8 + 6, none⟩ (.string u0)).setCell ⟨g, jm * 8 + 7, none⟩ (.bool g0))) (by kernel_rfl) (fun o ho => ?_) (noB_no (by kernel_rfl)) ?_
            · cases ho
              refine ⟨rfl, rfl, ?_⟩
              go_simp; (try with_reducible rfl)
            have Q1 := Lib.hid (show OwnVr ((((((((Wa.setCell ⟨g, jm * 8, none⟩ (.string k0)).setCell ⟨g, jm * 8 + 1, none⟩ (.int .i64 b0)).setCell ⟨g, jm * 8 + 2, none⟩ (.int .i64 a0)).setCell ⟨g, jm * 8 + 3, none⟩ (.int .i64 s0)).setCell ⟨g, jm * 8 + 4, none⟩ (.int .i64 x0)).setCell ⟨g, jm * 8 + 5, none⟩ (.int .i64 y0)).setCell ⟨g, jm * 8 + 6, none⟩ (.string u0)).setCell ⟨g, jm * 8 + 7, none⟩ (.bool g0)) base (.slice (some ⟨g, 0, none⟩) l.length cap) (wayR s ⟨k0, b0, a0, s0, (x0, y0), u0, g0⟩ r jm) from O2.out.1)
            have Q2 := Lib.hid (show Wa.grownBy ((((((((Wa.setCell ⟨g, jm * 8, none⟩ (.string k0)).setCell ⟨g, jm * 8 + 1, none⟩ (.int .i64 b0)).setCell ⟨g, jm * 8 + 2, none⟩ (.int .i64 a0)).setCell ⟨g, jm * 8 + 3, none⟩ (.int .i64 s0)).setCell ⟨g, jm * 8 + 4, none⟩ (.int .i64 x0)).setCell ⟨g, jm * 8 + 5, none⟩ (.int .i64 y0)).setCell ⟨g, jm * 8 + 6, none⟩ (.string u0)).setCell ⟨g, jm * 8 + 7, none⟩ (.bool g0)) (some g) from O2.out.2)
            clear O2
            generalize ((((((((Wa.setCell ⟨g, jm * 8, none⟩ (.string k0)).setCell ⟨g, jm * 8 + 1, none⟩ (.int .i64 b0)).setCell ⟨g, jm * 8 + 2, none⟩ (.int .i64 a0)).setCell ⟨g, jm * 8 + 3, none⟩ (.int .i64 s0)).setCell ⟨g, jm * 8 + 4, none⟩ (.int .i64 x0)).setCell ⟨g, jm * 8 + 5, none⟩ (.int .i64 y0)).setCell ⟨g, jm * 8 + 6, none⟩ (.string u0)).setCell ⟨g, jm * 8 + 7, none⟩ (.bool g0)) = Wb at *
            refine regk_done (by kernel_rfl) ?_
            clear d0 d1 d2 d3 d4 d5 d6 d7 fz
            go_wp2_with fail
            go_roundw
            case rel => exact ⟨jm, rfl, by have := JJ.out; omega, fun k hk h => by
              rcases Nat.lt_or_ge k j with h3 | h3
              · have h4 : k = j - 1 := by have := JJ.out; omega
                subst h4
                have : s[j - 1] = _ := HY.out
                rw [this, HLT.out, HBQ.out]
              · exact AL.out k hk h3, Q1.out, ((GB.out.trans (grown_of ((Below.refl _ w5).drewN 1))).trans P2.out).trans Q2.out⟩
            case measure => simp [intOf]; have := JJ.out; omega
        · have hj2 : j = 0 := by omega
          subst hj2
          have zj : decide ((0 : Int) < ((0 : Nat) : Int)) = false := by simp
          have EN := Lib.hid (show OwnVr wi base (.slice (some ⟨g, 0, none⟩) l.length cap) (sortedR (ltC c) l (i + 1)) from by
            rw [← SS.out, ← WE.out 0 (Nat.zero_le _) (fun k hk _ => AL.out k hk (Nat.zero_le _)) (fun _ h => absurd h (Nat.lt_irrefl _))]
            exact RO.out)
          clear hj0
          go_wp2_with fail
          go_quiet (fail)
          go_wp2_with fail
          go_roundw
          case rel => exact ⟨i + 1, by go_num, by omega, by omega, EN.out.on ((Below.refl _ wi).drewN nq), GB.out.trans (grown_of ((Below.refl _ wi).drewN nq))⟩
          case measure => simp [intOf]; omega
    · have hil : l.length ≤ i := by omega
      have zl : decide ((i : Int) < (l.length : Int)) = false := by rw [decide_eq_false_iff_not]; omega
      have EN := Lib.hid (show OwnVr wo base (.slice (some ⟨g, 0, none⟩) l.length cap) (sortR (ltC c) l) from by rw [← sorted_all l hil]; exact RO.out)
      clear hlt
      go_wp2_with fail
      refine bodyPost_end (v := .tuple #[]) (results_none rfl _ _ _) rfl ?_
      exact ⟨⟨_, rfl⟩, EN.out, GB.out⟩
end Go.Proofs.Ytlpakooogbaclaa
