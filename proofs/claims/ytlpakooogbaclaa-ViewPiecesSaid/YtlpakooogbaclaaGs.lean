/- Layer 8: a block out of versions, by the document, and what its versions have of those that are handed in (Q). -/
import Derived.Test.YtlpakooogbaclaaGf
import Derived.BigQuiet
namespace Go.Proofs.Ytlpakooogbaclaa
open Go.RowKit
set_option linter.unusedVariables false

abbrev OwnVr (w : World) (base : Nat) (v : Value) (l : List Ver) : Prop := OwnX verL 50 w base v l
theorem cut_key (v : Ver) : (cutV v).key.size ≤ 110 := by
  unfold cutV
  simp only
  split
  · rw [ByteArray.size_extract]; omega
  · omega
def mayQ (Q : Ver → Prop) (x : Ver) : Prop := mayV x = true ∧ Q x

/-- Is the version at i one that may be, and behind the one ahead? -/
def okAt (l : List Ver) (i : Nat) : Bool := mayV (l.getD i zeroV) && (decide (i = 0) || lessV (l.getD (i - 1) zeroV) (l.getD i zeroV))

def okTo (l : List Ver) (k : Nat) : Bool := (List.range k).all (okAt l)

theorem okTo_succ (l : List Ver) (k : Nat) : okTo l (k + 1) = (okTo l k && okAt l k) := by
  unfold okTo; rw [List.range_succ, List.all_append]; simp

theorem okTo_at {l : List Ver} {k n : Nat} (h : okTo l n = true) (hk : k < n) : okAt l k = true := by
  unfold okTo at h
  rw [List.all_eq_true] at h
  exact h k (List.mem_range.2 hk)

theorem getD_at {l : List Ver} {i : Nat} (h : i < l.length) : l.getD i zeroV = l[i] := by
  rw [List.getD_eq_getElem?_getD, List.getElem?_eq_getElem h]; rfl

theorem okTo_snoc {acc : List Ver} {p : Ver} (h : okTo acc acc.length = true) (hm : mayV p = true) (hl : acc.length = 0 ∨ lessV (acc.getD (acc.length - 1) zeroV) p = true) : okTo (acc ++ [p]) (acc ++ [p]).length = true := by
  have hg : ∀ i, i < acc.length → (acc ++ [p]).getD i zeroV = acc.getD i zeroV := fun i hi => by
    rw [List.getD_eq_getElem?_getD, List.getD_eq_getElem?_getD, List.getElem?_append_left hi]
  have hp : (acc ++ [p]).getD acc.length zeroV = p := by rw [List.getD_eq_getElem?_getD, List.getElem?_concat_length]; rfl
  rw [List.length_append, List.length_singleton, okTo_succ, Bool.and_eq_true]
  constructor
  · unfold okTo at *
    rw [List.all_eq_true] at *
    intro i hi
    have := h i hi
    rw [List.mem_range] at hi
    unfold okAt at *
    rw [hg i hi]
    by_cases h0 : i = 0
    · subst h0; simpa using this
    · rw [hg (i - 1) (by omega)]; exact this
  · unfold okAt
    rw [hp, hm, Bool.true_and]
    rcases hl with h0 | h0
    · simp [h0]
    · by_cases hz : acc.length = 0
      · simp [hz]
      · rw [hg (acc.length - 1) (by omega), h0, Bool.or_true]

def okQ (Q : Ver → Prop) (acc : List Ver) : Prop := okTo acc acc.length = true ∧ ∀ x ∈ acc, Q x
theorem okQ_nil (Q : Ver → Prop) : okQ Q [] := ⟨rfl, fun x hx => by cases hx⟩
theorem okQ_snoc {Q : Ver → Prop} {acc : List Ver} {p : Ver} (h : okQ Q acc) (hm : mayQ Q p) (hl : acc.length = 0 ∨ lessV (acc.getD (acc.length - 1) zeroV) p = true) : okQ Q (acc ++ [p]) :=
  ⟨okTo_snoc h.1 hm.1 hl, fun x hx => (List.mem_append.1 hx).elim (h.2 x) fun h2 => by rw [List.mem_singleton.1 h2]; exact hm.2⟩

set_option maxHeartbeats 8000000 in
set_option maxRecDepth 100000 in
/-- Versions that may be, at most so many. -/
theorem ref6_good (va : Value) (l : List Ver) (most : Int) (w : World) (ha : RdVr w w.heap.size va l) (hm : 0 ≤ most ∧ most ≤ 1000) {Q : Ver → Prop} (hQ : ∀ v ∈ l, Q (cutV v)) :
    Calls Try.prog 53 #[va, .int .i64 most] w fun e w' => ∃ v' out, e = .returned v' ∧ OwnVr w' w.heap.size v' out ∧ (out.length : Int) ≤ most ∧ (∀ x ∈ out, mayQ Q x) ∧ Below w.heap.size w w' := by
  have HA := Lib.hid ha
  obtain ⟨A, ca, rfl, hla, hca, -⟩ := ha
  go_enter Try.func53, Try.ntmps53
  go_wp2_with fail
  go_loopw [5, 6] (fun x i wr => ∃ (k : Nat) (acc : List Ver), i = .int .i64 k ∧ k ≤ l.length ∧ OwnVr wr w.heap.size x acc ∧ (acc.length : Int) ≤ most ∧ (∀ x ∈ acc, mayQ Q x) ∧ Below w.heap.size w wr) (fun _ i _ => l.length - (intOf i).toNat)
  case atStart => exact ⟨0, [], rfl, Nat.zero_le _, OwnX.nil _ _, by simpa using hm.1, by simp, Below.refl _ _⟩
  case round =>
    obtain ⟨k, acc, rfl, hk, ho, hal, hmy, hbw⟩ := hrel
    have O := Lib.hid ho
    have HMY := Lib.hid hmy
    have G := Lib.hid hbw
    obtain ⟨OA, oc, eo, -⟩ := ho.rd
    subst eo
    clear ho hmy hbw
    by_cases hlt : k < l.length
    · have zl : decide ((k : Int) < (l.length : Int)) = true := by simp; omega
      by_cases hf : (acc.length : Int) < most
      · have zf : decide ((acc.length : Int) < most) = true := decide_eq_true hf
        obtain ⟨b, o, rfl, hbb, c0, c1, c2, c3, c4, c5, c6, c7⟩ := RdVr.here (HA.out.below G.out) k hlt
        have CV := Lib.hid (fun w => ref6_cut l[k] w)
        have MV := Lib.hid (fun w => ref6_may (cutV l[k]) w (Nat.le_trans (cut_key l[k]) (by decide)))
        have QV := Lib.hid (hQ l[k] (List.getElem_mem hlt))
        generalize l[k] = p at *
        generalize cutV p = q at *
        obtain ⟨kk, bb, ee, ss, ⟨xx, yy⟩, uu, gg⟩ := p
        obtain ⟨kq, bq, eq, sq, ⟨xq, yq⟩, uq, gq⟩ := q
        unfold verV at CV MV
        simp only at CV MV c0 c1 c2 c3 c4 c5 c6 c7
        go_wp2_with fail
        refine (CV.out _).mono ?_
        rintro e w2 ⟨rfl, hb2⟩
        have G2 := Lib.hid ((G.out.trans (hb2.mono G.out.size)).alloc (Nat.le_trans G.out.size hb2.size) (.cells #[.string kq, .int .i64 bq, .int .i64 eq, .int .i64 sq, .int .i64 xq, .int .i64 yq, .string uq, .bool gq] 50))
        have O2 := Lib.hid ((O.out.on hb2).on (alloc_below w2 (.cells #[.string kq, .int .i64 bq, .int .i64 eq, .int .i64 sq, .int .i64 xq, .int .i64 yq, .string uq, .bool gq] 50)))
        have BX := Lib.hid (Box.new w2 #[.string kq, .int .i64 bq, .int .i64 eq, .int .i64 sq, .int .i64 xq, .int .i64 yq, .string uq, .bool gq] 50 _ rfl)
        clear hb2 c0 c1 c2 c3 c4 c5 c6 c7
        go_wp2_with fail
        refine (MV.out _).mono ?_
        rintro e w3 ⟨rfl, hb3⟩
        have G3 := Lib.hid (G2.out.trans (hb3.mono G2.out.size))
        have O3 := Lib.hid (O2.out.on hb3)
        have BX3 := Lib.hid (BX.out.later hb3)
        clear hb3 G2 O2 BX
        cases hmq : mayV ⟨kq, bq, eq, sq, (xq, yq), uq, gq⟩
        · clear hmq
          go_wp2_with fail
          go_roundw
          case rel => exact ⟨k + 1, acc, by go_num, by omega, O3.out, hal, HMY.out, G3.out⟩
          case measure => simp [intOf]; omega
        · have HMQ := Lib.hid hmq
          have c0 := BX3.out.cell 0 (.string kq) rfl
          have c1 := BX3.out.cell 1 (.int .i64 bq) rfl
          have c2 := BX3.out.cell 2 (.int .i64 eq) rfl
          have c3 := BX3.out.cell 3 (.int .i64 sq) rfl
          have c4 := BX3.out.cell 4 (.int .i64 xq) rfl
          have c5 := BX3.out.cell 5 (.int .i64 yq) rfl
          have c6 := BX3.out.cell 6 (.string uq) rfl
          have c7 := BX3.out.cell 7 (.bool gq) rfl
          have hal1 := Lib.hid (show acc.length + 1 ≤ 1000000000 from by omega)
          have hsz := Lib.hid G3.out.size
          clear hmq
          go_wp2_with (at_builtin; go_loud (refine wpl_appX rfl (.tmp 29) (.tmp 31) rfl Try.underlying22 ver_info rfl w.heap.size _ acc [(⟨kq, bq, eq, sq, (xq, yq), uq, gq⟩ : Ver)] _ _ _ rfl rfl rfl rfl O3.out hsz.out hal1.out (by decide) ?_); intro v3 w5 ho3 hg3 hb5)
          have O5 := Lib.hid ho3
          have G5 := Lib.hid (G3.out.trans hb5)
          have HAL5 := Lib.hid (show ((acc ++ [(⟨kq, bq, eq, sq, (xq, yq), uq, gq⟩ : Ver)]).length : Int) ≤ most from by rw [List.length_append, List.length_singleton]; omega)
          have HMY5 := Lib.hid (show ∀ x ∈ acc ++ [(⟨kq, bq, eq, sq, (xq, yq), uq, gq⟩ : Ver)], mayQ Q x from fun x hx => by
            rcases List.mem_append.1 hx with hx | hx
            · exact HMY.out x hx
            · rw [List.mem_singleton.1 hx]; exact ⟨HMQ.out, QV.out⟩)
          clear ho3 hg3 hb5
          go_roundw
          case rel => exact ⟨k + 1, _, by go_num, by omega, O5.out, HAL5.out, HMY5.out, G5.out⟩
          case measure => simp [intOf]; omega
      · have zf : decide ((acc.length : Int) < most) = false := by rw [decide_eq_false_iff_not]; exact hf
        go_wp2_with fail
        go_ret
        exact ⟨_, rfl, acc, O.out, hal, HMY.out, G.out⟩
    · have zl : decide ((k : Int) < (l.length : Int)) = false := by rw [decide_eq_false_iff_not]; omega
      go_wp2_with fail
      go_ret
      first | exact ⟨_, rfl, acc, O.out, hal, HMY.out, G.out⟩ | exact ⟨_, acc, rfl, O.out, hal, HMY.out, G.out⟩

theorem sort_step {α : Type} {lt : α → α → Bool} {l acc : List α} {k : Nat} {p : α} (h : acc = sortR lt (l.take k)) (hk : k < l.length) (hp : l[k] = p) : insR lt p acc = sortR lt (l.take (k + 1)) := by
  rw [List.take_succ_eq_append_getElem hk, sortR_snoc, hp, h]

set_option maxHeartbeats 8000000 in
set_option maxRecDepth 100000 in
/-- The versions, each put behind all that it is not ahead of. -/
theorem ref6_sorted (va : Value) (l : List Ver) (w : World) (ha : RdVr w w.heap.size va l) (hl : l.length ≤ 1000) :
    Calls Try.prog 52 #[va] w fun e w' => ∃ v', e = .returned v' ∧ OwnVr w' w.heap.size v' (sortR lessV l) ∧ Below w.heap.size w w' := by
  have HA := Lib.hid ha
  obtain ⟨A, ca, rfl, hla, hca, -⟩ := ha
  go_enter Try.func52, Try.ntmps52
  go_wp2_with fail
  go_loopw [3, 4] (fun x i wr => ∃ (k : Nat) (acc : List Ver), i = .int .i64 k ∧ k ≤ l.length ∧ OwnVr wr w.heap.size x acc ∧ acc.length = k ∧ acc = sortR lessV (l.take k) ∧ Below w.heap.size w wr) (fun _ i _ => l.length - (intOf i).toNat)
  case atStart => exact ⟨0, [], rfl, Nat.zero_le _, OwnX.nil _ _, rfl, by simp [sortR], Below.refl _ _⟩
  case round =>
    obtain ⟨k, acc, rfl, hk, ho, hal, hmy, hbw⟩ := hrel
    rename World => wo
    have HAL := Lib.hid hal
    have O := Lib.hid ho
    have HM := Lib.hid hmy
    have G := Lib.hid hbw
    obtain ⟨OA, oc, eo, -⟩ := ho.rd
    subst eo
    clear ho hmy hbw hal
    by_cases hlt : k < l.length
    · have zl : decide ((k : Int) < (l.length : Int)) = true := by simp; omega
      obtain ⟨b, o, rfl, hbb, -⟩ := RdVr.here HA.out k hlt
      have HBB := Lib.hid hbb
      obtain ⟨p, hp⟩ : ∃ p, l[k] = p := ⟨_, rfl⟩
      obtain ⟨kk, bb, ee, ss, ⟨xx, yy⟩, uu, gg⟩ := p
      have PP := Lib.hid hp
      clear hp hbb
      go_wp2_with fail
      go_loopw [5] (fun i wi => ∃ j : Nat, i = .int .i64 j ∧ j ≤ acc.length ∧ Below wo.heap.size wo wi ∧ ∀ (i : Nat) (h : i < acc.length), j ≤ i → lessV ⟨kk, bb, ee, ss, (xx, yy), uu, gg⟩ acc[i] = true) (fun i _ => (intOf i).toNat)
      case atStart => exact ⟨acc.length, rfl, Nat.le_refl _, Below.refl _ _, fun i h hi => absurd h (by omega)⟩
      case round =>
        obtain ⟨j, rfl, hj, hbi, hup⟩ := hrel
        have UP := Lib.hid hup
        clear hup
        rename World => wi
        have GI := Lib.hid hbi
        clear hbi
        by_cases hj0 : j = 0
        · subst hj0
          go_wp2_with fail
          go_quiet (fail)
          have GX := Lib.hid (GI.out.drewN nq)
          have O6 := Lib.hid (O.out.on GX.out)
          obtain ⟨A1, c1', h1, r1⟩ := slX_head O6.out.rd Try.underlying22 ver_size 0 (0 : Int) rfl (Nat.zero_le _)
          obtain ⟨A2, c2', h2, r2⟩ := slX_tail O.out.rd Try.underlying22 ver_size 0 (0 : Int) rfl (Nat.zero_le _)
          have RT := Lib.hid r2
          have R1 := Lib.hid r1
          clear r1 r2
          have hl1 : (acc.take 0).length = 0 := by rw [List.length_take]; omega
          have hl2 : (acc.drop 0).length = acc.length - 0 := List.length_drop
          have hal1 := Lib.hid (show ([] : List Ver).length + (acc.take 0).length ≤ 1000000000 from by have := HAL.out; simp <;> omega)
          have hal2 := Lib.hid (show ([] ++ acc.take 0).length + [(⟨kk, bb, ee, ss, (xx, yy), uu, gg⟩ : Ver)].length ≤ 1000000000 from by have := HAL.out; simp <;> omega)
          have hal3 := Lib.hid (show (([] ++ acc.take 0) ++ [(⟨kk, bb, ee, ss, (xx, yy), uu, gg⟩ : Ver)]).length + (acc.drop 0).length ≤ 1000000000 from by have := HAL.out; simp <;> omega)
          have HLN := Lib.hid (show ((([] ++ acc.take 0) ++ [(⟨kk, bb, ee, ss, (xx, yy), uu, gg⟩ : Ver)]) ++ acc.drop 0).length = k + 1 from by have := HAL.out; simp <;> omega)
          have HME := Lib.hid (show (([] ++ acc.take 0) ++ [(⟨kk, bb, ee, ss, (xx, yy), uu, gg⟩ : Ver)]) ++ acc.drop 0 = sortR lessV (l.take (k + 1)) from by
            rw [List.nil_append, List.append_assoc, List.singleton_append, insR_at _ acc 0 (Nat.zero_le _) UP.out (fun _ h0 => absurd h0 (by omega))]
            exact sort_step HM.out hlt PP.out)
          clear hl1 hl2
          go_wp2_with (at_builtin; first
            | (refine wpl_appX_rd rfl (.tmp 31) (.tmp 34) rfl Try.underlying22 ver_info rfl wo.heap.size _ _ _ [] (acc.take 0) rfl rfl (OwnX.nil _ _) (RdX.below R1.out (Below.refl _ _)) GX.out.size hal1.out (by decide) ?_; intro v3 w5 ho5 hg5 hb5; have O5 := Lib.hid ho5; have G5 := Lib.hid (GX.out.trans hb5); obtain ⟨-, e0, e1, e2, e3, e4, e5, e6, e7⟩ := RdVr.cells1 (HA.out.below (G.out.trans (G5.out.mono G.out.size))) k hlt PP.out; clear ho5 hg5 hb5)
            | (go_loud (refine wpl_appX rfl (.tmp 36) (.tmp 41) rfl Try.underlying22 ver_info rfl wo.heap.size _ ([] ++ acc.take 0) [(⟨kk, bb, ee, ss, (xx, yy), uu, gg⟩ : Ver)] _ _ _ rfl rfl rfl rfl O5.out G5.out.size hal2.out (by decide) ?_); intro v4 w6 ho6 hg6 hb6; have O7 := Lib.hid ho6; have G7 := Lib.hid (G5.out.trans hb6); clear ho6 hg6 hb6)
            | (refine wpl_appX_rd rfl (.tmp 43) (.tmp 46) rfl Try.underlying22 ver_info rfl wo.heap.size wo.heap.size _ _ (([] ++ acc.take 0) ++ [(⟨kk, bb, ee, ss, (xx, yy), uu, gg⟩ : Ver)]) (acc.drop 0) rfl rfl O7.out (RT.out.below G7.out) G7.out.size hal3.out (by decide) ?_; intro v5 w7 ho7 hg7 hb7; have O8 := Lib.hid ho7; have G8 := Lib.hid (G7.out.trans hb7); clear ho7 hg7 hb7))

          go_roundw
          case rel => exact ⟨k + 1, _, by go_num, by omega, OwnX.mono O8.out G.out.size, HLN.out, HME.out, G.out.trans (G8.out.mono G.out.size)⟩
          case measure => simp [intOf]; omega
        · have zj : decide ((0 : Int) < (j : Int)) = true := by simp; omega
          have zj2 : decide (0 < j) = true := by simp; omega
          have hj1 : j - 1 < acc.length := by omega
          have hsub : (j : Int) - 1 = ((j - 1 : Nat) : Int) := by omega
          have hw64 : IntKind.i64.wrap ((j - 1 : Nat) : Int) = ((j - 1 : Nat) : Int) := by rw [IntKind.wrap_i64]; have := HAL.out; omega
          have hi1 : ((j - 1 : Nat) : Int) < (acc.length : Int) := by omega
          obtain ⟨-, c0, c1, c2, c3, c4, c5, c6, c7⟩ := RdVr.cells1 (HA.out.below (G.out.trans (GI.out.mono G.out.size))) k hlt PP.out
          obtain ⟨b', o', rfl, hbb', d0, d1, d2, d3, d4, d5, d6, d7⟩ := RdVr.here (O.out.on GI.out).rd (j - 1) hj1
          have LS := Lib.hid (fun w => ref6_less ⟨kk, bb, ee, ss, (xx, yy), uu, gg⟩ acc[j - 1] w)
          generalize hq : acc[j - 1] = q at *
          obtain ⟨kk', bb', ee', ss', ⟨xx', yy'⟩, uu', gg'⟩ := q
          have QQ := Lib.hid hq
          clear hq
          unfold verV at LS
          simp only at LS c0 c1 c2 c3 c4 c5 c6 c7 d0 d1 d2 d3 d4 d5 d6 d7
          cases hls : lessV ⟨kk, bb, ee, ss, (xx, yy), uu, gg⟩ ⟨kk', bb', ee', ss', (xx', yy'), uu', gg'⟩
          · rw [hls] at LS
            have LF := Lib.hid hls
            clear hls
            go_wp2_with fail
            have HI : (fun W => W = wi.drew) wi.drew := rfl
            refine regk_start [12] (fun W => W = wi.drew) (by kernel_rfl) ?_
            refine regk_free 0 15 (v := ?_) (T' := ?_) (fun _ => HI) (by kernel_rfl) (by kernel_rfl) (by kernel_rfl) (by kernel_rfl) (fun _ _ _ h => h) (fun o ho => ?_) ?_ ?_
            rotate_left 2
            · cases ho
              refine ⟨rfl, rfl, fun W => ?_⟩
              go_simp; (try with_reducible rfl)
            · simp only [List.setIfInBounds_toArray, List.set_cons_succ, List.set_cons_zero]; exact rfl
            refine regk_free 1 16 (v := ?_) (T' := ?_) (fun _ => HI) (by kernel_rfl) (by kernel_rfl) (by kernel_rfl) (by kernel_rfl) (fun _ _ _ h => h) (fun o ho => ?_) ?_ ?_
            rotate_left 2
            · cases ho
              refine ⟨rfl, rfl, fun W => ?_⟩
              go_simp; (try with_reducible rfl)
            · simp only [List.setIfInBounds_toArray, List.set_cons_succ, List.set_cons_zero]; exact rfl
            refine regk_free 2 17 (v := ?_) (T' := ?_) (fun _ => HI) (by kernel_rfl) (by kernel_rfl) (by kernel_rfl) (by kernel_rfl) (fun _ _ _ h => h) (fun o ho => ?_) ?_ ?_
            rotate_left 2
            · cases ho
              refine ⟨rfl, rfl, fun W => ?_⟩
              go_simp; (try with_reducible rfl)
            · simp only [List.setIfInBounds_toArray, List.set_cons_succ, List.set_cons_zero]; exact rfl
            refine regk_free 3 18 (v := ?_) (T' := ?_) (fun _ => HI) (by kernel_rfl) (by kernel_rfl) (by kernel_rfl) (by kernel_rfl) (fun _ _ _ h => h) (fun o ho => ?_) ?_ ?_
            rotate_left 2
            · cases ho
              refine ⟨rfl, rfl, fun W => ?_⟩
              go_simp; (try with_reducible rfl)
            · simp only [List.setIfInBounds_toArray, List.set_cons_succ, List.set_cons_zero]; exact rfl
            refine regk_free 4 19 (v := ?_) (T' := ?_) (fun _ => HI) (by kernel_rfl) (by kernel_rfl) (by kernel_rfl) (by kernel_rfl) (fun _ _ _ h => h) (fun o ho => ?_) ?_ ?_
            rotate_left 2
            · cases ho
              refine ⟨rfl, rfl, fun W => ?_⟩
              go_simp; (try with_reducible rfl)
            · simp only [List.setIfInBounds_toArray, List.set_cons_succ, List.set_cons_zero]; exact rfl
            refine regk_free 5 20 (v := ?_) (T' := ?_) (fun _ => HI) (by kernel_rfl) (by kernel_rfl) (by kernel_rfl) (by kernel_rfl) (fun _ _ _ h => h) (fun o ho => ?_) ?_ ?_
            rotate_left 2
            · cases ho
              refine ⟨rfl, rfl, fun W => ?_⟩
              go_simp; (try with_reducible rfl)
            · simp only [List.setIfInBounds_toArray, List.set_cons_succ, List.set_cons_zero]; exact rfl
            refine regk_take 6 21 (v := ?_) (T' := ?_) HI (by kernel_rfl) (by kernel_rfl) (by kernel_rfl) (by kernel_rfl) (by kernel_rfl) (by kernel_rfl) (fun _ _ _ h => h) (fun o ho => ?_) ?_ ?_
            rotate_left 2
            · cases ho
              refine ⟨rfl, rfl, fun W hW => ?_⟩
              have hW := (show W = _ from hW); subst hW; go_simp; (try with_reducible rfl)
            · simp only [List.setIfInBounds_toArray, List.set_cons_succ, List.set_cons_zero]; exact rfl
            refine regk_free 7 22 (v := ?_) (T' := ?_) (fun _ => HI) (by kernel_rfl) (by kernel_rfl) (by kernel_rfl) (by kernel_rfl) (fun _ _ _ h => h) (fun o ho => ?_) ?_ ?_
            rotate_left 2
            · cases ho
              refine ⟨rfl, rfl, fun W => ?_⟩
              go_simp; (try with_reducible rfl)
            · simp only [List.setIfInBounds_toArray, List.set_cons_succ, List.set_cons_zero]; exact rfl
            refine regk_free 8 23 (v := ?_) (T' := ?_) (fun _ => HI) (by kernel_rfl) (by kernel_rfl) (by kernel_rfl) (by kernel_rfl) (fun _ _ _ h => h) (fun o ho => ?_) ?_ ?_
            rotate_left 2
            · cases ho
              refine ⟨rfl, rfl, fun W => ?_⟩
              go_simp; (try with_reducible rfl)
            · simp only [List.setIfInBounds_toArray, List.set_cons_succ, List.set_cons_zero]; exact rfl
            refine regk_free 9 24 (v := ?_) (T' := ?_) (fun _ => HI) (by kernel_rfl) (by kernel_rfl) (by kernel_rfl) (by kernel_rfl) (fun _ _ _ h => h) (fun o ho => ?_) ?_ ?_
            rotate_left 2
            · cases ho
              refine ⟨rfl, rfl, fun W => ?_⟩
              go_simp; (try with_reducible rfl)
            · simp only [List.setIfInBounds_toArray, List.set_cons_succ, List.set_cons_zero]; exact rfl
            refine regk_free 10 25 (v := ?_) (T' := ?_) (fun _ => HI) (by kernel_rfl) (by kernel_rfl) (by kernel_rfl) (by kernel_rfl) (fun _ _ _ h => h) (fun o ho => ?_) ?_ ?_
            rotate_left 2
            · cases ho
              refine ⟨rfl, rfl, fun W => ?_⟩
              go_simp; (try with_reducible rfl)
            · simp only [List.setIfInBounds_toArray, List.set_cons_succ, List.set_cons_zero]; exact rfl
            refine regk_take 11 26 (v := ?_) (T' := ?_) HI (by kernel_rfl) (by kernel_rfl) (by kernel_rfl) (by kernel_rfl) (by kernel_rfl) (by kernel_rfl) (fun _ _ _ h => h) (fun o ho => ?_) ?_ ?_
            rotate_left 2
            · cases ho
              refine ⟨rfl, rfl, fun W hW => ?_⟩
              have hW := (show W = _ from hW); subst hW; go_simp; (try with_reducible rfl)
            · simp only [List.setIfInBounds_toArray, List.set_cons_succ, List.set_cons_zero]; exact rfl
            refine regk_call (I' := (fun W => W = wi.drew)) (fun _ h => h) 12 27 (by kernel_rfl) 54 #[.agg #[.string kk, .int .i64 bb, .int .i64 ee, .int .i64 ss, .int .i64 xx, .int .i64 yy, .string uu, .bool gg], .agg #[.string kk', .int .i64 bb', .int .i64 ee', .int .i64 ss', .int .i64 xx', .int .i64 yy', .string uu', .bool gg']] (fun o ho => by cases ho; exact ⟨rfl, rfl, fun W => by go_simp⟩) ?_
            refine (LS.out _).mono ?_
            rintro e w3 ⟨rfl, hb3⟩
            have G3 := Lib.hid (GI.out.drew.trans (hb3.mono GI.out.size))
            clear hb3
            refine ⟨_, _, rfl, noB_no (by kernel_rfl), (by simp only [List.setIfInBounds_toArray, List.set_cons_succ, List.set_cons_zero]; exact rfl), ?_⟩
            refine regk_free 13 28 (v := ?_) (T' := ?_) (noB_no (by kernel_rfl)) (by kernel_rfl) (by kernel_rfl) (by kernel_rfl) (by kernel_rfl) (fun _ _ _ h => h) (fun o ho => ?_) ?_ ?_
            rotate_left 2
            · cases ho
              refine ⟨rfl, rfl, fun W => ?_⟩
              go_simp; (try with_reducible rfl)
            · simp only [List.setIfInBounds_toArray, List.set_cons_succ, List.set_cons_zero]; exact rfl
            refine regk_done (by kernel_rfl) ?_
            have GX := Lib.hid (G3.out)
            have O6 := Lib.hid (O.out.on GX.out)
            obtain ⟨A1, c1', h1, r1⟩ := slX_head O6.out.rd Try.underlying22 ver_size j (j : Int) rfl hj
            obtain ⟨A2, c2', h2, r2⟩ := slX_tail O.out.rd Try.underlying22 ver_size j (j : Int) rfl hj
            have RT := Lib.hid r2
            have R1 := Lib.hid r1
            clear r1 r2
            have hl1 : (acc.take j).length = j := by rw [List.length_take]; omega
            have hl2 : (acc.drop j).length = acc.length - j := List.length_drop
            have hal1 := Lib.hid (show ([] : List Ver).length + (acc.take j).length ≤ 1000000000 from by have := HAL.out; simp <;> omega)
            have hal2 := Lib.hid (show ([] ++ acc.take j).length + [(⟨kk, bb, ee, ss, (xx, yy), uu, gg⟩ : Ver)].length ≤ 1000000000 from by have := HAL.out; simp <;> omega)
            have hal3 := Lib.hid (show (([] ++ acc.take j) ++ [(⟨kk, bb, ee, ss, (xx, yy), uu, gg⟩ : Ver)]).length + (acc.drop j).length ≤ 1000000000 from by have := HAL.out; simp <;> omega)
            have HLN := Lib.hid (show ((([] ++ acc.take j) ++ [(⟨kk, bb, ee, ss, (xx, yy), uu, gg⟩ : Ver)]) ++ acc.drop j).length = k + 1 from by have := HAL.out; simp <;> omega)
            have HME := Lib.hid (show (([] ++ acc.take j) ++ [(⟨kk, bb, ee, ss, (xx, yy), uu, gg⟩ : Ver)]) ++ acc.drop j = sortR lessV (l.take (k + 1)) from by
              rw [List.nil_append, List.append_assoc, List.singleton_append, insR_at _ acc j hj UP.out (fun _ _ => by rw [QQ.out]; exact LF.out)]
              exact sort_step HM.out hlt PP.out)
            clear hl1 hl2
            go_wp2_with (at_builtin; first
              | (refine wpl_appX_rd rfl (.tmp 31) (.tmp 34) rfl Try.underlying22 ver_info rfl wo.heap.size _ _ _ [] (acc.take j) rfl rfl (OwnX.nil _ _) (RdX.below R1.out (Below.refl _ _)) GX.out.size hal1.out (by decide) ?_; intro v3 w5 ho5 hg5 hb5; have O5 := Lib.hid ho5; have G5 := Lib.hid (GX.out.trans hb5); obtain ⟨-, e0, e1, e2, e3, e4, e5, e6, e7⟩ := RdVr.cells1 (HA.out.below (G.out.trans (G5.out.mono G.out.size))) k hlt PP.out; clear ho5 hg5 hb5)
              | (go_loud (refine wpl_appX rfl (.tmp 36) (.tmp 41) rfl Try.underlying22 ver_info rfl wo.heap.size _ ([] ++ acc.take j) [(⟨kk, bb, ee, ss, (xx, yy), uu, gg⟩ : Ver)] _ _ _ rfl rfl rfl rfl O5.out G5.out.size hal2.out (by decide) ?_); intro v4 w6 ho6 hg6 hb6; have O7 := Lib.hid ho6; have G7 := Lib.hid (G5.out.trans hb6); clear ho6 hg6 hb6)
              | (refine wpl_appX_rd rfl (.tmp 43) (.tmp 46) rfl Try.underlying22 ver_info rfl wo.heap.size wo.heap.size _ _ (([] ++ acc.take j) ++ [(⟨kk, bb, ee, ss, (xx, yy), uu, gg⟩ : Ver)]) (acc.drop j) rfl rfl O7.out (RT.out.below G7.out) G7.out.size hal3.out (by decide) ?_; intro v5 w7 ho7 hg7 hb7; have O8 := Lib.hid ho7; have G8 := Lib.hid (G7.out.trans hb7); clear ho7 hg7 hb7))

            go_roundw
            case rel => exact ⟨k + 1, _, by go_num, by omega, OwnX.mono O8.out G.out.size, HLN.out, HME.out, G.out.trans (G8.out.mono G.out.size)⟩
            case measure => simp [intOf]; omega
          · rw [hls] at LS
            have LF := Lib.hid hls
            clear hls
            go_wp2_with fail
            have HI : (fun W => W = wi.drew) wi.drew := rfl
            refine regk_start [12] (fun W => W = wi.drew) (by kernel_rfl) ?_
            refine regk_free 0 15 (v := ?_) (T' := ?_) (fun _ => HI) (by kernel_rfl) (by kernel_rfl) (by kernel_rfl) (by kernel_rfl) (fun _ _ _ h => h) (fun o ho => ?_) ?_ ?_
            rotate_left 2
            · cases ho
              refine ⟨rfl, rfl, fun W => ?_⟩
              go_simp; (try with_reducible rfl)
            · simp only [List.setIfInBounds_toArray, List.set_cons_succ, List.set_cons_zero]; exact rfl
            refine regk_free 1 16 (v := ?_) (T' := ?_) (fun _ => HI) (by kernel_rfl) (by kernel_rfl) (by kernel_rfl) (by kernel_rfl) (fun _ _ _ h => h) (fun o ho => ?_) ?_ ?_
            rotate_left 2
            · cases ho
              refine ⟨rfl, rfl, fun W => ?_⟩
              go_simp; (try with_reducible rfl)
            · simp only [List.setIfInBounds_toArray, List.set_cons_succ, List.set_cons_zero]; exact rfl
            refine regk_free 2 17 (v := ?_) (T' := ?_) (fun _ => HI) (by kernel_rfl) (by kernel_rfl) (by kernel_rfl) (by kernel_rfl) (fun _ _ _ h => h) (fun o ho => ?_) ?_ ?_
            rotate_left 2
            · cases ho
              refine ⟨rfl, rfl, fun W => ?_⟩
              go_simp; (try with_reducible rfl)
            · simp only [List.setIfInBounds_toArray, List.set_cons_succ, List.set_cons_zero]; exact rfl
            refine regk_free 3 18 (v := ?_) (T' := ?_) (fun _ => HI) (by kernel_rfl) (by kernel_rfl) (by kernel_rfl) (by kernel_rfl) (fun _ _ _ h => h) (fun o ho => ?_) ?_ ?_
            rotate_left 2
            · cases ho
              refine ⟨rfl, rfl, fun W => ?_⟩
              go_simp; (try with_reducible rfl)
            · simp only [List.setIfInBounds_toArray, List.set_cons_succ, List.set_cons_zero]; exact rfl
            refine regk_free 4 19 (v := ?_) (T' := ?_) (fun _ => HI) (by kernel_rfl) (by kernel_rfl) (by kernel_rfl) (by kernel_rfl) (fun _ _ _ h => h) (fun o ho => ?_) ?_ ?_
            rotate_left 2
            · cases ho
              refine ⟨rfl, rfl, fun W => ?_⟩
              go_simp; (try with_reducible rfl)
            · simp only [List.setIfInBounds_toArray, List.set_cons_succ, List.set_cons_zero]; exact rfl
            refine regk_free 5 20 (v := ?_) (T' := ?_) (fun _ => HI) (by kernel_rfl) (by kernel_rfl) (by kernel_rfl) (by kernel_rfl) (fun _ _ _ h => h) (fun o ho => ?_) ?_ ?_
            rotate_left 2
            · cases ho
              refine ⟨rfl, rfl, fun W => ?_⟩
              go_simp; (try with_reducible rfl)
            · simp only [List.setIfInBounds_toArray, List.set_cons_succ, List.set_cons_zero]; exact rfl
            refine regk_take 6 21 (v := ?_) (T' := ?_) HI (by kernel_rfl) (by kernel_rfl) (by kernel_rfl) (by kernel_rfl) (by kernel_rfl) (by kernel_rfl) (fun _ _ _ h => h) (fun o ho => ?_) ?_ ?_
            rotate_left 2
            · cases ho
              refine ⟨rfl, rfl, fun W hW => ?_⟩
              have hW := (show W = _ from hW); subst hW; go_simp; (try with_reducible rfl)
            · simp only [List.setIfInBounds_toArray, List.set_cons_succ, List.set_cons_zero]; exact rfl
            refine regk_free 7 22 (v := ?_) (T' := ?_) (fun _ => HI) (by kernel_rfl) (by kernel_rfl) (by kernel_rfl) (by kernel_rfl) (fun _ _ _ h => h) (fun o ho => ?_) ?_ ?_
            rotate_left 2
            · cases ho
              refine ⟨rfl, rfl, fun W => ?_⟩
              go_simp; (try with_reducible rfl)
            · simp only [List.setIfInBounds_toArray, List.set_cons_succ, List.set_cons_zero]; exact rfl
            refine regk_free 8 23 (v := ?_) (T' := ?_) (fun _ => HI) (by kernel_rfl) (by kernel_rfl) (by kernel_rfl) (by kernel_rfl) (fun _ _ _ h => h) (fun o ho => ?_) ?_ ?_
            rotate_left 2
            · cases ho
              refine ⟨rfl, rfl, fun W => ?_⟩
              go_simp; (try with_reducible rfl)
            · simp only [List.setIfInBounds_toArray, List.set_cons_succ, List.set_cons_zero]; exact rfl
            refine regk_free 9 24 (v := ?_) (T' := ?_) (fun _ => HI) (by kernel_rfl) (by kernel_rfl) (by kernel_rfl) (by kernel_rfl) (fun _ _ _ h => h) (fun o ho => ?_) ?_ ?_
            rotate_left 2
            · cases ho
              refine ⟨rfl, rfl, fun W => ?_⟩
              go_simp; (try with_reducible rfl)
            · simp only [List.setIfInBounds_toArray, List.set_cons_succ, List.set_cons_zero]; exact rfl
            refine regk_free 10 25 (v := ?_) (T' := ?_) (fun _ => HI) (by kernel_rfl) (by kernel_rfl) (by kernel_rfl) (by kernel_rfl) (fun _ _ _ h => h) (fun o ho => ?_) ?_ ?_
            rotate_left 2
            · cases ho
              refine ⟨rfl, rfl, fun W => ?_⟩
              go_simp; (try with_reducible rfl)
            · simp only [List.setIfInBounds_toArray, List.set_cons_succ, List.set_cons_zero]; exact rfl
            refine regk_take 11 26 (v := ?_) (T' := ?_) HI (by kernel_rfl) (by kernel_rfl) (by kernel_rfl) (by kernel_rfl) (by kernel_rfl) (by kernel_rfl) (fun _ _ _ h => h) (fun o ho => ?_) ?_ ?_
            rotate_left 2
            · cases ho
              refine ⟨rfl, rfl, fun W hW => ?_⟩
              have hW := (show W = _ from hW); subst hW; go_simp; (try with_reducible rfl)
            · simp only [List.setIfInBounds_toArray, List.set_cons_succ, List.set_cons_zero]; exact rfl
            refine regk_call (I' := (fun W => W = wi.drew)) (fun _ h => h) 12 27 (by kernel_rfl) 54 #[.agg #[.string kk, .int .i64 bb, .int .i64 ee, .int .i64 ss, .int .i64 xx, .int .i64 yy, .string uu, .bool gg], .agg #[.string kk', .int .i64 bb', .int .i64 ee', .int .i64 ss', .int .i64 xx', .int .i64 yy', .string uu', .bool gg']] (fun o ho => by cases ho; exact ⟨rfl, rfl, fun W => by go_simp⟩) ?_
            refine (LS.out _).mono ?_
            rintro e w3 ⟨rfl, hb3⟩
            have G3 := Lib.hid (GI.out.drew.trans (hb3.mono GI.out.size))
            clear hb3
            refine ⟨_, _, rfl, noB_no (by kernel_rfl), (by simp only [List.setIfInBounds_toArray, List.set_cons_succ, List.set_cons_zero]; exact rfl), ?_⟩
            refine regk_free 13 28 (v := ?_) (T' := ?_) (noB_no (by kernel_rfl)) (by kernel_rfl) (by kernel_rfl) (by kernel_rfl) (by kernel_rfl) (fun _ _ _ h => h) (fun o ho => ?_) ?_ ?_
            rotate_left 2
            · cases ho
              refine ⟨rfl, rfl, fun W => ?_⟩
              go_simp; (try with_reducible rfl)
            · simp only [List.setIfInBounds_toArray, List.set_cons_succ, List.set_cons_zero]; exact rfl
            refine regk_done (by kernel_rfl) ?_
            go_wp2_with fail
            go_roundw
            case rel => exact ⟨j - 1, by go_num, by omega, G3.out, fun i h hi => by
              by_cases e : i = j - 1
              · subst e; rw [QQ.out]; exact LF.out
              · exact UP.out i h (by omega)⟩
            case measure => simp [intOf]; omega
    · have zl : decide ((k : Int) < (l.length : Int)) = false := by rw [decide_eq_false_iff_not]; omega
      have hke : k = l.length := by omega
      rw [hke, List.take_length] at HM
      go_wp2_with fail
      go_ret
      rw [← HM.out]
      exact ⟨_, rfl, O.out, G.out⟩

set_option maxHeartbeats 8000000 in
set_option maxRecDepth 100000 in
/-- Versions that may be, each behind the one ahead. -/
theorem ref8_block (va : Value) (l : List Ver) (most : Int) (w : World) (ha : RdVr w w.heap.size va l) (hm : 0 ≤ most ∧ most ≤ 1000) {Q : Ver → Prop} (hQ : ∀ v ∈ l, Q (cutV v)) :
    Calls Try.prog 28 #[va, .int .i64 most] w fun e w' => ∃ v' own, e = .returned v' ∧ OwnVr w' w.heap.size v' own ∧ (own.length : Int) ≤ most ∧ okQ Q own ∧ Below w.heap.size w w' := by
  have HA := Lib.hid ha
  obtain ⟨A, ca, rfl, hla, hca, -⟩ := ha
  go_enter Try.func28, Try.ntmps28
  go_wp2_with fail
  refine (ref6_good _ l most _ HA.out hm hQ).mono ?_
  rintro e w1 ⟨v1, s1, rfl, ho1, hs1, hm1, hb1⟩
  have S1 := Lib.hid ho1
  have G1 := Lib.hid hb1
  clear ho1 hb1
  go_wp2_with fail
  refine (ref6_sorted _ s1 _ S1.out.rd (by omega)).mono ?_
  rintro e w2 ⟨v2, rfl, ho2, hb2⟩
  have hs2 := sortR_len (lt := lessV) (l := s1)
  have hm2 : ∀ x ∈ sortR lessV s1, x ∈ s1 := fun x hx => sortR_mem.1 hx
  obtain ⟨s, hs⟩ : ∃ s, sortR lessV s1 = s := ⟨_, rfl⟩
  rw [hs] at ho2 hs2 hm2
  clear hs
  have HS := Lib.hid ho2.rd
  have HMS := Lib.hid (show ∀ x ∈ s, mayQ Q x from fun x hx => hm1 x (hm2 x hx))
  have HSL := Lib.hid (show (s.length : Int) ≤ most ∧ s.length ≤ 1000 from by omega)
  have G2 := Lib.hid (G1.out.trans (hb2.mono G1.out.size))
  obtain ⟨SA, sc, es, -⟩ := ho2.rd
  subst es
  clear ho2 hb2 hs1 hm1 hs2 hm2
  go_wp2_with fail
  go_loopw [6, 7] (fun x i wr => ∃ (k : Nat) (acc : List Ver), i = .int .i64 k ∧ k ≤ s.length ∧ OwnVr wr w2.heap.size x acc ∧ acc.length ≤ k ∧ okQ Q acc ∧ Below w2.heap.size w2 wr) (fun _ i _ => s.length - (intOf i).toNat)
  case atStart => exact ⟨0, [], rfl, Nat.zero_le _, OwnX.nil _ _, by simp, okQ_nil Q, Below.refl _ _⟩
  case round =>
    obtain ⟨k, acc, rfl, hk, ho, hal, hok, hbw⟩ := hrel
    have O := Lib.hid ho
    have HAL := Lib.hid hal
    have OK := Lib.hid hok
    have G := Lib.hid hbw
    obtain ⟨OA, oc, eo, -⟩ := ho.rd
    subst eo
    clear ho hal hok hbw
    by_cases hlt : k < s.length
    · have zl : decide ((k : Int) < (s.length : Int)) = true := by simp; omega
      have hk2 : k < 1000 := by have := HSL.out; omega
      obtain ⟨b, o, rfl, hbb, -⟩ := RdVr.here HS.out k hlt
      obtain ⟨p, hp⟩ : ∃ p, s[k] = p := ⟨_, rfl⟩
      have hmp := HMS.out s[k] (List.getElem_mem hlt)
      rw [hp] at hmp
      obtain ⟨kk, bb, ee, ss, ⟨xx, yy⟩, uu, gg⟩ := p
      have PP := Lib.hid hp
      have MP := Lib.hid hmp
      clear hp hbb hmp
      by_cases h0 : acc.length = 0
      · obtain rfl : acc = [] := List.eq_nil_of_length_eq_zero h0
        go_wp2_with fail
        go_quiet (fail)
        obtain ⟨-, e0, e1, e2, e3, e4, e5, e6, e7⟩ := RdVr.cells1 (HS.out.below (G.out.drewN nq)) k hlt PP.out
        have G0 := Lib.hid (G.out.drewN nq)
        have hal1 := Lib.hid (show ([] : List Ver).length + 1 ≤ 1000000000 from by have := HAL.out; have := HSL.out; omega)
        have hsz := Lib.hid G0.out.size
        go_wp2_with (at_builtin; go_loud (refine wpl_appX rfl (.tmp 34) (.tmp 39) rfl Try.underlying22 ver_info rfl w2.heap.size _ [] [(⟨kk, bb, ee, ss, (xx, yy), uu, gg⟩ : Ver)] _ _ _ rfl rfl rfl rfl (show OwnVr (wr.drewN nq) w2.heap.size _ [] from O.out) hsz.out hal1.out (by decide) ?_); intro v3 w5 ho3 hg3 hb5)
        have O5 := Lib.hid ho3
        have GS := Lib.hid (G0.out.trans hb5)
        have HAL5 := Lib.hid (show ([] ++ [(⟨kk, bb, ee, ss, (xx, yy), uu, gg⟩ : Ver)]).length ≤ k + 1 from by rw [List.length_append, List.length_singleton]; have := HAL.out; omega)
        have OK5 := Lib.hid (okQ_snoc OK.out MP.out (.inl rfl))
        clear ho3 hg3 hb5
        go_roundw
        case rel => exact ⟨k + 1, _, by go_num, by omega, O5.out, HAL5.out, OK5.out, GS.out⟩
        case measure => simp [intOf]; omega
      · have z0 : ((acc.length : Int) == 0) = false := by rw [beq_eq_false_iff_ne]; omega
        have hj1 : acc.length - 1 < acc.length := by omega
        have hsub : (acc.length : Int) - 1 = ((acc.length - 1 : Nat) : Int) := by omega
        have hw64 : IntKind.i64.wrap ((acc.length - 1 : Nat) : Int) = ((acc.length - 1 : Nat) : Int) := by rw [IntKind.wrap_i64]; have := HAL.out; have := HSL.out; omega
        have hi1 : ((acc.length - 1 : Nat) : Int) < (acc.length : Int) := by omega
        obtain ⟨-, c0, c1, c2, c3, c4, c5, c6, c7⟩ := RdVr.cells1 (HS.out.below G.out) k hlt PP.out
        obtain ⟨b', o', rfl, hbb', d0, d1, d2, d3, d4, d5, d6, d7⟩ := RdVr.here O.out.rd (acc.length - 1) hj1
        have LS := Lib.hid (fun w => ref6_less acc[acc.length - 1] ⟨kk, bb, ee, ss, (xx, yy), uu, gg⟩ w)
        have LSG := Lib.hid (show acc.getD (acc.length - 1) zeroV = acc[acc.length - 1] from getD_at hj1)
        have H0 := Lib.hid h0
        clear h0
        generalize acc[acc.length - 1] = q at *
        obtain ⟨kk', bb', ee', ss', ⟨xx', yy'⟩, uu', gg'⟩ := q
        unfold verV at LS
        simp only at LS c0 c1 c2 c3 c4 c5 c6 c7 d0 d1 d2 d3 d4 d5 d6 d7
        cases hls : lessV ⟨kk', bb', ee', ss', (xx', yy'), uu', gg'⟩ ⟨kk, bb, ee, ss, (xx, yy), uu, gg⟩
        · rw [hls] at LS
          clear hls
          go_wp2_with fail
          have HI : (fun W => W = wr.drew) wr.drew := rfl
          refine regk_start [14] (fun W => W = wr.drew) (by kernel_rfl) ?_
          refine regk_free 0 18 (v := ?_) (T' := ?_) (fun _ => HI) (by kernel_rfl) (by kernel_rfl) (by kernel_rfl) (by kernel_rfl) (fun _ _ _ h => h) (fun o ho => ?_) ?_ ?_
          rotate_left 2
          · cases ho
            refine ⟨rfl, rfl, fun W => ?_⟩
            go_simp; (try with_reducible rfl)
          · simp only [List.setIfInBounds_toArray, List.set_cons_succ, List.set_cons_zero]; exact rfl
          refine regk_free 1 19 (v := ?_) (T' := ?_) (fun _ => HI) (by kernel_rfl) (by kernel_rfl) (by kernel_rfl) (by kernel_rfl) (fun _ _ _ h => h) (fun o ho => ?_) ?_ ?_
          rotate_left 2
          · cases ho
            refine ⟨rfl, rfl, fun W => ?_⟩
            go_simp; (try with_reducible rfl)
          · simp only [List.setIfInBounds_toArray, List.set_cons_succ, List.set_cons_zero]; exact rfl
          refine regk_free 2 20 (v := ?_) (T' := ?_) (fun _ => HI) (by kernel_rfl) (by kernel_rfl) (by kernel_rfl) (by kernel_rfl) (fun _ _ _ h => h) (fun o ho => ?_) ?_ ?_
          rotate_left 2
          · cases ho
            refine ⟨rfl, rfl, fun W => ?_⟩
            go_simp; (try with_reducible rfl)
          · simp only [List.setIfInBounds_toArray, List.set_cons_succ, List.set_cons_zero]; exact rfl
          refine regk_free 3 21 (v := ?_) (T' := ?_) (fun _ => HI) (by kernel_rfl) (by kernel_rfl) (by kernel_rfl) (by kernel_rfl) (fun _ _ _ h => h) (fun o ho => ?_) ?_ ?_
          rotate_left 2
          · cases ho
            refine ⟨rfl, rfl, fun W => ?_⟩
            go_simp; (try with_reducible rfl)
          · simp only [List.setIfInBounds_toArray, List.set_cons_succ, List.set_cons_zero]; exact rfl
          refine regk_free 4 22 (v := ?_) (T' := ?_) (fun _ => HI) (by kernel_rfl) (by kernel_rfl) (by kernel_rfl) (by kernel_rfl) (fun _ _ _ h => h) (fun o ho => ?_) ?_ ?_
          rotate_left 2
          · cases ho
            refine ⟨rfl, rfl, fun W => ?_⟩
            go_simp; (try with_reducible rfl)
          · simp only [List.setIfInBounds_toArray, List.set_cons_succ, List.set_cons_zero]; exact rfl
          refine regk_free 5 23 (v := ?_) (T' := ?_) (fun _ => HI) (by kernel_rfl) (by kernel_rfl) (by kernel_rfl) (by kernel_rfl) (fun _ _ _ h => h) (fun o ho => ?_) ?_ ?_
          rotate_left 2
          · cases ho
            refine ⟨rfl, rfl, fun W => ?_⟩
            go_simp; (try with_reducible rfl)
          · simp only [List.setIfInBounds_toArray, List.set_cons_succ, List.set_cons_zero]; exact rfl
          refine regk_free 6 24 (v := ?_) (T' := ?_) (fun _ => HI) (by kernel_rfl) (by kernel_rfl) (by kernel_rfl) (by kernel_rfl) (fun _ _ _ h => h) (fun o ho => ?_) ?_ ?_
          rotate_left 2
          · cases ho
            refine ⟨rfl, rfl, fun W => ?_⟩
            go_simp; (try with_reducible rfl)
          · simp only [List.setIfInBounds_toArray, List.set_cons_succ, List.set_cons_zero]; exact rfl
          refine regk_free 7 25 (v := ?_) (T' := ?_) (fun _ => HI) (by kernel_rfl) (by kernel_rfl) (by kernel_rfl) (by kernel_rfl) (fun _ _ _ h => h) (fun o ho => ?_) ?_ ?_
          rotate_left 2
          · cases ho
            refine ⟨rfl, rfl, fun W => ?_⟩
            go_simp; (try with_reducible rfl)
          · simp only [List.setIfInBounds_toArray, List.set_cons_succ, List.set_cons_zero]; exact rfl
          refine regk_free 8 26 (v := ?_) (T' := ?_) (fun _ => HI) (by kernel_rfl) (by kernel_rfl) (by kernel_rfl) (by kernel_rfl) (fun _ _ _ h => h) (fun o ho => ?_) ?_ ?_
          rotate_left 2
          · cases ho
            refine ⟨rfl, rfl, fun W => ?_⟩
            go_simp; (try with_reducible rfl)
          · simp only [List.setIfInBounds_toArray, List.set_cons_succ, List.set_cons_zero]; exact rfl
          refine regk_take 9 27 (v := ?_) (T' := ?_) HI (by kernel_rfl) (by kernel_rfl) (by kernel_rfl) (by kernel_rfl) (by kernel_rfl) (by kernel_rfl) (fun _ _ _ h => h) (fun o ho => ?_) ?_ ?_
          rotate_left 2
          · cases ho
            refine ⟨rfl, rfl, fun W hW => ?_⟩
            have hW := (show W = _ from hW); subst hW; go_simp; (try with_reducible rfl)
          · simp only [List.setIfInBounds_toArray, List.set_cons_succ, List.set_cons_zero]; exact rfl
          refine regk_free 10 28 (v := ?_) (T' := ?_) (fun _ => HI) (by kernel_rfl) (by kernel_rfl) (by kernel_rfl) (by kernel_rfl) (fun _ _ _ h => h) (fun o ho => ?_) ?_ ?_
          rotate_left 2
          · cases ho
            refine ⟨rfl, rfl, fun W => ?_⟩
            go_simp; (try with_reducible rfl)
          · simp only [List.setIfInBounds_toArray, List.set_cons_succ, List.set_cons_zero]; exact rfl
          refine regk_free 11 29 (v := ?_) (T' := ?_) (fun _ => HI) (by kernel_rfl) (by kernel_rfl) (by kernel_rfl) (by kernel_rfl) (fun _ _ _ h => h) (fun o ho => ?_) ?_ ?_
          rotate_left 2
          · cases ho
            refine ⟨rfl, rfl, fun W => ?_⟩
            go_simp; (try with_reducible rfl)
          · simp only [List.setIfInBounds_toArray, List.set_cons_succ, List.set_cons_zero]; exact rfl
          refine regk_free 12 30 (v := ?_) (T' := ?_) (fun _ => HI) (by kernel_rfl) (by kernel_rfl) (by kernel_rfl) (by kernel_rfl) (fun _ _ _ h => h) (fun o ho => ?_) ?_ ?_
          rotate_left 2
          · cases ho
            refine ⟨rfl, rfl, fun W => ?_⟩
            go_simp; (try with_reducible rfl)
          · simp only [List.setIfInBounds_toArray, List.set_cons_succ, List.set_cons_zero]; exact rfl
          refine regk_take 13 31 (v := ?_) (T' := ?_) HI (by kernel_rfl) (by kernel_rfl) (by kernel_rfl) (by kernel_rfl) (by kernel_rfl) (by kernel_rfl) (fun _ _ _ h => h) (fun o ho => ?_) ?_ ?_
          rotate_left 2
          · cases ho
            refine ⟨rfl, rfl, fun W hW => ?_⟩
            have hW := (show W = _ from hW); subst hW; go_simp; (try with_reducible rfl)
          · simp only [List.setIfInBounds_toArray, List.set_cons_succ, List.set_cons_zero]; exact rfl
          refine regk_call (I' := (fun W => W = wr.drew)) (fun _ h => h) 14 32 (by kernel_rfl) 54 #[.agg #[.string kk', .int .i64 bb', .int .i64 ee', .int .i64 ss', .int .i64 xx', .int .i64 yy', .string uu', .bool gg'], .agg #[.string kk, .int .i64 bb, .int .i64 ee, .int .i64 ss, .int .i64 xx, .int .i64 yy, .string uu, .bool gg]] (fun o ho => by cases ho; exact ⟨rfl, rfl, fun W => by go_simp⟩) ?_
          refine (LS.out _).mono ?_
          rintro e w3 ⟨rfl, hb3⟩
          have G3 := Lib.hid (G.out.drew.trans (hb3.mono G.out.size))
          have O3 := Lib.hid ((show OwnVr wr.drew w2.heap.size _ acc from O.out).on hb3)
          clear hb3
          refine ⟨_, _, rfl, noB_no (by kernel_rfl), (by simp only [List.setIfInBounds_toArray, List.set_cons_succ, List.set_cons_zero]; exact rfl), ?_⟩
          refine regk_free 15 33 (v := ?_) (T' := ?_) (noB_no (by kernel_rfl)) (by kernel_rfl) (by kernel_rfl) (by kernel_rfl) (by kernel_rfl) (fun _ _ _ h => h) (fun o ho => ?_) ?_ ?_
          rotate_left 2
          · cases ho
            refine ⟨rfl, rfl, fun W => ?_⟩
            go_simp; (try with_reducible rfl)
          · simp only [List.setIfInBounds_toArray, List.set_cons_succ, List.set_cons_zero]; exact rfl
          refine regk_done (by kernel_rfl) ?_
          go_wp2_with fail
          go_roundw
          case rel => exact ⟨k + 1, acc, by go_num, by omega, O3.out, by have := HAL.out; omega, OK.out, G3.out⟩
          case measure => simp [intOf]; omega
        · rw [hls] at LS
          have HLS := Lib.hid hls
          clear hls
          go_wp2_with fail
          have HI : (fun W => W = wr.drew) wr.drew := rfl
          refine regk_start [14] (fun W => W = wr.drew) (by kernel_rfl) ?_
          refine regk_free 0 18 (v := ?_) (T' := ?_) (fun _ => HI) (by kernel_rfl) (by kernel_rfl) (by kernel_rfl) (by kernel_rfl) (fun _ _ _ h => h) (fun o ho => ?_) ?_ ?_
          rotate_left 2
          · cases ho
            refine ⟨rfl, rfl, fun W => ?_⟩
            go_simp; (try with_reducible rfl)
          · simp only [List.setIfInBounds_toArray, List.set_cons_succ, List.set_cons_zero]; exact rfl
          refine regk_free 1 19 (v := ?_) (T' := ?_) (fun _ => HI) (by kernel_rfl) (by kernel_rfl) (by kernel_rfl) (by kernel_rfl) (fun _ _ _ h => h) (fun o ho => ?_) ?_ ?_
          rotate_left 2
          · cases ho
            refine ⟨rfl, rfl, fun W => ?_⟩
            go_simp; (try with_reducible rfl)
          · simp only [List.setIfInBounds_toArray, List.set_cons_succ, List.set_cons_zero]; exact rfl
          refine regk_free 2 20 (v := ?_) (T' := ?_) (fun _ => HI) (by kernel_rfl) (by kernel_rfl) (by kernel_rfl) (by kernel_rfl) (fun _ _ _ h => h) (fun o ho => ?_) ?_ ?_
          rotate_left 2
          · cases ho
            refine ⟨rfl, rfl, fun W => ?_⟩
            go_simp; (try with_reducible rfl)
          · simp only [List.setIfInBounds_toArray, List.set_cons_succ, List.set_cons_zero]; exact rfl
          refine regk_free 3 21 (v := ?_) (T' := ?_) (fun _ => HI) (by kernel_rfl) (by kernel_rfl) (by kernel_rfl) (by kernel_rfl) (fun _ _ _ h => h) (fun o ho => ?_) ?_ ?_
          rotate_left 2
          · cases ho
            refine ⟨rfl, rfl, fun W => ?_⟩
            go_simp; (try with_reducible rfl)
          · simp only [List.setIfInBounds_toArray, List.set_cons_succ, List.set_cons_zero]; exact rfl
          refine regk_free 4 22 (v := ?_) (T' := ?_) (fun _ => HI) (by kernel_rfl) (by kernel_rfl) (by kernel_rfl) (by kernel_rfl) (fun _ _ _ h => h) (fun o ho => ?_) ?_ ?_
          rotate_left 2
          · cases ho
            refine ⟨rfl, rfl, fun W => ?_⟩
            go_simp; (try with_reducible rfl)
          · simp only [List.setIfInBounds_toArray, List.set_cons_succ, List.set_cons_zero]; exact rfl
          refine regk_free 5 23 (v := ?_) (T' := ?_) (fun _ => HI) (by kernel_rfl) (by kernel_rfl) (by kernel_rfl) (by kernel_rfl) (fun _ _ _ h => h) (fun o ho => ?_) ?_ ?_
          rotate_left 2
          · cases ho
            refine ⟨rfl, rfl, fun W => ?_⟩
            go_simp; (try with_reducible rfl)
          · simp only [List.setIfInBounds_toArray, List.set_cons_succ, List.set_cons_zero]; exact rfl
          refine regk_free 6 24 (v := ?_) (T' := ?_) (fun _ => HI) (by kernel_rfl) (by kernel_rfl) (by kernel_rfl) (by kernel_rfl) (fun _ _ _ h => h) (fun o ho => ?_) ?_ ?_
          rotate_left 2
          · cases ho
            refine ⟨rfl, rfl, fun W => ?_⟩
            go_simp; (try with_reducible rfl)
          · simp only [List.setIfInBounds_toArray, List.set_cons_succ, List.set_cons_zero]; exact rfl
          refine regk_free 7 25 (v := ?_) (T' := ?_) (fun _ => HI) (by kernel_rfl) (by kernel_rfl) (by kernel_rfl) (by kernel_rfl) (fun _ _ _ h => h) (fun o ho => ?_) ?_ ?_
          rotate_left 2
          · cases ho
            refine ⟨rfl, rfl, fun W => ?_⟩
            go_simp; (try with_reducible rfl)
          · simp only [List.setIfInBounds_toArray, List.set_cons_succ, List.set_cons_zero]; exact rfl
          refine regk_free 8 26 (v := ?_) (T' := ?_) (fun _ => HI) (by kernel_rfl) (by kernel_rfl) (by kernel_rfl) (by kernel_rfl) (fun _ _ _ h => h) (fun o ho => ?_) ?_ ?_
          rotate_left 2
          · cases ho
            refine ⟨rfl, rfl, fun W => ?_⟩
            go_simp; (try with_reducible rfl)
          · simp only [List.setIfInBounds_toArray, List.set_cons_succ, List.set_cons_zero]; exact rfl
          refine regk_take 9 27 (v := ?_) (T' := ?_) HI (by kernel_rfl) (by kernel_rfl) (by kernel_rfl) (by kernel_rfl) (by kernel_rfl) (by kernel_rfl) (fun _ _ _ h => h) (fun o ho => ?_) ?_ ?_
          rotate_left 2
          · cases ho
            refine ⟨rfl, rfl, fun W hW => ?_⟩
            have hW := (show W = _ from hW); subst hW; go_simp; (try with_reducible rfl)
          · simp only [List.setIfInBounds_toArray, List.set_cons_succ, List.set_cons_zero]; exact rfl
          refine regk_free 10 28 (v := ?_) (T' := ?_) (fun _ => HI) (by kernel_rfl) (by kernel_rfl) (by kernel_rfl) (by kernel_rfl) (fun _ _ _ h => h) (fun o ho => ?_) ?_ ?_
          rotate_left 2
          · cases ho
            refine ⟨rfl, rfl, fun W => ?_⟩
            go_simp; (try with_reducible rfl)
          · simp only [List.setIfInBounds_toArray, List.set_cons_succ, List.set_cons_zero]; exact rfl
          refine regk_free 11 29 (v := ?_) (T' := ?_) (fun _ => HI) (by kernel_rfl) (by kernel_rfl) (by kernel_rfl) (by kernel_rfl) (fun _ _ _ h => h) (fun o ho => ?_) ?_ ?_
          rotate_left 2
          · cases ho
            refine ⟨rfl, rfl, fun W => ?_⟩
            go_simp; (try with_reducible rfl)
          · simp only [List.setIfInBounds_toArray, List.set_cons_succ, List.set_cons_zero]; exact rfl
          refine regk_free 12 30 (v := ?_) (T' := ?_) (fun _ => HI) (by kernel_rfl) (by kernel_rfl) (by kernel_rfl) (by kernel_rfl) (fun _ _ _ h => h) (fun o ho => ?_) ?_ ?_
          rotate_left 2
          · cases ho
            refine ⟨rfl, rfl, fun W => ?_⟩
            go_simp; (try with_reducible rfl)
          · simp only [List.setIfInBounds_toArray, List.set_cons_succ, List.set_cons_zero]; exact rfl
          refine regk_take 13 31 (v := ?_) (T' := ?_) HI (by kernel_rfl) (by kernel_rfl) (by kernel_rfl) (by kernel_rfl) (by kernel_rfl) (by kernel_rfl) (fun _ _ _ h => h) (fun o ho => ?_) ?_ ?_
          rotate_left 2
          · cases ho
            refine ⟨rfl, rfl, fun W hW => ?_⟩
            have hW := (show W = _ from hW); subst hW; go_simp; (try with_reducible rfl)
          · simp only [List.setIfInBounds_toArray, List.set_cons_succ, List.set_cons_zero]; exact rfl
          refine regk_call (I' := (fun W => W = wr.drew)) (fun _ h => h) 14 32 (by kernel_rfl) 54 #[.agg #[.string kk', .int .i64 bb', .int .i64 ee', .int .i64 ss', .int .i64 xx', .int .i64 yy', .string uu', .bool gg'], .agg #[.string kk, .int .i64 bb, .int .i64 ee, .int .i64 ss, .int .i64 xx, .int .i64 yy, .string uu, .bool gg]] (fun o ho => by cases ho; exact ⟨rfl, rfl, fun W => by go_simp⟩) ?_
          refine (LS.out _).mono ?_
          rintro e w3 ⟨rfl, hb3⟩
          have G3 := Lib.hid (G.out.drew.trans (hb3.mono G.out.size))
          have O3 := Lib.hid ((show OwnVr wr.drew w2.heap.size _ acc from O.out).on hb3)
          clear hb3
          refine ⟨_, _, rfl, noB_no (by kernel_rfl), (by simp only [List.setIfInBounds_toArray, List.set_cons_succ, List.set_cons_zero]; exact rfl), ?_⟩
          refine regk_free 15 33 (v := ?_) (T' := ?_) (noB_no (by kernel_rfl)) (by kernel_rfl) (by kernel_rfl) (by kernel_rfl) (by kernel_rfl) (fun _ _ _ h => h) (fun o ho => ?_) ?_ ?_
          rotate_left 2
          · cases ho
            refine ⟨rfl, rfl, fun W => ?_⟩
            go_simp; (try with_reducible rfl)
          · simp only [List.setIfInBounds_toArray, List.set_cons_succ, List.set_cons_zero]; exact rfl
          refine regk_done (by kernel_rfl) ?_
          obtain ⟨-, e0, e1, e2, e3, e4, e5, e6, e7⟩ := RdVr.cells1 (HS.out.below (G3.out)) k hlt PP.out
          have G0 := Lib.hid (G3.out)
          have hal1 := Lib.hid (show acc.length + 1 ≤ 1000000000 from by have := HAL.out; have := HSL.out; omega)
          have hsz := Lib.hid G0.out.size
          go_wp2_with (at_builtin; go_loud (refine wpl_appX rfl (.tmp 34) (.tmp 39) rfl Try.underlying22 ver_info rfl w2.heap.size _ acc [(⟨kk, bb, ee, ss, (xx, yy), uu, gg⟩ : Ver)] _ _ _ rfl rfl rfl rfl O3.out hsz.out hal1.out (by decide) ?_); intro v3 w5 ho3 hg3 hb5)
          have O5 := Lib.hid ho3
          have GS := Lib.hid (G0.out.trans hb5)
          have HAL5 := Lib.hid (show (acc ++ [(⟨kk, bb, ee, ss, (xx, yy), uu, gg⟩ : Ver)]).length ≤ k + 1 from by rw [List.length_append, List.length_singleton]; have := HAL.out; omega)
          have OK5 := Lib.hid (okQ_snoc OK.out MP.out (.inr (by rw [LSG.out]; exact HLS.out)))
          clear ho3 hg3 hb5
          go_roundw
          case rel => exact ⟨k + 1, _, by go_num, by omega, O5.out, HAL5.out, OK5.out, GS.out⟩
          case measure => simp [intOf]; omega
    · have zl : decide ((k : Int) < (s.length : Int)) = false := by rw [decide_eq_false_iff_not]; omega
      have hke : (acc.length : Int) ≤ most := by have := HAL.out; have := HSL.out; omega
      go_wp2_with fail
      go_ret
      first | exact ⟨_, rfl, acc, OwnX.mono O.out G2.out.size, hke, OK.out, G2.out.trans (G.out.mono G2.out.size)⟩ | exact ⟨_, acc, rfl, OwnX.mono O.out G2.out.size, hke, OK.out, G2.out.trans (G.out.mono G2.out.size)⟩

end Go.Proofs.Ytlpakooogbaclaa
