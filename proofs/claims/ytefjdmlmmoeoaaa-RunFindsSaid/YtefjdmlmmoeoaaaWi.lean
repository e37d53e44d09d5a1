/- Layer 9: the versions that are asked for, told one by one: the project's iterator over its iterator. -/
import Derived.Test.YtefjdmlmmoeoaaaWh
namespace Go.Proofs.Ytefjdmlmmoeoaaa
open Go.RowKit Go.Shelf
set_option linter.unusedVariables false
attribute [local go_sem] Oper.semAt_some

theorem run_those (p : Value) (n : Nat) (hp : p = .pointer (some ⟨n, 0, none⟩)) (fr tt : ByteArray) (fa : Fn) (la : Array Value) (w : World) :
    Calls Try.prog 43 #[p, .string fr, .string tt, .func fa #[] la] w fun e w' => e = .returned (.func (.func 67) #[] #[.pointer (some ⟨w.heap.size, 0, none⟩), .pointer (some ⟨w.heap.size + 1, 0, none⟩), .pointer (some ⟨w.heap.size + 2, 0, none⟩), .pointer (some ⟨w.heap.size + 3, 0, none⟩)]) ∧
      w' = (((w.alloc (.cells #[p] 28)).alloc (.cells #[.string fr] 9)).alloc (.cells #[.string tt] 9)).alloc (.cells #[.func fa #[] la] 74) := by
  subst hp
  go_enter Try.func43, Try.ntmps43
  go_wp2_with fail
  go_ret
  exact ⟨rfl, rfl⟩

/-- What a closure tells of a version, as long as A holds. -/
def Asks (fa : Nat) (la : Array Value) (q : Ver → Bool) (A : World → Prop) : Prop :=
  ∀ (v : Ver) (W : World), A W → Calls Try.prog fa (#[verV v] ++ la) W fun e W' => e = .returned (.bool (q v)) ∧ Below W.heap.size W W'
/-- Cells of types that a round may not turn lie as they lay. -/
def CKept (W W' : World) : Prop := ∀ (k : Nat) (cs : Array Value) (t : TypeId) (f : Nat × Nat), W.heap[k]? = some (.cells cs t f) → T9 t = false → W'.heap[k]? = some (.cells cs t f)
theorem ckept_below {W W' : World} (h : Below W.heap.size W W') : CKept W W' := fun k cs t f hk _ => (h.block k (Array.getElem?_eq_some_iff.1 hk).1).trans hk
theorem ckept_own {W W' : World} {row : Option Nat} (hg : W.grownBy W' row) (hr : ∀ r, row = some r → ∃ o : Obj, W.heap[r]? = some o ∧ o.isCells = false) : CKept W W' := fun k cs t f hk _ =>
  (grownBy_keeps_cells hg hr hk rfl).trans hk

set_option maxRecDepth 100000 in
set_option maxHeartbeats 4000000 in
theorem those_tells (w0 w : World) (base : Nat) (p : Value) (l : List Ver) (fr tt : ByteArray) (s1 s2 s3 s4 : Nat) (fa : Nat) (la : Array Value) (q : Ver → Bool) (A : World → Prop) (eg : ∀ args w, (callFunc fa args).run Try.prog w = .ok (.enter fa args) w) (hAsk : Asks fa la q A) (hAk : ∀ W W', A W → CKept W W' → A W') (hAw : A w)
    (hw0 : Below w0.heap.size w0 w) (hp : RunAt w0 base p l) (hl : l.length ≤ 20000)
    (h1 : Boxed w s1 28 p) (h2 : Boxed w s2 9 (.string fr)) (h3 : Boxed w s3 9 (.string tt)) (h4 : Boxed w s4 74 (.func (.func fa) #[] la)) :
    Tells9 Try.prog False T9 w0.heap.size 67 #[.pointer (some ⟨s1, 0, none⟩), .pointer (some ⟨s2, 0, none⟩), .pointer (some ⟨s3, 0, none⟩), .pointer (some ⟨s4, 0, none⟩)] (fun v : Ver => #[verV v])
      (fun xs => ∃ ls, Told9 l fr tt ls ∧ xs = ls.flatten.filter q) (fun _ => True) (8 * many8 l) w := fun L J Jx W hW hJ hJx hY h0 => by
  have hbW : Below w0.heap.size w0 W := hw0.trans (hW.mono hw0.size)
  have B1 := Lib.hid (show Boxed W s1 _ _ from (hW.block s1 h1.lt).trans h1)
  have B2 := Lib.hid (show Boxed W s2 _ _ from (hW.block s2 h2.lt).trans h2)
  have B3 := Lib.hid (show Boxed W s3 _ _ from (hW.block s3 h3.lt).trans h3)
  have B4 := Lib.hid (show Boxed W s4 _ _ from (hW.block s4 h4.lt).trans h4)
  have AW := Lib.hid (hAk w W hAw (ckept_below hW))
  have HY := Lib.hid hY
  have HJ := Lib.hid hJ
  have H0 := Lib.hid h0
  have G := Lib.hid hbW
  have RP := Lib.hid hp
  obtain ⟨nr, vb, rfl, -⟩ := hp
  have b1 := (B1.out.alloc (.cells #[.func (.yield L) #[] #[]] 74)).cell
  have b2 := (B2.out.alloc (.cells #[.func (.yield L) #[] #[]] 74)).cell
  have b3 := (B3.out.alloc (.cells #[.func (.yield L) #[] #[]] 74)).cell
  clear hY hJ hJx h0 hW hbW h1 h2 h3 h4 hw0 hAw
  refine (callsIn_wide (n := 4)).1 ?_
  refine callsIn_of_wp_marks Try.func67 rfl trivial ?_ rfl
  simp only [Try.ntmps67, List.size_toArray, List.length_cons, List.length_nil, Nat.reduceAdd, Nat.reduceSub, Array.replicate_succ, Array.replicate_zero, List.push_toArray, List.append_toArray, List.nil_append, List.cons_append]
  gi_wp2_with fail
  refine ⟨trivial, (callsIn_wide.2 (run_mayHave _ nr rfl fr tt _)).mono ?_⟩
  rintro e w1 ⟨rfl, rfl⟩
  gi_wp2_with fail
  obtain ⟨W2, hW2⟩ : ∃ W2, (((W.alloc (.cells #[.func (.yield L) #[] #[]] 74)).alloc (.cells #[.pointer (some ⟨nr, 0, none⟩)] 28)).alloc (.cells #[.string fr] 9)).alloc (.cells #[.string tt] 9) = W2 := ⟨_, rfl⟩
  have Y5 := Lib.hid (show Boxed W2 W.heap.size 74 (.func (.yield L) #[] #[]) from by rw [← hW2]; exact (((Boxed.new W _ _).alloc _).alloc _).alloc _)
  have M1 := Lib.hid (show Boxed W2 (W.heap.size + 1) 28 (.pointer (some ⟨nr, 0, none⟩)) from by
    rw [← hW2]
    have := Boxed.new (W.alloc (.cells #[.func (.yield L) #[] #[]] 74)) 28 (.pointer (some ⟨nr, 0, none⟩))
    rw [World.size_alloc] at this
    exact (this.alloc _).alloc _)
  have M2 := Lib.hid (show Boxed W2 (W.heap.size + 1 + 1) 9 (.string fr) from by
    rw [← hW2]
    have := Boxed.new ((W.alloc (.cells #[.func (.yield L) #[] #[]] 74)).alloc (.cells #[.pointer (some ⟨nr, 0, none⟩)] 28)) 9 (.string fr)
    rw [World.size_alloc, World.size_alloc] at this
    exact this.alloc _)
  have M3 := Lib.hid (show Boxed W2 (W.heap.size + 1 + 2) 9 (.string tt) from by
    rw [← hW2]
    have := Boxed.new (((W.alloc (.cells #[.func (.yield L) #[] #[]] 74)).alloc (.cells #[.pointer (some ⟨nr, 0, none⟩)] 28)).alloc (.cells #[.string fr] 9)) 9 (.string tt)
    rw [World.size_alloc, World.size_alloc, World.size_alloc] at this
    exact this)
  have hB2 : Below W.heap.size W W2 := by
    rw [← hW2]; exact ((((Below.refl _ W).alloc (Nat.le_refl _) _).alloc (by simp) _).alloc (by simp; omega) _).alloc (by simp; omega) _
  have hs2 : W2.heap.size = W.heap.size + 4 := by rw [← hW2]; simp
  rw [hW2]
  have GB2 := Lib.hid hB2
  have G2 := Lib.hid (G.out.trans (hB2.mono G.out.size))
  have J2 := Lib.hid (HJ.out [] W W2 none H0.out ⟨hB2.os, hB2.tape, hB2.output, hB2.size, fun i hi _ => hB2.block i hi⟩ (fun _ e => by cases e))
  have A2 := Lib.hid (hAk W W2 AW.out (ckept_below hB2))
  have D4 := Lib.hid (show Boxed W2 s4 _ _ from (hB2.block s4 B4.out.lt).trans B4.out)
  clear hW2 b1 b2 b3 hB2
  refine wpIn_rangeTell (P := Try.prog) (Z := False) (T := T9) (gf := 85) (lb := #[.pointer (some ⟨W.heap.size + 1, 0, none⟩), .pointer (some ⟨W.heap.size + 1 + 1, 0, none⟩), .pointer (some ⟨W.heap.size + 1 + 2, 0, none⟩)]) rfl (enters_of Try.func85 (by kernel_rfl) rfl)
    (may_tells w0 W2 base _ l fr tt _ _ _ G2.out RP.out hl M1.out M2.out M3.out) G2.out.size (Below.refl _ _) (fun _ => rfl)
    (fun pre X => J ((Pw.ls pre).flatten.filter q) X ∧ (Boxed X W.heap.size 74 (.func (.yield L) #[] #[]) ∧ Boxed X s4 74 (.func (.func fa) #[] la) ∧ A X ∧ Below w0.heap.size w0 X ∧ W.heap.size ≤ X.heap.size))
    (fun _ _ _ => False)
    (fun s X Y row hs hg hr => ⟨HJ.out _ X Y row hs.1 hg (fun r e => ⟨by have := (hr r e).1; omega, (hr r e).2⟩), ckept_own hg (fun r e => (hr r e).2) _ _ _ _ hs.2.1 (by decide), ckept_own hg (fun r e => (hr r e).2) _ _ _ _ hs.2.2.1 (by decide), hAk X Y hs.2.2.2.1 (ckept_own hg (fun r e => (hr r e).2)),
      hs.2.2.2.2.1.grown hg hs.2.2.2.2.1.size (fun k e => by have := (hr k e).1; have := G2.out.size; omega), Nat.le_trans hs.2.2.2.2.2 hg.size⟩)
    (fun _ _ _ _ _ hs _ _ => hs)
    ⟨J2.out, Y5.out, D4.out, A2.out, G2.out, by omega⟩
    (fun x a' _ => a' = { tmps := #[.func (.yield L) #[] #[], .pointer (some ⟨s1, 0, none⟩), .pointer (some ⟨s2, 0, none⟩), .pointer (some ⟨s3, 0, none⟩), .pointer (some ⟨s4, 0, none⟩), .pointer (some ⟨W.heap.size, 0, none⟩), x.1.1, undef, undef, .pointer (some ⟨nr, 0, none⟩), .string fr, .string tt,
      .func (.func 85) #[] #[.pointer (some ⟨W.heap.size + 1, 0, none⟩), .pointer (some ⟨W.heap.size + 1 + 1, 0, none⟩), .pointer (some ⟨W.heap.size + 1 + 2, 0, none⟩)], x.1.1, undef, undef, undef, undef, undef, undef, undef, undef, undef, undef, undef, undef, undef, undef, undef, undef], defers := [] })
    (fun _ _ _ _ _ _ hs _ _ => hs)
    ?assign ?body ?done ?stop
  case assign =>
    rintro l2 pre x X K - hi hK
    gi_wp2
    exact hK _ _ (Kq.refl _ _ _ _) hi rfl
  case body =>
    rintro l2 pre x a' X hX ⟨hJX, y5, d4, aX, gX, sX⟩ rfl hlen
    have E := easy_round l2 0 Try.prog
    have YX := Lib.hid y5
    have DX := Lib.hid d4
    have AX := Lib.hid aX
    have GX := Lib.hid gX
    have JX := Lib.hid hJX
    have XR := Lib.hid x.2.1
    have X8 := x.2.2
    have PB := Lib.hid (Pw.ls_snoc pre x)
    have hpl : (Pw.ls pre).length = pre.length := by simp [Pw.ls]
    have hfl : (Pw.ls pre).flatten.length ≤ 8 * pre.length := by
      clear hJX JX PB
      induction pre with
      | nil => simp [Pw.ls]
      | cons y ys ih =>
        have h1 := ih (by simp only [List.length_cons] at hlen; omega) (by simp [Pw.ls])
        have h2 := y.2.2
        have h3 : Pw.ls (y :: ys) = y.1.2 :: Pw.ls ys := rfl
        rw [h3, List.flatten_cons, List.length_append, List.length_cons]
        omega
    have HFL := Lib.hid hfl
    have HLEN := Lib.hid hlen
    obtain ⟨vx, hvx⟩ : ∃ vx, vx = x.1.1 := ⟨_, rfl⟩
    obtain ⟨P, hf⟩ : ∃ P, P = x.1.2 := ⟨_, rfl⟩
    rw [← hvx] at XR
    rw [← hf] at XR PB X8
    simp only [← hvx]
    have XR0 := XR.out
    clear hvx hf hpl hfl hlen hJX y5 d4 aX gX
    generalize hF : (Pw.ls pre).flatten = F at *
    have HFE := Lib.hid hF
    clear hF
    obtain ⟨Ap, cp, rfl, -⟩ := XR0
    gi_wp2_with fail
    gi_loopw [16] (fun i wr => ∃ j : Nat, i = .int .i64 j ∧ j ≤ P.length ∧ J ((F ++ P.take j).filter q) wr ∧ Kq T9 w0.heap.size W2.heap.size X wr) (fun i _ => P.length - (intOf i).toNat)
    case atStart => exact ⟨0, rfl, Nat.zero_le _, by rw [List.take_zero, List.append_nil]; exact JX.out, Kq.refl _ _ _ _⟩
    case round =>
      obtain ⟨j, rfl, hj, hjj, hkq⟩ := hrel
      have JJ := Lib.hid hjj
      have KQ := Lib.hid hkq
      have GW := Lib.hid (GX.out.trans hkq.below)
      have YW := Lib.hid (hkq.box YX.out (by decide))
      have DW := Lib.hid (hkq.box DX.out (by decide))
      have AW2 := Lib.hid (hAk X wr AX.out hkq.cells)
      have SW := Lib.hid (Nat.le_trans sX hkq.size)
      clear hjj hkq
      by_cases hlt : j < P.length
      · have zl : decide ((j : Int) < (P.length : Int)) = true := by simp; omega
        have zl2 : decide (j < P.length) = true := by simp; omega
        obtain ⟨b, o, rfl, hbb, -⟩ := RdVr.here XR.out j hlt
        obtain ⟨v, hv⟩ : ∃ v, P[j] = v := ⟨_, rfl⟩
        have HTS := Lib.hid (show P.take (j + 1) = P.take j ++ [v] from by rw [List.take_succ_eq_append_getElem hlt, hv])
        obtain ⟨-, c0, c1, c2, c3, c4, c5, c6, c7⟩ := RdVr.cells1 (XR.out.below GW.out) j hlt hv
        have ASK := Lib.hid (fun W h => hAsk v W h)
        have HYV := Lib.hid (fun pre W1 h1 h2 h3 => HY.out pre v W1 h1 h2 h3)
        obtain ⟨r, hr⟩ : ∃ r, q v = r := ⟨_, rfl⟩
        rw [hr] at ASK
        have HQ := Lib.hid hr
        have HLT := Lib.hid (show ((F ++ P.take j).filter q).length < 8 * many8 l from by
          have h1 := List.length_filter_le q (F ++ P.take j)
          rw [List.length_append, List.length_take] at h1
          have := HFL.out; have := HLEN.out; omega)
        have HJ1 := Lib.hid (show ∀ z, J ((F ++ P.take j).filter q) z → r = false → J ((F ++ P.take (j + 1)).filter q) z from fun z hz hr2 => by
          rw [HTS.out, ← List.append_assoc, List.filter_append, List.filter_cons_of_neg (by rw [HQ.out, hr2]; simp), List.filter_nil, List.append_nil]; exact hz)
        have HJ2 := Lib.hid (show r = true → (F ++ P.take (j + 1)).filter q = (F ++ P.take j).filter q ++ [v] from fun hr2 => by
          rw [HTS.out, ← List.append_assoc, List.filter_append, List.filter_cons_of_pos (by rw [HQ.out, hr2]), List.filter_nil])
        generalize (F ++ P.take j).filter q = out at *
        clear hv hr
        obtain ⟨kk, bb, ee, ss, ⟨xx, yy⟩, uu, gg⟩ := v
        have hvv : verV ⟨kk, bb, ee, ss, (xx, yy), uu, gg⟩ = .agg #[.string kk, .int .i64 bb, .int .i64 ee, .int .i64 ss, .int .i64 xx, .int .i64 yy, .string uu, .bool gg] := rfl
        rw [hvv] at ASK HYV
        simp only at c0 c1 c2 c3 c4 c5 c6 c7
        have BX := Lib.hid (Box.new wr #[.string kk, .int .i64 bb, .int .i64 ee, .int .i64 ss, .int .i64 xx, .int .i64 yy, .string uu, .bool gg] 42 _ rfl)
        have BL := Lib.hid (alloc_below wr (.cells #[.string kk, .int .i64 bb, .int .i64 ee, .int .i64 ss, .int .i64 xx, .int .i64 yy, .string uu, .bool gg] 42))
        have d4 := (DW.out.alloc (.cells #[.string kk, .int .i64 bb, .int .i64 ee, .int .i64 ss, .int .i64 xx, .int .i64 yy, .string uu, .bool gg] 42)).cell
        have AA := Lib.hid (hAk wr _ AW2.out (ckept_below BL.out))
        clear hvv
        gi_wp2_with fail
        refine ⟨trivial, rfl, (E.calls (ASK.out _ AA.out)).mono ?_⟩
        rintro e w5 ⟨rfl, hb5⟩
        have hb : Below wr.heap.size wr w5 := BL.out.trans (hb5.mono (by simp))
        have BW := Lib.hid hb
        have J5 := Lib.hid (HJ.out out wr w5 none JJ.out ⟨hb.os, hb.tape, hb.output, hb.size, fun i hi _ => hb.block i hi⟩ (fun _ e => by cases e))
        have K5 := Lib.hid (KQ.out.trans (Kq.of_below (T := T9) (B := W2.heap.size) hb GW.out.size))
        have S5 := Lib.hid (Nat.le_trans SW.out hb.size)
        have hbx := BX.out.later hb5
        have e0 := hbx.cell 0 _ rfl
        have e1 := hbx.cell 1 _ rfl
        have e2 := hbx.cell 2 _ rfl
        have e3 := hbx.cell 3 _ rfl
        have e4 := hbx.cell 4 _ rfl
        have e5 := hbx.cell 5 _ rfl
        have e6 := hbx.cell 6 _ rfl
        have e7 := hbx.cell 7 _ rfl
        have y5 := (show Boxed w5 W.heap.size 74 _ from (hb.block _ YW.out.lt).trans YW.out).cell
        clear hb hb5 hbx c0 c1 c2 c3 c4 c5 c6 c7 d4
        cases r
        · have J6 := Lib.hid (HJ1.out _ J5.out rfl)
          gi_wp2_with fail
          refine ⟨fun _ h => (by cases h), ?_⟩
          gi_wp2_with fail
          go_roundw
          case rel => exact ⟨j + 1, by go_num, hlt, J6.out, K5.out⟩
          case measure => simp [intOf]; omega
        · obtain ⟨fn, tmps, assign, body, hy, hR⟩ := HYV.out out w5 J5.out HLT.out S5.out
          have HJ3 := Lib.hid (HJ2.out rfl)
          gi_wp2_with fail
          refine ⟨rfl, (round_any _ _ hR).mono ?_⟩
          rintro e W3 ⟨hres, hk3⟩
          rcases hres with ⟨rfl, hJ3⟩ | ⟨hz, -⟩
          rotate_left
          · exact hz.elim
          rw [← HJ3.out] at hJ3
          have J6 := Lib.hid hJ3
          have K6 := Lib.hid (K5.out.trans (hk3.mono (by omega)))
          clear hJ3 hk3 hy e0 e1 e2 e3 e4 e5 e6 e7 y5
          gi_wp2_with fail
          go_roundw
          case rel => exact ⟨j + 1, by go_num, hlt, J6.out, K6.out⟩
          case measure => simp [intOf]; omega
      · have hje : j = P.length := by omega
        subst hje
        have zl : decide ((P.length : Int) < (P.length : Int)) = false := by simp
        have HE := Lib.hid (show (F ++ P.take P.length).filter q = (Pw.ls (pre ++ [x])).flatten.filter q from by
          rw [PB.out, List.take_length, List.flatten_append, List.flatten_singleton, HFE.out])
        gi_wp2_with fail
        rw [HE.out] at JJ
        exact ⟨KQ.out, JJ.out, YW.out, DW.out, AW2.out, GW.out, SW.out⟩
  case done =>
    rintro D ys X hD hS ⟨hJX, -, -, -, -, -⟩ hK
    gi_wp2_with fail
    refine ⟨by simp, .inl ⟨_, _, rfl, run_takeDeferred (show X.heap[D]? = _ from hK), ?_⟩⟩
    exact ⟨_, results_none rfl _ _ _, ⟨_, rfl⟩, .inl ⟨_, ⟨_, hS, rfl⟩, HJ.out _ X _ (some D) hJX (grownBy_putObj' X D _) (fun r e => by cases e; exact ⟨by omega, _, hK, rfl⟩)⟩⟩
  case stop =>
    rintro D c pre X _ _ h _
    exact h.elim
end Go.Proofs.Ytefjdmlmmoeoaaa
