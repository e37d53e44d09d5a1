/- Layer 8: versions in pieces, by the project. -/
import Derived.Test.YtefjdmlmmoeoaaaUj
import Derived.RangeFuncBox
namespace Go.Proofs.Ytefjdmlmmoeoaaa
open Go.RowKit Go.Shelf
set_option linter.unusedVariables false
attribute [local go_sem] Oper.semAt_some

theorem KpC.grown {n₀ s1 s2 : Nat} {A B : World} {row : Option Nat} (hg : A.grownBy B row) (hn : n₀ ≤ A.heap.size) (h1 : s1 < A.heap.size) (h2 : s2 < A.heap.size) (hr : ∀ k, row = some k → n₀ ≤ k ∧ k ≠ s1 ∧ k ≠ s2) : KpC n₀ s1 s2 A B :=
  ⟨(Below.refl n₀ A).grown hg hn (fun k e => (hr k e).1), hg.block s1 h1 (fun e => (hr s1 e.symm).2.1 rfl), hg.block s2 h2 (fun e => (hr s2 e.symm).2.2 rfl)⟩
theorem KpC.put {n₀ s1 s2 : Nat} (w : World) (l : Nat) (o o' : Obj) (h1 : s1 < l) (h2 : s2 < l) (hn : n₀ ≤ l) (h : w.heap[l]? = some o) : KpC n₀ s1 s2 w (w.putObj l o') := by
  have hl := (Array.getElem?_eq_some_iff.1 h).1
  exact KpC.grown (grownBy_putObj' w l o') (by omega) (by omega) (by omega) (fun k e => by cases e; omega)
theorem KpC.setC {n₀ s1 s2 : Nat} (w : World) (v : Value) (h1 : n₀ ≠ s1) (h2 : n₀ ≠ s2) : KpC n₀ s1 s2 w (w.setCell ⟨n₀, 0, none⟩ v) :=
  ⟨below_set w 0 v, Below.heap_setCell w _ v s1 (fun e => h1 e.symm), Below.heap_setCell w _ v s2 (fun e => h2 e.symm)⟩

/-- Between two rounds: the list that has come, in its box. -/
def FI8 (w : World) {W1 : World} {n₀ : Nat} (pre : List (Pv W1 n₀)) (W : World) : Prop :=
  (∃ v, Boxed W w.heap.size 57 v ∧ OwnNV W (w.heap.size + 3) v (Pv.vs pre)) ∧ Below w.heap.size w W ∧ w.heap.size + 3 ≤ W.heap.size
theorem FI8.own {w : World} {B n₀ : Nat} {W1 : World} (hB : w.heap.size ≤ B) : OwnFrom B (fun (pre : List (Pv W1 n₀)) W => FI8 w pre W) := by
  rintro s X Y row ⟨⟨v, h1, h2⟩, h4, h5⟩ hg hr
  have hr' : ∀ j, row = some j → ∃ o : Obj, X.heap[j]? = some o ∧ o.isCells = false := fun j e => (hr j e).2
  have hbox : ∀ {b : Nat} {t : TypeId} {u : Value}, Boxed X b t u → Boxed Y b t u := fun {b t u} h => h.kept hg (fun e => by
    obtain ⟨o, ho, hc⟩ := hr' b e.symm
    rw [show X.heap[b]? = _ from h] at ho; cases ho; cases hc)
  exact ⟨⟨v, hbox h1, h2.turn hg hr'⟩, h4.grown hg h4.size (fun k e => Nat.le_trans hB (hr k e).1), Nat.le_trans h5 hg.size⟩

set_option maxRecDepth 100000 in
set_option maxHeartbeats 2000000 in
theorem blk_cut (v : Value) (l : List Ver) (w : World) (h : RdVr w w.heap.size v l) (hl : l.length ≤ 100000) :
    Calls Try.prog 28 #[v] w fun e w' => ∃ v', e = .returned v' ∧ OwnNV w' (w.heap.size + 3) v' (pcs8 l) ∧ Below w.heap.size w w' := by
  have R := Lib.hid h
  obtain ⟨A, c, rfl, -⟩ := h
  have b0 := Boxed.new w 57 (.slice none 0 0)
  have b1 := Boxed.new (w.alloc (.cells #[.slice none 0 0] 57)) 22 (.slice A l.length c)
  have b2 := Boxed.new ((w.alloc (.cells #[.slice none 0 0] 57)).alloc (.cells #[.slice A l.length c] 22)) 3 (.int .i64 8)
  have hB : Below w.heap.size w (((w.alloc (.cells #[.slice none 0 0] 57)).alloc (.cells #[.slice A l.length c] 22)).alloc (.cells #[.int .i64 8] 3)) :=
    (((Below.refl _ w).alloc (Nat.le_refl _) _).alloc (by simp) _).alloc (by simp; omega) _
  rw [World.size_alloc, World.size_alloc] at b2
  rw [World.size_alloc] at b1
  have B0 := Lib.hid ((b0.alloc (.cells #[.slice A l.length c] 22)).alloc (.cells #[.int .i64 8] 3))
  have B1 := Lib.hid (b1.alloc (.cells #[.int .i64 8] 3))
  have B2 := Lib.hid b2
  have G := Lib.hid hB
  clear b0 b1 b2 hB
  refine (callsIn_wide (n := 4)).1 ?_
  refine callsIn_of_wp_marks Try.func28 rfl trivial ?_ rfl
  simp only [Try.ntmps28, List.size_toArray, List.length_cons, List.length_nil, Nat.reduceAdd, Nat.reduceSub, Array.replicate_succ, Array.replicate_zero, List.push_toArray, List.append_toArray, List.nil_append, List.cons_append]
  gi_wp2_with fail
  refine ⟨trivial, (callsIn_wide.2 (blk_chunk _ _ _ _)).mono ?_⟩
  rintro e w1 ⟨rfl, rfl⟩
  gi_wp2_with fail
  have hsz : (((w.alloc (.cells #[.slice none 0 0] 57)).alloc (.cells #[.slice A l.length c] 22)).alloc (.cells #[.int .i64 8] 3)).heap.size = w.heap.size + 3 := by simp
  generalize ((w.alloc (.cells #[.slice none 0 0] 57)).alloc (.cells #[.slice A l.length c] 22)).alloc (.cells #[.int .i64 8] 3) = W1 at *
  refine wpIn_rangeFunc_ownG rfl (by omega) (gf := 69) (lb := #[.pointer (some ⟨w.heap.size + 1, 0, none⟩), .pointer (some ⟨w.heap.size + 2, 0, none⟩)]) rfl trivial (enters_of Try.func69 (by kernel_rfl) rfl)
    (chunk_stops 3 w.heap.size (w.heap.size + 1) (w.heap.size + 2) _ l W1 (by omega) B1.out B2.out (R.out.below G.out) hl) KpC.trans (fun W l o o' hl ho _ _ => KpC.put W l o o' (by omega) (by omega) (by omega) ho) (Below.refl _ _) (fun _ => rfl)
    (fun pre W => FI8 w pre W) (fun _ _ _ => False) (FI8.own (by omega)) (fun _ _ _ _ _ hs _ _ => hs)
    ⟨⟨_, B0.out, OwnNV.nil _ _⟩, G.out, by omega⟩
    (fun x => { tmps := #[.slice A l.length c, undef, .slice none 0 0, .pointer (some ⟨w.heap.size, 0, none⟩), x.1.1, .slice A l.length c, .func (.func 69) #[] #[.pointer (some ⟨w.heap.size + 1, 0, none⟩), .pointer (some ⟨w.heap.size + 2, 0, none⟩)], x.1.1, undef, undef, undef, undef, undef, undef], defers := [] }) ?assign ?body ?done ?stop
  case assign =>
    intro L x W K hK
    gi_wp2
    exact hK
  case body =>
    rintro L pre x W ⟨⟨v, hv, hrow⟩, hB, hs3⟩ hlt
    have E := easy_round L (4 - 1 - 1) Try.prog
    have XR := Lib.hid ((x.2.1.back G.out).below hB)
    have X8 := x.2.2
    have PB := Lib.hid (Pv.vs_snoc pre x)
    have hpl : (Pv.vs pre).length = pre.length := by simp [Pv.vs]
    have HPL := Lib.hid hpl
    clear hpl
    obtain ⟨vx, hvx⟩ : ∃ vx, vx = x.1.1 := ⟨_, rfl⟩
    obtain ⟨f, hf⟩ : ∃ f, f = x.1.2 := ⟨_, rfl⟩
    rw [← hvx] at XR
    rw [← hf] at XR PB X8
    simp only [← hvx]
    have XR0 := XR.out
    clear hvx hf
    obtain ⟨Ax, cx, rfl, -⟩ := XR0
    have V := Lib.hid hv
    have O := Lib.hid hrow
    have GB := Lib.hid hB
    have HS3 := Lib.hid hs3
    clear hv hrow hB hs3
    gi_wp2_with fail
    refine regj_start [5] (fun W' => W'.cell? ⟨w.heap.size, 0, none⟩ = some v) (by kernel_rfl) ?_
    have HI : (fun W' : World => W'.cell? ⟨w.heap.size, 0, none⟩ = some v) W.drew := V.out.cell
    refine regj_take E 0 8 (v := ?_) (T' := ?_) HI (by kernel_rfl) (by kernel_rfl) (by kernel_rfl) (by kernel_rfl) (by kernel_rfl) (fun _ _ _ h => h) (fun o ho => ?_) ?_ ?_
    rotate_left 2
    · cases ho
      refine ⟨rfl, rfl, fun W' hW => ?_⟩
      have hW : W'.cell? ⟨w.heap.size, 0, none⟩ = some v := hW
      go_simp; (try with_reducible rfl)
    · simp only [List.setIfInBounds_toArray, List.set_cons_succ, List.set_cons_zero]; exact rfl
    refine regj_take E 1 9 (v := ?_) (T' := ?_) HI (by kernel_rfl) (by kernel_rfl) (by kernel_rfl) (by kernel_rfl) (by kernel_rfl) (fun _ _ _ h => h) (fun o ho => ?_) ?_ ?_
    rotate_left 2
    · cases ho
      refine ⟨rfl, rfl, fun W' hW => ?_⟩
      have hW : W'.cell? ⟨w.heap.size, 0, none⟩ = some v := hW
      go_simp; (try with_reducible rfl)
    · simp only [List.setIfInBounds_toArray, List.set_cons_succ, List.set_cons_zero]; exact rfl
    refine regj_call E (I' := fun W' => W'.cell? ⟨w.heap.size, 0, none⟩ = some v) (fun _ h => h) 2 10 (by kernel_rfl) (by kernel_rfl) 48 #[.slice Ax f.length cx] (fun o ho => by cases ho; exact ⟨rfl, rfl, fun W => by go_simp⟩) ?_
    refine (clone_vers _ f W.drew ((show RdVr W.drew _ _ _ from XR.out).more (show _ ≤ W.heap.size from GB.out.size)) (by omega)).mono ?_
    rintro e w3 ⟨v3, rfl, ho3, hb3⟩
    have V3 := Lib.hid (Boxed.below8 (show Boxed W.drew _ _ _ from V.out) hb3)
    have O3 := Lib.hid (OwnNV.on (show OwnNV W.drew _ _ _ from O.out) hb3)
    have hne : ∀ k, v3.ownBlock = some k → some k ≠ v.ownBlock := fun k hk e => by
      have h1 := (World.ownsRow.lt ho3 k hk).1
      have h2 := (OwnNV.lt (show OwnNV W.drew _ _ _ from O.out) k e.symm).2
      omega
    have U3 : OwnVr w3 (w.heap.size + 3) v3 f := OwnX.mono ho3 HS3.out
    have hsz3 : w.heap.size + 3 ≤ w3.heap.size := Nat.le_trans HS3.out hb3.size
    refine ⟨_, _, rfl, V3.out.cell, (by simp only [List.setIfInBounds_toArray, List.set_cons_succ, List.set_cons_zero]; exact rfl), ?_⟩
    refine regj_make E (I' := fun W' => W'.cell? ⟨w.heap.size, 0, none⟩ = some v) (fun _ h => h) 3 (some 11) (v := .slice (some ⟨w3.heap.size, 0, none⟩) 1 1) (w' := w3.alloc (.cells #[v3] 22)) (T' := ?_) (by kernel_rfl) (by kernel_rfl) (fun o ho => ?_) (.inr (V3.out.alloc _).cell) ?_ ?_
    rotate_left
    · cases ho
      obtain ⟨A3, c3, rfl, -⟩ := ho3.rd
      refine ⟨rfl, rfl, ?_⟩
      go_simp
    · simp only [Act.put, List.setIfInBounds_toArray, List.set_cons_succ, List.set_cons_zero]; exact rfl
    have hbm : (Pv.vs pre).length ≤ 1000000000 := by have := HPL.out; omega
    obtain ⟨v5, w5, hrun, ho5, hg5, hs5⟩ := app_nv_run (W := w3.alloc (.cells #[v3] 22)) (g := w3.heap.size) (c := 1) (ty := 57) (O3.out.on (alloc_below _ _)) (OwnX.on U3 (alloc_below _ _)) hne (heap_alloc_new w3 _) (by simp; omega) hbm
    have O4 := Lib.hid (O3.out.on (alloc_below w3 (.cells #[v3] 22)))
    have V4 := Lib.hid (V3.out.alloc (.cells #[v3] 22))
    have V5 := Lib.hid (V4.out.kept hg5.grown (Boxed.not_nv V4.out (by decide) O4.out))
    have K5 := Lib.hid ((((KeepsOthers.drew W).trans (keeps_below8 hb3)).trans (KeepsOthers.alloc w3 (.cells #[v3] 22))).trans (keeps_grew8 O4.out hg5))
    have P3 := Lib.hid (show KpC w.heap.size (w.heap.size + 1) (w.heap.size + 2) W w3 from (show KpC w.heap.size (w.heap.size + 1) (w.heap.size + 2) W W.drew from (KpC.refl _ _ _ W).drewN 1).trans (KpC.of_below hb3 (show w.heap.size ≤ W.heap.size from GB.out.size) (show w.heap.size + 1 < W.heap.size from by have := HS3.out; omega) (show w.heap.size + 2 < W.heap.size from by have := HS3.out; omega)))
    have P4 := Lib.hid (P3.out.trans (KpC.of_below (alloc_below w3 (.cells #[v3] 22)) (by omega) (by omega) (by omega)))
    have P5 := Lib.hid (P4.out.trans (KpC.grown hg5.grown (by simp; omega) (by simp; omega) (by simp; omega) (fun k e => by have := OwnNV.base O4.out k e; omega)))
    have RUN := hrun
    obtain ⟨A5, c5, hv5⟩ : ∃ A c, v5 = .slice A ((Pv.vs pre).length + 1) c := by
      obtain ⟨vs, hr5, -, -⟩ := ho5
      rcases hr5.2 with ⟨e1, e2⟩ | ⟨g5, cap5, cur5, e1, -⟩
      · exfalso; rw [List.length_append, List.length_singleton] at e2; omega
      · rw [List.length_append, List.length_singleton] at e1; exact ⟨_, _, e1⟩
    have O5 := Lib.hid ho5
    have hsz5 : w.heap.size + 3 ≤ w5.heap.size := Nat.le_trans hsz3 (Nat.le_trans (alloc_below w3 (.cells #[v3] 22)).size hs5)
    clear ho5 hg5 hrun hb3
    refine regj_make E (I' := fun W' => W'.cell? ⟨w.heap.size, 0, none⟩ = some v) (fun _ h => h) 4 (some 12) (v := v5) (w' := w5) (T' := ?_) (by kernel_rfl) (by kernel_rfl) (fun o ho => ?_) (.inr V5.out.cell) ?_ ?_
    rotate_left
    · cases ho
      exact ⟨rfl, rfl, exec_app (.tmp 8) (.tmp 11) rfl rfl rfl RUN⟩
    · simp only [Act.put, List.setIfInBounds_toArray, List.set_cons_succ, List.set_cons_zero]; exact rfl
    subst hv5
    have hc5 := V5.out.cell
    have hf5 := V5.out.frozen
    refine regj_store E (I' := fun _ => False) (fun _ h => h.elim) 5 (w' := ?_) (by kernel_rfl) (by kernel_rfl) (fun o ho => ?_) (.inl rfl) ?_
    rotate_left 1
    · cases ho
      refine ⟨rfl, rfl, ?_⟩
      go_simp
      with_reducible rfl
    refine regj_done (by kernel_rfl) ?_
    have V6 := Lib.hid (V5.out.set (.slice A5 ((Pv.vs pre).length + 1) c5))
    have O6 := Lib.hid (OwnNV.box (x := .slice A5 ((Pv.vs pre).length + 1) c5) O5.out V5.out (by decide))
    have K6 := Lib.hid (K5.out.trans (KeepsOthers.setCell w5 ⟨w.heap.size, 0, none⟩ (.slice A5 ((Pv.vs pre).length + 1) c5)))
    have P6 := Lib.hid (P5.out.trans (KpC.setC (s1 := w.heap.size + 1) (s2 := w.heap.size + 2) w5 (.slice A5 ((Pv.vs pre).length + 1) c5) (by omega) (by omega)))
    refine ⟨K6.out.from _, P6.out, ⟨_, V6.out, by rw [PB.out]; exact O6.out⟩, GB.out.trans P6.out.1, by simp [World.setCell]; omega⟩
  case done =>
    rintro D ys W hD hfr ⟨⟨v, hv, hrow⟩, hB, hs3⟩ hK
    have hc := hv.cell
    gi_wp2_with fail
    refine ⟨by simp, .inl ⟨_, _, rfl, run_takeDeferred (show W.heap[D]? = _ from hK), ?_⟩⟩
    rw [← hfr]
    exact ⟨_, results_tmp rfl _ _ _, v, rfl, OwnNV.turn hrow (grownBy_putObj' _ D _) (fun r e => by cases e; exact ⟨_, hK, rfl⟩), hB.trans (belowK_b (w := w) (Nat.le_refl _) W D _ _ (by omega) hK rfl rfl)⟩
  case stop =>
    rintro D c pre W _ _ h _
    exact h.elim
end Go.Proofs.Ytefjdmlmmoeoaaa
