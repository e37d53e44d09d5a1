/- Layer 3: the frames at the beginning, as the program tells them. -/
import Derived.Test.YtdpjohehmbddnaaCk
import Derived.RangeFuncBox
import Derived.Sort.QuietIn
namespace Go.Proofs.Ytdpjohehmbddnaa
open Go.RowKit Go.Shelf
set_option linter.unusedVariables false
attribute [local go_sem] Oper.semAt_some

theorem chk_iter (A : Option Addr) (n c : Nat) (w : World) :
    Calls Try.prog 25 #[.slice A n c] w fun e w' => e = .returned (.func (.func 31) #[] #[.pointer (some ⟨w.heap.size, 0, none⟩)]) ∧ w' = w.alloc (.cells #[.slice A n c] 22) := by
  go_enter Try.func25, Try.ntmps25
  go_wp2
  go_ret
  exact ⟨rfl, rfl⟩

theorem Fr.sum_le {w : World} {n₀ : Nat} (xs : List (Fr w n₀)) : Fr.sum xs ≤ xs.length * 1000000 := by
  induction xs with
  | nil => simp [Fr.sum]
  | cons x xs ih =>
    have h1 := x.2.2.2
    have h2 : Fr.sum (x :: xs) = x.1.2.length + Fr.sum xs := by simp [Fr.sum]
    rw [h2, List.length_cons, Nat.succ_mul]
    omega

/-- Between two rounds: the list that has come, in its box; how long the frames are, in its. -/
def FI (w : World) (n₀ : Nat) {W1 : World} (pre : List (Fr W1 n₀)) (W : World) : Prop :=
  ((∃ v, Boxed W n₀ 29 v ∧ OwnNB W n₀ v (Fr.bodies pre)) ∧ Boxed W (n₀ + 1) 3 (.int .i64 (Fr.sum pre))) ∧ Below n₀ w W

theorem FI.own {w : World} {n₀ B : Nat} {W1 : World} (hn : n₀ ≤ w.heap.size) (hB : n₀ ≤ B) : OwnFrom B (fun (pre : List (Fr W1 n₀)) W => FI w n₀ pre W) := by
  rintro s X Y row ⟨⟨⟨v, h1, h2⟩, h3⟩, h4⟩ hg hr
  have hr' : ∀ j, row = some j → ∃ o : Obj, X.heap[j]? = some o ∧ o.isCells = false := fun j e => (hr j e).2
  have hbox : ∀ {b : Nat} {t : TypeId} {u : Value}, Boxed X b t u → Boxed Y b t u := fun {b t u} h => h.kept hg (fun e => by
    obtain ⟨o, ho, hc⟩ := hr' b e.symm
    rw [show X.heap[b]? = _ from h] at ho; cases ho; cases hc)
  exact ⟨⟨⟨v, hbox h1, h2.turn hg hr'⟩, hbox h3⟩, h4.grown hg (Nat.le_trans hn h4.size) (fun k e => Nat.le_trans hB (hr k e).1)⟩

set_option maxRecDepth 100000 in
set_option maxHeartbeats 1000000 in
theorem chk_frames (v : Value) (l : List UInt8) (w : World) (h : RdB w w.heap.size v l) (hl : l.length ≤ 1000000) :
    Calls Try.prog 16 #[v] w fun e w' => ∃ v', e = .returned (.tuple #[v', .int .i64 (frs l).2]) ∧ OwnNB w' w.heap.size v' (frs l).1 ∧ Below w.heap.size w w' := by
  have R := Lib.hid h
  obtain ⟨A, c, rfl, -⟩ := h
  have b0 := Boxed.new w 29 (.slice none 0 0)
  have b1 := Boxed.new (w.alloc (.cells #[.slice none 0 0] 29)) 3 (.int .i64 0)
  have b2 := Boxed.new ((w.alloc (.cells #[.slice none 0 0] 29)).alloc (.cells #[.int .i64 0] 3)) 22 (.slice A l.length c)
  have hB : Below w.heap.size w (((w.alloc (.cells #[.slice none 0 0] 29)).alloc (.cells #[.int .i64 0] 3)).alloc (.cells #[.slice A l.length c] 22)) :=
    (((Below.refl _ w).alloc (Nat.le_refl _) _).alloc (by simp) _).alloc (by simp; omega) _
  rw [World.size_alloc, World.size_alloc] at b2
  rw [World.size_alloc] at b1
  have B0 := Lib.hid ((b0.alloc (.cells #[.int .i64 0] 3)).alloc (.cells #[.slice A l.length c] 22))
  have B1 := Lib.hid (b1.alloc (.cells #[.slice A l.length c] 22))
  have B2 := Lib.hid b2
  have G := Lib.hid hB
  clear b0 b1 b2 hB
  refine (callsIn_wide (n := 4)).1 ?_
  refine callsIn_of_wp_marks Try.func16 rfl trivial ?_ rfl
  simp only [Try.ntmps16, List.size_toArray, List.length_cons, List.length_nil, Nat.reduceAdd, Nat.reduceSub, Array.replicate_succ, Array.replicate_zero, List.push_toArray, List.append_toArray, List.nil_append, List.cons_append]
  gi_wp2_with fail
  refine ⟨trivial, (callsIn_wide.2 (chk_iter _ _ _ _)).mono ?_⟩
  rintro e w1 ⟨rfl, rfl⟩
  gi_wp2_with fail
  have hsz : (((w.alloc (.cells #[.slice none 0 0] 29)).alloc (.cells #[.int .i64 0] 3)).alloc (.cells #[.slice A l.length c] 22)).heap.size = w.heap.size + 3 := by simp
  generalize ((w.alloc (.cells #[.slice none 0 0] 29)).alloc (.cells #[.int .i64 0] 3)).alloc (.cells #[.slice A l.length c] 22) = W1 at *
  refine wpIn_rangeFunc_ownG rfl (by omega) (gf := 31) (lb := #[.pointer (some ⟨w.heap.size + 2, 0, none⟩)]) rfl trivial (enters_of Try.func31 (by kernel_rfl) rfl)
    (frames_stops 3 w.heap.size (w.heap.size + 2) _ l W1 (by omega) B2.out.cell (by omega) (R.out.below G.out) hl) belowK_t (belowK_b (by omega)) (Below.refl _ _) (fun _ => rfl)
    (fun pre W => FI w w.heap.size pre W) (fun _ _ _ => False) (FI.own (Nat.le_refl _) (by omega)) (fun _ _ _ _ _ hs _ _ => hs)
    ⟨⟨⟨_, B0.out, OwnNB.nil _ _⟩, B1.out⟩, G.out⟩
    (fun x => { tmps := #[.slice A l.length c, undef, .slice none 0 0, .int .i64 0, .pointer (some ⟨w.heap.size, 0, none⟩), .pointer (some ⟨w.heap.size + 1, 0, none⟩), x.1.1, .slice A l.length c, .func (.func 31) #[] #[.pointer (some ⟨w.heap.size + 2, 0, none⟩)], x.1.1, undef, undef, undef, undef, undef, undef, undef, undef, undef, undef, undef, undef], defers := [] }) ?assign ?body ?done ?stop
  case assign =>
    intro L x W K hK
    gi_wp2
    exact hK
  case body =>
    rintro L pre x W ⟨⟨⟨v, hv, hrow⟩, hn⟩, hB⟩ hlt
    have E := easy_round L (4 - 1 - 1) Try.prog
    have XR := Lib.hid ((x.2.1.back G.out).below hB)
    have X8 := x.2.2.1
    have X9 := x.2.2.2
    have PB := Lib.hid (Fr.bodies_snoc pre x)
    have PS := Lib.hid (Fr.sum_snoc pre x)
    have hpl : (Fr.bodies pre).length = pre.length := by simp [Fr.bodies]
    have HPL := Lib.hid hpl
    have hsl := Fr.sum_le pre
    have hsb : Fr.sum pre ≤ 1000000000000 := by omega
    clear hsl
    clear hpl
    obtain ⟨vx, hvx⟩ : ∃ vx, vx = x.1.1 := ⟨_, rfl⟩
    obtain ⟨f, hf⟩ : ∃ f, f = x.1.2 := ⟨_, rfl⟩
    rw [← hvx] at XR
    rw [← hf] at XR PB PS X8 X9
    simp only [← hvx]
    have XR0 := XR.out
    clear hvx hf
    obtain ⟨Ax, cx, rfl, -⟩ := XR0
    have V := Lib.hid hv
    have O := Lib.hid hrow
    have N := Lib.hid hn
    have GB := Lib.hid hB
    clear hv hrow hn hB
    gi_wp2_with fail
    refine regj_start [6] (fun W' => W'.cell? ⟨w.heap.size, 0, none⟩ = some v) (by kernel_rfl) ?_
    have HI : (fun W' : World => W'.cell? ⟨w.heap.size, 0, none⟩ = some v) W.drew := V.out.cell
    refine regj_take E 0 10 (v := ?_) (T' := ?_) HI (by kernel_rfl) (by kernel_rfl) (by kernel_rfl) (by kernel_rfl) (by kernel_rfl) (fun _ _ _ h => h) (fun o ho => ?_) ?_ ?_
    rotate_left 2
    · cases ho
      refine ⟨rfl, rfl, fun W' hW => ?_⟩
      have hW : W'.cell? ⟨w.heap.size, 0, none⟩ = some v := hW
      go_simp; (try with_reducible rfl)
    · simp only [List.setIfInBounds_toArray, List.set_cons_succ, List.set_cons_zero]; exact rfl
    refine regj_take E 1 11 (v := ?_) (T' := ?_) HI (by kernel_rfl) (by kernel_rfl) (by kernel_rfl) (by kernel_rfl) (by kernel_rfl) (fun _ _ _ h => h) (fun o ho => ?_) ?_ ?_
    rotate_left 2
    · cases ho
      refine ⟨rfl, rfl, fun W' hW => ?_⟩
      have hW : W'.cell? ⟨w.heap.size, 0, none⟩ = some v := hW
      go_simp; (try with_reducible rfl)
    · simp only [List.setIfInBounds_toArray, List.set_cons_succ, List.set_cons_zero]; exact rfl
    refine regj_call E (I' := fun W' => W'.cell? ⟨w.heap.size, 0, none⟩ = some v) (fun _ h => h) 2 12 (by kernel_rfl) (by kernel_rfl) 27 #[.slice Ax f.length cx] (fun o ho => by cases ho; exact ⟨rfl, rfl, fun W => by go_simp⟩) ?_
    refine (chk_body w.heap.size _ f _ (show RdB W.drew _ _ _ from XR.out) X8).mono ?_
    rintro e w1 ⟨A1, c1, rfl, hr1, rfl⟩
    have R1 := Lib.hid hr1
    clear hr1
    refine ⟨_, _, rfl, HI, (by simp only [List.setIfInBounds_toArray, List.set_cons_succ, List.set_cons_zero]; exact rfl), ?_⟩
    have hlb : (f.drop 8).length = f.length - 8 := List.length_drop ..
    refine regj_call E (I' := fun W' => W'.cell? ⟨w.heap.size, 0, none⟩ = some v) (fun _ h => h) 3 13 (by kernel_rfl) (by kernel_rfl) 26 #[.slice A1 (f.length - 8) c1] (fun o ho => by cases ho; exact ⟨rfl, rfl, fun W => by go_simp⟩) ?_
    refine (clone_any _ (f.drop 8) W.drew (R1.out.more (show _ ≤ W.heap.size from GB.out.size)) (by omega)).mono ?_
    rintro e w3 ⟨v3, rfl, ho3, hb3⟩
    have V3 := Lib.hid (Boxed.below (show Boxed W.drew _ _ _ from V.out) hb3)
    have O3 := Lib.hid (OwnNB.on (show OwnNB W.drew _ _ _ from O.out) hb3)
    have N3 := Lib.hid (Boxed.below (show Boxed W.drew _ _ _ from N.out) hb3)
    have hne : ∀ k, v3.ownBlock = some k → some k ≠ v.ownBlock := fun k hk e => by
      have h1 := (World.ownsRow.lt ho3 k hk).1
      have h2 := (OwnNB.lt (show OwnNB W.drew _ _ _ from O.out) k e.symm).2
      omega
    have U3 : OwnB w3 w.heap.size v3 (f.drop 8) := ⟨ho3.1, ho3.2.imp id fun ⟨g, cap, cur, e, hg, h3⟩ => ⟨g, cap, cur, e, Nat.le_trans GB.out.size hg, h3⟩⟩
    have hsz3 : w.heap.size ≤ w3.heap.size := Nat.le_trans GB.out.size hb3.size
    refine ⟨_, _, rfl, V3.out.cell, (by simp only [List.setIfInBounds_toArray, List.set_cons_succ, List.set_cons_zero]; exact rfl), ?_⟩
    refine regj_make E (I' := fun W' => W'.cell? ⟨w.heap.size, 0, none⟩ = some v) (fun _ h => h) 4 (some 14) (v := .slice (some ⟨w3.heap.size, 0, none⟩) 1 1) (w' := w3.alloc (.cells #[v3] 22)) (T' := ?_) (by kernel_rfl) (by kernel_rfl) (fun o ho => ?_) (.inr (V3.out.alloc _).cell) ?_ ?_
    rotate_left
    · cases ho
      obtain ⟨A3, c3, rfl, -⟩ := ho3.rd
      refine ⟨rfl, rfl, ?_⟩
      go_simp
    · simp only [Act.put, List.setIfInBounds_toArray, List.set_cons_succ, List.set_cons_zero]; exact rfl
    have hbm : (Fr.bodies pre).length ≤ 1000000000 := by have := HPL.out; omega
    obtain ⟨v5, w5, hrun, ho5, hg5, hs5⟩ := app_nb_run (W := w3.alloc (.cells #[v3] 22)) (g := w3.heap.size) (c := 1) (ty := 29) (O3.out.on (alloc_below _ _)) (OwnB.on U3 (alloc_below _ _)) hne (heap_alloc_new w3 _) (by simp; omega) hbm
    have O4 := Lib.hid (O3.out.on (alloc_below w3 (.cells #[v3] 22)))
    have V4 := Lib.hid (V3.out.alloc (.cells #[v3] 22))
    have N4 := Lib.hid (N3.out.alloc (.cells #[v3] 22))
    have V5 := Lib.hid (V4.out.kept hg5.grown (Boxed.not_nb V4.out (by decide) O4.out))
    have N5 := Lib.hid (N4.out.kept hg5.grown (Boxed.not_nb N4.out (by decide) O4.out))
    have K5 := Lib.hid ((((KeepsOthers.drew W).trans (keeps_below hb3)).trans (KeepsOthers.alloc w3 (.cells #[v3] 22))).trans (keeps_grew O4.out hg5))
    have B5 := Lib.hid ((((show Below w.heap.size W W.drew from (Below.refl _ W).drewN 1).trans (hb3.mono GB.out.size)).trans ((alloc_below w3 (.cells #[v3] 22)).mono hsz3)).trans (hg5.below (by simp; omega) O4.out.base))
    have RUN := hrun
    obtain ⟨A5, c5, hv5, -⟩ := ho5.rd.form
    rw [List.length_append, List.length_singleton] at hv5
    have O5 := Lib.hid ho5
    clear ho5 hg5 hrun hb3
    refine regj_make E (I' := fun W' => W'.cell? ⟨w.heap.size, 0, none⟩ = some v) (fun _ h => h) 5 (some 15) (v := v5) (w' := w5) (T' := ?_) (by kernel_rfl) (by kernel_rfl) (fun o ho => ?_) (.inr V5.out.cell) ?_ ?_
    rotate_left
    · cases ho
      exact ⟨rfl, rfl, exec_app (.tmp 10) (.tmp 14) rfl rfl rfl RUN⟩
    · simp only [Act.put, List.setIfInBounds_toArray, List.set_cons_succ, List.set_cons_zero]; exact rfl
    subst hv5
    have hc5 := V5.out.cell
    have hf5 := V5.out.frozen
    refine regj_store E (I' := fun _ => False) (fun _ h => h.elim) 6 (w' := ?_) (by kernel_rfl) (by kernel_rfl) (fun o ho => ?_) (.inl rfl) ?_
    rotate_left 1
    · cases ho
      refine ⟨rfl, rfl, ?_⟩
      go_simp
      with_reducible rfl
    refine regj_done (by kernel_rfl) ?_
    have V6 := Lib.hid (V5.out.set (.slice A5 ((Fr.bodies pre).length + 1) c5))
    have O6 := Lib.hid (OwnNB.box (x := .slice A5 ((Fr.bodies pre).length + 1) c5) O5.out V5.out (by decide))
    have N6 := Lib.hid (N5.out.kept (grownBy_setCell' w5 w.heap.size (.slice A5 ((Fr.bodies pre).length + 1) c5)) (by simp))
    have K6 := Lib.hid (K5.out.trans (KeepsOthers.setCell w5 ⟨w.heap.size, 0, none⟩ (.slice A5 ((Fr.bodies pre).length + 1) c5)))
    have B6 := Lib.hid (B5.out.setCell (p := ⟨w.heap.size, 0, none⟩) (Nat.le_refl _) (.slice A5 ((Fr.bodies pre).length + 1) c5))
    clear hc5 hf5
    generalize w5.setCell ⟨w.heap.size, 0, none⟩ (.slice A5 ((Fr.bodies pre).length + 1) c5) = w6 at *
    have hc6 := N6.out.cell
    have hf6 := N6.out.frozen
    gi_wp2_with fail
    refine ⟨(K6.out.trans (KeepsOthers.setCell _ _ _)).from _, B6.out.setCell (p := ⟨w.heap.size + 1, 0, none⟩) (Nat.le_succ _) _, ⟨⟨_, V6.out.kept (grownBy_setCell' w6 _ _) (by simp), ?_⟩, ?_⟩, (GB.out.trans B6.out).setCell (p := ⟨w.heap.size + 1, 0, none⟩) (Nat.le_succ _) _⟩
    · rw [PB.out]
      exact OwnNB.box O6.out N6.out (by decide)
    · rw [PS.out, Int.natCast_add]
      exact N6.out.set _
  case done =>
    rintro D ys W hD hfr ⟨⟨⟨v, hv, hrow⟩, hn⟩, hB⟩ hK
    have hc := hv.cell
    have hc2 := hn.cell
    gi_wp2_with fail
    gi_quiet (fail)
    gi_wp2_with fail
    refine ⟨by simp, .inl ⟨_, _, rfl, run_takeDeferred (show (W.drewN _).heap[D]? = _ from hK), ?_⟩⟩
    have hbod : (frs l).1 = Fr.bodies ys := by rw [hfr]
    have hsum : (frs l).2 = Fr.sum ys := by rw [hfr]
    rw [hbod, hsum]
    exact ⟨_, results_tmp2 rfl _ _ _, v, rfl, OwnNB.turn (show OwnNB (W.drewN nq) _ _ _ from hrow) (grownBy_putObj' _ D _) (fun r e => by cases e; exact ⟨_, hK, rfl⟩), (hB.drewN nq).trans (belowK_b (w := w) (Nat.le_refl _) (W.drewN nq) D _ _ (by omega) hK rfl rfl)⟩
  case stop =>
    rintro D c pre W _ _ h _
    exact h.elim
end Go.Proofs.Ytdpjohehmbddnaa
