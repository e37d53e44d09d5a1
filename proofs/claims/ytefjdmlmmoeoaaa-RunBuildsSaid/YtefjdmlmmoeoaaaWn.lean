/- Layer 9: Last, by the project. -/
import Derived.Test.YtefjdmlmmoeoaaaWl
import Derived.Test.YtefjdmlmmoeoaaaRR
namespace Go.Proofs.Ytefjdmlmmoeoaaa
open Go.RowKit Go.Shelf
set_option linter.unusedVariables false
attribute [local go_sem] Oper.semAt_some

def lastV (l : List Ver) : Ver := l.getLast?.getD zeroV
theorem lastV_snoc (l : List Ver) (v : Ver) : lastV (l ++ [v]) = v := by simp [lastV]
theorem enc_zero : (verL.enc zeroV).toArray = #[.string ⟨#[]⟩, .int .i64 0, .int .i64 0, .int .i64 0, .int .i64 0, .int .i64 0, .string ⟨#[]⟩, .bool false] := rfl

theorem results_cell2 {fn : Func} {p q : Tmp} {ty tz : TypeId} (h : fn.results = #[.cell p ty, .cell q tz]) (tmps : Array Value) (P : Program) (w : World) :
    (results fn tmps).run P w = ((asAddr (tmps.getD p undef)).run P w).andThen fun a w₁ => ((loadVar ty a).run P w₁).andThen fun x w₂ => ((asAddr (tmps.getD q undef)).run P w₂).andThen fun b w₃ => ((loadVar tz b).run P w₃).andThen fun y w₄ => .ok (.tuple #[x, y]) w₄ := by
  simp only [results, h]
  simp [Sem.run_bind, Result.andThen]
  repeat (first | rfl | split)

set_option maxRecDepth 100000 in
set_option maxHeartbeats 4000000 in
theorem run_last (p : Value) (l : List Ver) (base : Nat) (key : ByteArray) (br ep : Int) (w : World) (hp : RunAt w base p l) (hok : okTo l l.length = true) (hl : l.length ≤ 20000) :
    Calls Try.prog 23 #[p, .string key, .int .i64 br, .int .i64 ep] w fun e w' => e = .returned (.tuple #[verV (lastV (l.filter fun v => decide (v.key = key) && decide (v.b = br) && decide (v.e ≤ ep))), .bool (decide ((l.filter fun v => decide (v.key = key) && decide (v.b = br) && decide (v.e ≤ ep)) ≠ []))]) ∧ Below w.heap.size w w' := by
  have RP := Lib.hid hp
  have HM := Lib.hid (fun ls (h : Told9 l key key ls) => told_filter hok (fun v => decide (v.key = key) && decide (v.b = br) && decide (v.e ≤ ep)) key key (fun v hv => by
    simp only [Bool.and_eq_true, decide_eq_true_iff] at hv
    rw [hv.1.1, kcmp_self]; exact ⟨Int.le_refl _, Int.le_refl _⟩) h)
  obtain ⟨nr, vb, rfl, -⟩ := hp
  have hm8 : 8 * many8 l ≤ 1000000 := by unfold many8; omega
  generalize hF : (l.filter fun v => decide (v.key = key) && decide (v.b = br) && decide (v.e ≤ ep)) = F at *
  clear hF
  obtain ⟨lv, hlv⟩ : ∃ lv, lastV F = lv := ⟨_, rfl⟩
  obtain ⟨f, hf⟩ : ∃ f, decide (F ≠ []) = f := ⟨_, rfl⟩
  rw [hlv, hf]
  have HLV := Lib.hid hlv
  have HFV := Lib.hid hf
  clear hlv hf
  obtain ⟨kk, bb, ee, ss, ⟨xx, yy⟩, uu, gg⟩ := lv
  obtain ⟨W1, hW1⟩ : ∃ W1, (((((w.alloc (.cells #[.string key] 9)).alloc (.cells #[.int .i64 br] 3)).alloc (.cells #[.int .i64 ep] 3)).alloc (.cells #[.string ⟨#[]⟩, .int .i64 0, .int .i64 0, .int .i64 0, .int .i64 0, .int .i64 0, .string ⟨#[]⟩, .bool false] 42)).alloc (.cells #[.bool false] 4)) = W1 := ⟨_, rfl⟩
  have B0 := Lib.hid (show Boxed W1 w.heap.size 9 (.string key) from by rw [← hW1]; exact ((((Boxed.new w _ _).alloc _).alloc _).alloc _).alloc _)
  have B1 := Lib.hid (show Boxed W1 (w.heap.size + 1) 3 (.int .i64 br) from by
    rw [← hW1]
    have := Boxed.new (w.alloc (.cells #[.string key] 9)) 3 (.int .i64 br)
    simp only [World.size_alloc] at this
    exact ((this.alloc _).alloc _).alloc _)
  have B2 := Lib.hid (show Boxed W1 (w.heap.size + 1 + 1) 3 (.int .i64 ep) from by
    rw [← hW1]
    have := Boxed.new ((w.alloc (.cells #[.string key] 9)).alloc (.cells #[.int .i64 br] 3)) 3 (.int .i64 ep)
    simp only [World.size_alloc] at this
    exact (this.alloc _).alloc _)
  have B3 := Lib.hid (show Box W1 (w.heap.size + 1 + 1 + 1) (verL.enc zeroV).toArray 42 from by
    rw [← hW1, enc_zero]
    exact (Box.new _ _ _ _ (by simp)).alloc _)
  have B4 := Lib.hid (show Boxed W1 (w.heap.size + 1 + 1 + 1 + 1) 4 (.bool false) from by
    rw [← hW1]
    have := Boxed.new ((((w.alloc (.cells #[.string key] 9)).alloc (.cells #[.int .i64 br] 3)).alloc (.cells #[.int .i64 ep] 3)).alloc (.cells #[.string ⟨#[]⟩, .int .i64 0, .int .i64 0, .int .i64 0, .int .i64 0, .int .i64 0, .string ⟨#[]⟩, .bool false] 42)) 4 (.bool false)
    simp only [World.size_alloc] at this
    exact this)
  have hB1 : Below w.heap.size w W1 := by
    rw [← hW1]; exact (((((Below.refl _ w).alloc (Nat.le_refl _) _).alloc (by simp) _).alloc (by simp; omega) _).alloc (by simp; omega) _).alloc (by simp; omega) _
  have hs1 : W1.heap.size = w.heap.size + 5 := by rw [← hW1]; simp
  have c0 := B0.out.cell
  refine (callsIn_wide (n := 4)).1 ?_
  refine callsIn_of_wp_marks Try.func23 rfl trivial ?_ rfl
  simp only [Try.ntmps23, List.size_toArray, List.length_cons, List.length_nil, Nat.reduceAdd, Nat.reduceSub, Array.replicate_succ, Array.replicate_zero, List.push_toArray, List.append_toArray, List.nil_append, List.cons_append]
  gi_wp2_with fail
  clear c0 hW1
  refine ⟨trivial, (callsIn_wide.2 (run_those _ nr rfl key key (.func 46) #[.pointer (some ⟨w.heap.size, 0, none⟩), .pointer (some ⟨w.heap.size + 1, 0, none⟩), .pointer (some ⟨w.heap.size + 1 + 1, 0, none⟩)] W1)).mono ?_⟩
  rintro z W2 ⟨rfl, hw2⟩
  have m1 := Boxed.new W1 28 (.pointer (some ⟨nr, 0, none⟩))
  have m2 := Boxed.new (W1.alloc (.cells #[.pointer (some ⟨nr, 0, none⟩)] 28)) 9 (.string key)
  have m3 := Boxed.new ((W1.alloc (.cells #[.pointer (some ⟨nr, 0, none⟩)] 28)).alloc (.cells #[.string key] 9)) 9 (.string key)
  have m4 := Boxed.new (((W1.alloc (.cells #[.pointer (some ⟨nr, 0, none⟩)] 28)).alloc (.cells #[.string key] 9)).alloc (.cells #[.string key] 9)) 74 (.func (.func 46) #[] #[.pointer (some ⟨w.heap.size, 0, none⟩), .pointer (some ⟨w.heap.size + 1, 0, none⟩), .pointer (some ⟨w.heap.size + 1 + 1, 0, none⟩)])
  have m1 := ((m1.alloc (.cells #[.string key] 9)).alloc (.cells #[.string key] 9)).alloc (.cells #[.func (.func 46) #[] #[.pointer (some ⟨w.heap.size, 0, none⟩), .pointer (some ⟨w.heap.size + 1, 0, none⟩), .pointer (some ⟨w.heap.size + 1 + 1, 0, none⟩)]] 74)
  have m2 := (m2.alloc (.cells #[.string key] 9)).alloc (.cells #[.func (.func 46) #[] #[.pointer (some ⟨w.heap.size, 0, none⟩), .pointer (some ⟨w.heap.size + 1, 0, none⟩), .pointer (some ⟨w.heap.size + 1 + 1, 0, none⟩)]] 74)
  have m3 := m3.alloc (.cells #[.func (.func 46) #[] #[.pointer (some ⟨w.heap.size, 0, none⟩), .pointer (some ⟨w.heap.size + 1, 0, none⟩), .pointer (some ⟨w.heap.size + 1 + 1, 0, none⟩)]] 74)
  simp only [World.size_alloc] at m1 m2 m3 m4
  have hB2 : Below W1.heap.size W1 W2 := by
    rw [hw2]; exact ((((Below.refl _ W1).alloc (Nat.le_refl _) _).alloc (by simp) _).alloc (by simp; omega) _).alloc (by simp; omega) _
  have hs2 : W2.heap.size = W1.heap.size + 4 := by rw [hw2]; simp
  rw [← hw2] at m1 m2 m3 m4
  have G2 := hB1.trans (hB2.mono (by omega))
  have TL := Lib.hid (those_tells w W2 base _ l key key _ _ _ _ 46 _ _ _ (enters_of Try.func46 (by kernel_rfl) rfl) (asks_last key br ep w.heap.size (w.heap.size + 1) (w.heap.size + 1 + 1)) (fun W W' h hk => ⟨boxed_kept hk h.1 (by decide), boxed_kept hk h.2.1 (by decide), boxed_kept hk h.2.2 (by decide)⟩)
    ⟨(hB2.block _ B0.out.lt).trans B0.out, (hB2.block _ B1.out.lt).trans B1.out, (hB2.block _ B2.out.lt).trans B2.out⟩ G2 RP.out hl m1 m2 m3 m4)
  have GG := Lib.hid G2
  have D3 := Lib.hid (B3.out.on hB2 B3.out.lt)
  have D4 := Lib.hid (show Boxed W2 _ _ _ from (hB2.block _ B4.out.lt).trans B4.out)
  have HS1 := Lib.hid hs1
  have HS2 := Lib.hid hs2
  clear hw2 m1 m2 m3 m4 hB2 G2 hB1 hs1 hs2
  gi_wp2_with fail
  have hs1 := HS1.out
  have hs2 := HS2.out
  refine wpIn_rangeTell (P := Try.prog) (Z := False) (T := T9) (n₀ := w.heap.size) (gf := 67) rfl (enters_of Try.func67 (by kernel_rfl) rfl) TL.out (by omega) (Below.refl _ _) (fun _ => rfl)
    (fun pre X => (Box X (w.heap.size + 1 + 1 + 1) (verL.enc (lastV pre)).toArray 42 ∧ Boxed X (w.heap.size + 1 + 1 + 1 + 1) 4 (.bool (decide (pre ≠ [])))) ∧ Below w.heap.size w X)
    (fun _ _ _ => False)
    (fun s X Y row hs hg hr => ⟨⟨(grownBy_keeps_cells hg (fun r e => (hr r e).2) hs.1.1 rfl).trans hs.1.1, (grownBy_keeps_cells hg (fun r e => (hr r e).2) hs.1.2 rfl).trans hs.1.2⟩, hs.2.grown hg hs.2.size (fun k e => by have := (hr k e).1; omega)⟩)
    (fun _ _ _ _ _ hs _ _ => hs)
    ⟨⟨D3.out, D4.out⟩, GG.out⟩
    (fun x a' X => ∃ Bx, w.heap.size + 1 + 1 + 1 + 1 < Bx ∧ Box X Bx (verL.enc x).toArray 42 ∧ a' = { tmps := #[.pointer (some ⟨nr, 0, none⟩), .string key, .int .i64 br, .int .i64 ep, undef, .pointer (some ⟨w.heap.size, 0, none⟩), .pointer (some ⟨w.heap.size + 1, 0, none⟩), .pointer (some ⟨w.heap.size + 1 + 1, 0, none⟩), .pointer (some ⟨w.heap.size + 1 + 1 + 1, 0, none⟩), .pointer (some ⟨w.heap.size + 1 + 1 + 1 + 1, 0, none⟩), (.func (.func 46) #[] #[.pointer (some ⟨w.heap.size, 0, none⟩), .pointer (some ⟨w.heap.size + 1, 0, none⟩), .pointer (some ⟨w.heap.size + 1 + 1, 0, none⟩)]), .pointer (some ⟨Bx, 0, none⟩), (.func (.func 46) #[] #[.pointer (some ⟨w.heap.size, 0, none⟩), .pointer (some ⟨w.heap.size + 1, 0, none⟩), .pointer (some ⟨w.heap.size + 1 + 1, 0, none⟩)]), .pointer (some ⟨nr, 0, none⟩), .string key, .string key, (.func (.func 46) #[] #[.pointer (some ⟨w.heap.size, 0, none⟩), .pointer (some ⟨w.heap.size + 1, 0, none⟩), .pointer (some ⟨w.heap.size + 1 + 1, 0, none⟩)]), (.func (.func 67) #[] #[.pointer (some ⟨W1.heap.size, 0, none⟩), .pointer (some ⟨W1.heap.size + 1, 0, none⟩), .pointer (some ⟨W1.heap.size + 2, 0, none⟩), .pointer (some ⟨W1.heap.size + 3, 0, none⟩)]), verV x, undef, undef, undef], defers := [] })
    (fun x a' _ X Y row hs hg hr => by obtain ⟨Bx, h1, h2, h3⟩ := hs; exact ⟨Bx, h1, (grownBy_keeps_cells hg (fun r e => (hr r e).2) h2 rfl).trans h2, h3⟩)
    ?assign ?body ?done ?stop
  case assign =>
    rintro l2 pre x X K hlt ⟨⟨h1, h2⟩, h3⟩ hK
    obtain ⟨kk, bb, ee, ss, ⟨xx, yy⟩, uu, gg⟩ := x
    unfold verV
    clear hs1 hs2
    gi_wp2_with fail
    have hs1 := HS1.out
    have hs2 := HS2.out
    exact hK _ _ ((Kq.refl _ _ _ X).alloc h3.size _) ⟨⟨h1.alloc _, h2.alloc _⟩, h3.alloc h3.size _⟩ ⟨X.heap.size, by omega, Box.new X _ _ _ rfl, rfl⟩
  case body =>
    rintro l2 pre x a' X hX ⟨⟨h1, h2⟩, h3⟩ ⟨Bx, hBx, hbx, rfl⟩ hlen
    have hls := lastV_snoc pre x
    have hne : decide (pre ++ [x] ≠ []) = true := by simp
    have HLS := Lib.hid hls
    have HNE := Lib.hid hne
    obtain ⟨kk, bb, ee, ss, ⟨xx, yy⟩, uu, gg⟩ := x
    have hbx : Box X Bx #[.string kk, .int .i64 bb, .int .i64 ee, .int .i64 ss, .int .i64 xx, .int .i64 yy, .string uu, .bool gg] 42 := hbx
    have e0 := hbx.cell 0 _ rfl
    have e1 := hbx.cell 1 _ rfl
    have e2 := hbx.cell 2 _ rfl
    have e3 := hbx.cell 3 _ rfl
    have e4 := hbx.cell 4 _ rfl
    have e5 := hbx.cell 5 _ rfl
    have e6 := hbx.cell 6 _ rfl
    have e7 := hbx.cell 7 _ rfl
    generalize lastV pre = lv at *
    obtain ⟨lk, lb, le, lls, ⟨lx, ly⟩, lu, lg⟩ := lv
    have h1 : Box X (w.heap.size + 1 + 1 + 1) #[.string lk, .int .i64 lb, .int .i64 le, .int .i64 lls, .int .i64 lx, .int .i64 ly, .string lu, .bool lg] 42 := h1
    have y0 := h1.cell 0 _ rfl
    have y1 := h1.cell 1 _ rfl
    have y2 := h1.cell 2 _ rfl
    have y3 := h1.cell 3 _ rfl
    have y4 := h1.cell 4 _ rfl
    have y5 := h1.cell 5 _ rfl
    have y6 := h1.cell 6 _ rfl
    have y7 := h1.cell 7 _ rfl
    have fz0 := h1.frozen 0
    have fz1 := h1.frozen 1
    have fz2 := h1.frozen 2
    have fz3 := h1.frozen 3
    have fz4 := h1.frozen 4
    have fz5 := h1.frozen 5
    have fz6 := h1.frozen 6
    have fz7 := h1.frozen 7
    have V := Lib.hid h1
    have D := Lib.hid h2
    have G := Lib.hid h3
    have NB := Lib.hid (box_put8 (b0 := .string kk) (b1 := .int .i64 bb) (b2 := .int .i64 ee) (b3 := .int .i64 ss) (b4 := .int .i64 xx) (b5 := .int .i64 yy) (b6 := .string uu) (b7 := .bool gg) h1)
    have ND := Lib.hid (show Boxed _ (w.heap.size + 1 + 1 + 1 + 1) 4 _ from h2.kept (grown_put8 X (w.heap.size + 1 + 1 + 1) (.string kk) (.int .i64 bb) (.int .i64 ee) (.int .i64 ss) (.int .i64 xx) (.int .i64 yy) (.string uu) (.bool gg)) (by simp))
    have c4 := ND.out.cell
    have z4 := ND.out.frozen
    clear hbx h1 h2 h3 hs1 hs2 hls hne
    unfold verV
    gi_wp2_with fail
    have K1 : Kq T9 w.heap.size W2.heap.size X ((((((((X.setCell ⟨w.heap.size + 1 + 1 + 1, 0, none⟩ (.string kk)).setCell ⟨w.heap.size + 1 + 1 + 1, 1, none⟩ (.int .i64 bb)).setCell ⟨w.heap.size + 1 + 1 + 1, 2, none⟩ (.int .i64 ee)).setCell ⟨w.heap.size + 1 + 1 + 1, 3, none⟩ (.int .i64 ss)).setCell ⟨w.heap.size + 1 + 1 + 1, 4, none⟩ (.int .i64 xx)).setCell ⟨w.heap.size + 1 + 1 + 1, 5, none⟩ (.int .i64 yy)).setCell ⟨w.heap.size + 1 + 1 + 1, 6, none⟩ (.string uu)).setCell ⟨w.heap.size + 1 + 1 + 1, 7, none⟩ (.bool gg)) := Kq.of_grown (grown_put8 _ _ _ _ _ _ _ _ _ _) G.out.size (fun j hj => ⟨by cases hj; omega, fun o ho => by
      cases hj
      rw [show X.heap[w.heap.size + 1 + 1 + 1]? = _ from V.out] at ho
      cases ho
      exact ⟨_, _, _, rfl, by decide⟩⟩)
    have K2 : Kq T9 w.heap.size W2.heap.size ((((((((X.setCell ⟨w.heap.size + 1 + 1 + 1, 0, none⟩ (.string kk)).setCell ⟨w.heap.size + 1 + 1 + 1, 1, none⟩ (.int .i64 bb)).setCell ⟨w.heap.size + 1 + 1 + 1, 2, none⟩ (.int .i64 ee)).setCell ⟨w.heap.size + 1 + 1 + 1, 3, none⟩ (.int .i64 ss)).setCell ⟨w.heap.size + 1 + 1 + 1, 4, none⟩ (.int .i64 xx)).setCell ⟨w.heap.size + 1 + 1 + 1, 5, none⟩ (.int .i64 yy)).setCell ⟨w.heap.size + 1 + 1 + 1, 6, none⟩ (.string uu)).setCell ⟨w.heap.size + 1 + 1 + 1, 7, none⟩ (.bool gg)) (((((((((X.setCell ⟨w.heap.size + 1 + 1 + 1, 0, none⟩ (.string kk)).setCell ⟨w.heap.size + 1 + 1 + 1, 1, none⟩ (.int .i64 bb)).setCell ⟨w.heap.size + 1 + 1 + 1, 2, none⟩ (.int .i64 ee)).setCell ⟨w.heap.size + 1 + 1 + 1, 3, none⟩ (.int .i64 ss)).setCell ⟨w.heap.size + 1 + 1 + 1, 4, none⟩ (.int .i64 xx)).setCell ⟨w.heap.size + 1 + 1 + 1, 5, none⟩ (.int .i64 yy)).setCell ⟨w.heap.size + 1 + 1 + 1, 6, none⟩ (.string uu)).setCell ⟨w.heap.size + 1 + 1 + 1, 7, none⟩ (.bool gg)).setCell ⟨w.heap.size + 1 + 1 + 1 + 1, 0, none⟩ (.bool true)) := Kq.of_grown (grownBy_setCell' _ _ _) (Nat.le_trans G.out.size K1.size) (fun j hj => ⟨by cases hj; omega, fun o ho => by
      cases hj
      rw [show (((((((((X.setCell ⟨w.heap.size + 1 + 1 + 1, 0, none⟩ (.string kk)).setCell ⟨w.heap.size + 1 + 1 + 1, 1, none⟩ (.int .i64 bb)).setCell ⟨w.heap.size + 1 + 1 + 1, 2, none⟩ (.int .i64 ee)).setCell ⟨w.heap.size + 1 + 1 + 1, 3, none⟩ (.int .i64 ss)).setCell ⟨w.heap.size + 1 + 1 + 1, 4, none⟩ (.int .i64 xx)).setCell ⟨w.heap.size + 1 + 1 + 1, 5, none⟩ (.int .i64 yy)).setCell ⟨w.heap.size + 1 + 1 + 1, 6, none⟩ (.string uu)).setCell ⟨w.heap.size + 1 + 1 + 1, 7, none⟩ (.bool gg))).heap[w.heap.size + 1 + 1 + 1 + 1]? = _ from ND.out] at ho
      cases ho
      exact ⟨_, _, _, rfl, by decide⟩⟩)
    refine ⟨K1.trans K2, ⟨?_, ?_⟩, G.out.trans (K1.trans K2).below⟩
    · rw [HLS.out]; exact NB.out.other _ _ (by simp)
    · rw [HNE.out]; exact ND.out.set _
  case done =>
    rintro D ys X hD ⟨ls, hls, rfl⟩ ⟨⟨h1, h2⟩, h3⟩ hK
    rw [HM.out ls hls] at h1 h2
    rw [HLV.out] at h1
    rw [HFV.out] at h2
    have h1 : Box X (w.heap.size + 1 + 1 + 1) #[.string kk, .int .i64 bb, .int .i64 ee, .int .i64 ss, .int .i64 xx, .int .i64 yy, .string uu, .bool gg] 42 := h1
    have G := Lib.hid h3
    have HK := Lib.hid hK
    clear hK
    have E := easy_wide 4 Try.prog
    gi_wp2_with fail
    have x0 := h1.cell 0 _ rfl
    have x1 := h1.cell 1 _ rfl
    have x2 := h1.cell 2 _ rfl
    have x3 := h1.cell 3 _ rfl
    have x4 := h1.cell 4 _ rfl
    have x5 := h1.cell 5 _ rfl
    have x6 := h1.cell 6 _ rfl
    have x7 := h1.cell 7 _ rfl
    have fz0 := h1.frozen 0
    have fz1 := h1.frozen 1
    have fz2 := h1.frozen 2
    have fz3 := h1.frozen 3
    have fz4 := h1.frozen 4
    have fz5 := h1.frozen 5
    have fz6 := h1.frozen 6
    have fz7 := h1.frozen 7
    have c4 := h2.cell
    have z4 := h2.frozen
    have NB := Lib.hid (box_put8 (w := X.drew) (b0 := .string kk) (b1 := .int .i64 bb) (b2 := .int .i64 ee) (b3 := .int .i64 ss) (b4 := .int .i64 xx) (b5 := .int .i64 yy) (b6 := .string uu) (b7 := .bool gg) h1)
    have ND := Lib.hid (show Boxed _ (w.heap.size + 1 + 1 + 1 + 1) 4 _ from (show Boxed X.drew _ _ _ from h2).kept (grown_put8 X.drew (w.heap.size + 1 + 1 + 1) (.string kk) (.int .i64 bb) (.int .i64 ee) (.int .i64 ss) (.int .i64 xx) (.int .i64 yy) (.string uu) (.bool gg)) (by simp))
    have c5 := ND.out.cell
    have z5 := ND.out.frozen
    have HI : (fun W' => (Box W' (w.heap.size + 1 + 1 + 1) #[.string kk, .int .i64 bb, .int .i64 ee, .int .i64 ss, .int .i64 xx, .int .i64 yy, .string uu, .bool gg] 42 ∧ Boxed W' (w.heap.size + 1 + 1 + 1 + 1) 4 (.bool f)) ∧ Below w.heap.size w W' ∧ W'.heap[D]? = some (.deferred (some []))) X.drew := ⟨⟨h1, h2⟩, h3.drew, HK.out⟩
    have HI2 : (fun W' => (Box W' (w.heap.size + 1 + 1 + 1) #[.string kk, .int .i64 bb, .int .i64 ee, .int .i64 ss, .int .i64 xx, .int .i64 yy, .string uu, .bool gg] 42 ∧ Boxed W' (w.heap.size + 1 + 1 + 1 + 1) 4 (.bool f)) ∧ Below w.heap.size w W' ∧ W'.heap[D]? = some (.deferred (some []))) ((((((((X.drew.setCell ⟨w.heap.size + 1 + 1 + 1, 0, none⟩ (.string kk)).setCell ⟨w.heap.size + 1 + 1 + 1, 1, none⟩ (.int .i64 bb)).setCell ⟨w.heap.size + 1 + 1 + 1, 2, none⟩ (.int .i64 ee)).setCell ⟨w.heap.size + 1 + 1 + 1, 3, none⟩ (.int .i64 ss)).setCell ⟨w.heap.size + 1 + 1 + 1, 4, none⟩ (.int .i64 xx)).setCell ⟨w.heap.size + 1 + 1 + 1, 5, none⟩ (.int .i64 yy)).setCell ⟨w.heap.size + 1 + 1 + 1, 6, none⟩ (.string uu)).setCell ⟨w.heap.size + 1 + 1 + 1, 7, none⟩ (.bool gg)) := ⟨⟨NB.out, ND.out⟩, below_put8 _ _ _ _ _ _ _ _ h3.drew (by omega), ((grown_put8 X.drew (w.heap.size + 1 + 1 + 1) (.string kk) (.int .i64 bb) (.int .i64 ee) (.int .i64 ss) (.int .i64 xx) (.int .i64 yy) (.string uu) (.bool gg)).block D (Array.getElem?_eq_some_iff.1 HK.out).1 (by simp; omega)).trans HK.out⟩
    have HI3 : (fun W' => (Box W' (w.heap.size + 1 + 1 + 1) #[.string kk, .int .i64 bb, .int .i64 ee, .int .i64 ss, .int .i64 xx, .int .i64 yy, .string uu, .bool gg] 42 ∧ Boxed W' (w.heap.size + 1 + 1 + 1 + 1) 4 (.bool f)) ∧ Below w.heap.size w W' ∧ W'.heap[D]? = some (.deferred (some []))) (((((((((X.drew.setCell ⟨w.heap.size + 1 + 1 + 1, 0, none⟩ (.string kk)).setCell ⟨w.heap.size + 1 + 1 + 1, 1, none⟩ (.int .i64 bb)).setCell ⟨w.heap.size + 1 + 1 + 1, 2, none⟩ (.int .i64 ee)).setCell ⟨w.heap.size + 1 + 1 + 1, 3, none⟩ (.int .i64 ss)).setCell ⟨w.heap.size + 1 + 1 + 1, 4, none⟩ (.int .i64 xx)).setCell ⟨w.heap.size + 1 + 1 + 1, 5, none⟩ (.int .i64 yy)).setCell ⟨w.heap.size + 1 + 1 + 1, 6, none⟩ (.string uu)).setCell ⟨w.heap.size + 1 + 1 + 1, 7, none⟩ (.bool gg)).setCell ⟨w.heap.size + 1 + 1 + 1 + 1, 0, none⟩ (.bool f)) := ⟨⟨HI2.1.1.other _ _ (by simp), HI2.1.2.set _⟩, HI2.2.1.setCell (p := ⟨w.heap.size + 1 + 1 + 1 + 1, 0, none⟩) (by simp; omega) _, (Below.heap_setCell _ ⟨w.heap.size + 1 + 1 + 1 + 1, 0, none⟩ _ D (by simp; omega)).trans HI2.2.2⟩
    clear hs1 hs2
    refine region_normal ?_
    refine regj_start [] (fun W' => (Box W' (w.heap.size + 1 + 1 + 1) #[.string kk, .int .i64 bb, .int .i64 ee, .int .i64 ss, .int .i64 xx, .int .i64 yy, .string uu, .bool gg] 42 ∧ Boxed W' (w.heap.size + 1 + 1 + 1 + 1) 4 (.bool f)) ∧ Below w.heap.size w W' ∧ W'.heap[D]? = some (.deferred (some []))) (by kernel_rfl) ?_
    refine regj_take E 0 20 (v := ?_) (T' := ?_) HI (by kernel_rfl) (by kernel_rfl) (by kernel_rfl) (by kernel_rfl) (by kernel_rfl) (fun _ _ _ h => by cases h.1) (fun o ho => ?_) ?_ ?_
    rotate_left 2
    · cases ho
      refine ⟨rfl, rfl, fun W hW => ?_⟩
      have hW : Box W (w.heap.size + 1 + 1 + 1) #[.string kk, .int .i64 bb, .int .i64 ee, .int .i64 ss, .int .i64 xx, .int .i64 yy, .string uu, .bool gg] 42 := hW.1.1
      have h0 := hW.cell 0 _ rfl
      have h1 := hW.cell 1 _ rfl
      have h2 := hW.cell 2 _ rfl
      have h3 := hW.cell 3 _ rfl
      have h4 := hW.cell 4 _ rfl
      have h5 := hW.cell 5 _ rfl
      have h6 := hW.cell 6 _ rfl
      have h7 := hW.cell 7 _ rfl
      go_simp; (try with_reducible rfl)
    · simp only [List.setIfInBounds_toArray, List.set_cons_succ, List.set_cons_zero]; exact rfl
    refine regj_take E 1 21 (v := ?_) (T' := ?_) HI (by kernel_rfl) (by kernel_rfl) (by kernel_rfl) (by kernel_rfl) (by kernel_rfl) (fun _ _ _ h => by cases h.1) (fun o ho => ?_) ?_ ?_
    rotate_left 2
    · cases ho
      refine ⟨rfl, rfl, fun W hW => ?_⟩
      have hW := (show Boxed W (w.heap.size + 1 + 1 + 1 + 1) 4 (.bool f) from hW.1.2).cell
      go_simp; (try with_reducible rfl)
    · simp only [List.setIfInBounds_toArray, List.set_cons_succ, List.set_cons_zero]; exact rfl
    refine regj_store E (I' := (fun W' => (Box W' (w.heap.size + 1 + 1 + 1) #[.string kk, .int .i64 bb, .int .i64 ee, .int .i64 ss, .int .i64 xx, .int .i64 yy, .string uu, .bool gg] 42 ∧ Boxed W' (w.heap.size + 1 + 1 + 1 + 1) 4 (.bool f)) ∧ Below w.heap.size w W' ∧ W'.heap[D]? = some (.deferred (some [])))) (fun _ h => h) 2 (w' := ((((((((X.drew.setCell ⟨w.heap.size + 1 + 1 + 1, 0, none⟩ (.string kk)).setCell ⟨w.heap.size + 1 + 1 + 1, 1, none⟩ (.int .i64 bb)).setCell ⟨w.heap.size + 1 + 1 + 1, 2, none⟩ (.int .i64 ee)).setCell ⟨w.heap.size + 1 + 1 + 1, 3, none⟩ (.int .i64 ss)).setCell ⟨w.heap.size + 1 + 1 + 1, 4, none⟩ (.int .i64 xx)).setCell ⟨w.heap.size + 1 + 1 + 1, 5, none⟩ (.int .i64 yy)).setCell ⟨w.heap.size + 1 + 1 + 1, 6, none⟩ (.string uu)).setCell ⟨w.heap.size + 1 + 1 + 1, 7, none⟩ (.bool gg))) (by kernel_rfl) (by kernel_rfl) (fun o ho => ?_) (.inr HI2) ?_
    · cases ho
      refine ⟨rfl, rfl, ?_⟩
      go_simp
    have c6 := HI2.1.2.cell
    have z6 := HI2.1.2.frozen
    refine regj_store E (I' := (fun W' => (Box W' (w.heap.size + 1 + 1 + 1) #[.string kk, .int .i64 bb, .int .i64 ee, .int .i64 ss, .int .i64 xx, .int .i64 yy, .string uu, .bool gg] 42 ∧ Boxed W' (w.heap.size + 1 + 1 + 1 + 1) 4 (.bool f)) ∧ Below w.heap.size w W' ∧ W'.heap[D]? = some (.deferred (some [])))) (fun _ h => h) 3 (w' := ((((((((X.drew.setCell ⟨w.heap.size + 1 + 1 + 1, 0, none⟩ (.string kk)).setCell ⟨w.heap.size + 1 + 1 + 1, 1, none⟩ (.int .i64 bb)).setCell ⟨w.heap.size + 1 + 1 + 1, 2, none⟩ (.int .i64 ee)).setCell ⟨w.heap.size + 1 + 1 + 1, 3, none⟩ (.int .i64 ss)).setCell ⟨w.heap.size + 1 + 1 + 1, 4, none⟩ (.int .i64 xx)).setCell ⟨w.heap.size + 1 + 1 + 1, 5, none⟩ (.int .i64 yy)).setCell ⟨w.heap.size + 1 + 1 + 1, 6, none⟩ (.string uu)).setCell ⟨w.heap.size + 1 + 1 + 1, 7, none⟩ (.bool gg)).setCell ⟨w.heap.size + 1 + 1 + 1 + 1, 0, none⟩ (.bool f)) (by kernel_rfl) (by kernel_rfl) (fun o ho => ?_) (.inr HI3) ?_
    · cases ho
      refine ⟨rfl, rfl, ?_⟩
      go_simp
    refine regj_done (by kernel_rfl) ⟨rfl, ?_⟩
    clear c6 z6
    generalize ((((((((X.drew.setCell ⟨w.heap.size + 1 + 1 + 1, 0, none⟩ (.string kk)).setCell ⟨w.heap.size + 1 + 1 + 1, 1, none⟩ (.int .i64 bb)).setCell ⟨w.heap.size + 1 + 1 + 1, 2, none⟩ (.int .i64 ee)).setCell ⟨w.heap.size + 1 + 1 + 1, 3, none⟩ (.int .i64 ss)).setCell ⟨w.heap.size + 1 + 1 + 1, 4, none⟩ (.int .i64 xx)).setCell ⟨w.heap.size + 1 + 1 + 1, 5, none⟩ (.int .i64 yy)).setCell ⟨w.heap.size + 1 + 1 + 1, 6, none⟩ (.string uu)).setCell ⟨w.heap.size + 1 + 1 + 1, 7, none⟩ (.bool gg)).setCell ⟨w.heap.size + 1 + 1 + 1 + 1, 0, none⟩ (.bool f) = Wf at *
    obtain ⟨⟨k1, k2⟩, k3, k4⟩ := HI3
    gi_wp2_with fail
    refine ⟨by simp, .inl ⟨_, _, rfl, run_takeDeferred k4, ?_⟩⟩
    have q1 := k1.keep (grownBy_putObj' Wf D (.deferred none)) (by have := HS1.out; have := HS2.out; simp; omega)
    have q2 := Boxed.kept k2 (grownBy_putObj' Wf D (.deferred none)) (by have := HS1.out; have := HS2.out; simp; omega)
    have c9 := q2.cell
    have r0 := q1.cell 0 _ rfl
    have r1 := q1.cell 1 _ rfl
    have r2 := q1.cell 2 _ rfl
    have r3 := q1.cell 3 _ rfl
    have r4 := q1.cell 4 _ rfl
    have r5 := q1.cell 5 _ rfl
    have r6 := q1.cell 6 _ rfl
    have r7 := q1.cell 7 _ rfl
    refine ⟨_, (by rw [results_cell2 rfl]; go_simp; rfl), rfl, k3.trans (belowK_b (w := w) (Nat.le_refl _) Wf D _ _ (by have := HS1.out; have := HS2.out; omega) k4 rfl rfl)⟩
  case stop =>
    rintro D c pre X _ _ h _
    exact h.elim
end Go.Proofs.Ytefjdmlmmoeoaaa
