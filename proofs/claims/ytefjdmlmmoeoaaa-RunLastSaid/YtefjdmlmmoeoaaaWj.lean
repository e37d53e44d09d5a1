/- Layer 9: what is told one by one, collected. -/
import Derived.Test.YtefjdmlmmoeoaaaWi
import Derived.Test.YtefjdmlmmoeoaaaBA
namespace Go.Proofs.Ytefjdmlmmoeoaaa
open Go.RowKit Go.Shelf
set_option linter.unusedVariables false
attribute [local go_sem] Oper.semAt_some

section
variable {α : Type} {L : Lay α} {e : TypeId} {P : Program} {F : Fence} {n : Nat}
/-- append of elements that stand in a literal, within a fence. -/
theorem wpiX_app {w : World} {ops : Array Oper} {rest : List Oper} {o : Oper} {a : Act} {Q : Exit → Act → World → Prop} {t : TypeId} {z : Value} {bytes : Nat} (hgd : o.guard = none) (s x : Operand)
    (ho : o.op = .call { callee := .builtin .append, args := #[s, x], argTypes := #[t, t] })
    (ht : P.underlying t = some (.slice e)) (hinfo : (P.info? e).map (fun i => (i.zero, i.size, i.bytes)) = some (some z, L.sz, bytes)) (hzs : z.cells.size = L.sz)
    (base : Nat) (v : Value) (l r : List α) (cs : Array Value) (m c : Nat) (hcs : cs = (L.all r).toArray) (hs : a.eval s = v) (hx : a.eval x = .slice (some ⟨w.heap.size, 0, none⟩) m c) (hm : m = r.length)
    (hown : OwnX L e w base v l) (hb : base ≤ w.heap.size) (hlen : l.length + r.length ≤ 1000000000) (hbytes : bytes ≤ 1000)
    (h : ∀ v' w', OwnX L e w' base v' (l ++ r) → Grew (w.alloc (.cells cs e)) w' v v' → wpListIn F n P ops Q rest (a.put o.dst v') w') :
    wpListIn F n P ops Q (o :: rest) a (w.alloc (.cells cs e)) := by
  subst hcs hm
  obtain ⟨v', w', hrun, h2, h3, h4⟩ := appX_run (P := P) (L := L) (e := e) (W := w.alloc (.cells (L.all r).toArray e)) (ty := o.type) (g := w.heap.size) (c := c) ht hinfo hzs (hown.on (alloc_below w _)) (heap_alloc_new w _) rfl (by simp; omega) hlen hbytes
  refine wpListIn_plain hgd fun K hK' => ?_
  unfold Oper.wpIn
  refine ⟨by simp [Oper.about, ho, resolve, Target.leads, Sem.run_pure], ?_⟩
  rw [Oper.semAt_plain F _ _ (by rw [ho]; intro c hc'; cases hc')]
  simp [execOp, ho, resolve, invoke, builtin, hs, hx, hrun, Result.andThen]
  exact hK' _ _ (h v' w' h2 h3)
end

theorem kq_row {α : Type} {L : Lay α} {e : TypeId} {T : TypeId → Bool} {n₀ B : Nat} {X Y : World} {base : Nat} {v : Value} {l : List α} (h : OwnX L e X base v l) (ht : T e = true) (hn : n₀ ≤ base) (hX : n₀ ≤ X.heap.size) (hg : X.grownBy Y v.ownBlock) : Kq T n₀ B X Y := by
  refine Kq.of_grown hg hX fun j hj => ⟨Nat.le_trans hn (h.base j hj), fun o ho => ?_⟩
  rcases h.2 with ⟨rfl, _⟩ | ⟨g, cap, cur, rfl, _, hgb, _⟩
  · cases hj
  · simp only [Value.ownBlock, Option.some.injEq] at hj
    subst hj
    rw [hgb] at ho
    cases ho
    exact ⟨_, _, _, rfl, ht⟩
theorem ownX_put {α : Type} {L : Lay α} {e : TypeId} {X : World} {base : Nat} {v : Value} {l : List α} (h : OwnX L e X base v l) {D : Nat} {d : Option (List Deferred)} (hK : X.heap[D]? = some (.deferred d)) (o : Obj) : OwnX L e (X.putObj D o) base v l := by
  refine OwnX.keep h (grownBy_putObj' X D o) ?_
  rcases h.2 with ⟨rfl, _⟩ | ⟨g, cap, cur, rfl, _, hgb, _⟩
  · exact .inl rfl
  · refine .inr fun e' => ?_
    simp only [Value.ownBlock, Option.some.injEq] at e'
    rw [e', hK] at hgb
    cases hgb

set_option maxRecDepth 100000 in
set_option maxHeartbeats 4000000 in
theorem run_appendSeq (g : Nat) (lb : Array Value) (eg : ∀ args w, (callFunc g args).run Try.prog w = .ok (.enter g args) w) (n₀ N : Nat) (S Sp : List Ver → Prop) (w : World) (hn : n₀ ≤ w.heap.size) (hN : N ≤ 1000000)
    (hT : Tells9 Try.prog False T9 n₀ g lb (fun v : Ver => #[verV v]) S Sp N w) :
    Calls Try.prog 66 #[.slice none 0 0, .func (.func g) #[] lb] w fun e w' => ∃ v' xs, e = .returned v' ∧ S xs ∧ OwnVr w' w.heap.size v' xs ∧ Below w.heap.size w w' := by
  have b0 := Boxed.new w 22 (.slice none 0 0)
  have hB := alloc_below w (.cells #[.slice none 0 0] 22)
  refine (callsIn_wide (n := 4)).1 ?_
  refine callsIn_of_wp_marks Try.func66 rfl trivial ?_ rfl
  simp only [Try.ntmps66, List.size_toArray, List.length_cons, List.length_nil, Nat.reduceAdd, Nat.reduceSub, Array.replicate_succ, Array.replicate_zero, List.push_toArray, List.append_toArray, List.nil_append, List.cons_append]
  gi_wp2_with fail
  have hsz : (w.alloc (.cells #[.slice none 0 0] 22)).heap.size = w.heap.size + 1 := by simp
  generalize w.alloc (.cells #[.slice none 0 0] 22) = W1 at *
  refine wpIn_rangeTell (P := Try.prog) (Z := False) (T := T9) (gf := g) (lb := lb) rfl eg hT (by omega) hB (fun _ => rfl)
    (fun pre X => (∃ v, Boxed X w.heap.size 22 v ∧ OwnVr X (w.heap.size + 1) v pre) ∧ Below w.heap.size w X ∧ w.heap.size < X.heap.size)
    (fun _ _ _ => False)
    (fun s X Y row hs hg hr => by
      obtain ⟨⟨v, h1, h2⟩, h3, h4⟩ := hs
      refine ⟨⟨v, (grownBy_keeps_cells hg (fun r e => (hr r e).2) h1 rfl).trans h1, OwnX.keep h2 hg ?_⟩, h3.grown hg h3.size (fun k e => by have := (hr k e).1; omega), Nat.lt_of_lt_of_le h4 hg.size⟩
      rcases h2.2 with ⟨rfl, _⟩ | ⟨g2, cap, cur, rfl, _, hgb, _⟩
      · exact .inl rfl
      · refine .inr fun e' => ?_
        obtain ⟨_, o, ho, hc⟩ := hr g2 (by simpa [Value.ownBlock] using e'.symm)
        rw [hgb] at ho; cases ho; cases hc)
    (fun _ _ _ _ _ hs _ _ => hs)
    ⟨⟨_, b0, OwnX.nil _ _⟩, hB, by omega⟩
    (fun x a' X => ∃ Bx, w.heap.size < Bx ∧ Box X Bx (verL.enc x).toArray 42 ∧ a' = { tmps := #[.slice none 0 0, .func (.func g) #[] lb, .pointer (some ⟨w.heap.size, 0, none⟩), undef, .slice none 0 0, .pointer (some ⟨Bx, 0, none⟩), .func (.func g) #[] lb, verV x, undef, undef, undef, undef, undef], defers := [] })
    (fun x a' _ X Y row hs hg hr => by obtain ⟨Bx, h1, h2, h3⟩ := hs; exact ⟨Bx, h1, (grownBy_keeps_cells hg (fun r e => (hr r e).2) h2 rfl).trans h2, h3⟩)
    ?assign ?body ?done ?stop
  case assign =>
    rintro l2 pre x X K hlt ⟨⟨v, h1, h2⟩, h3, h4⟩ hK
    obtain ⟨kk, bb, ee, ss, ⟨xx, yy⟩, uu, gg⟩ := x
    unfold verV
    gi_wp2_with fail
    exact hK _ _ ((Kq.refl _ _ _ X).alloc (by omega) _) ⟨⟨v, h1.alloc _, h2.on (alloc_below X _)⟩, h3.alloc h3.size _, by simp; omega⟩ ⟨X.heap.size, h4, Box.new X _ _ _ rfl, rfl⟩
  case body =>
    rintro l2 pre x a' X hX ⟨⟨v, h1, h2⟩, h3, h4⟩ ⟨Bx, hBx, hbx, rfl⟩ hlen
    have V := Lib.hid h1
    have O := Lib.hid h2
    have G := Lib.hid h3
    have c0 := h1.cell
    obtain ⟨kk, bb, ee, ss, ⟨xx, yy⟩, uu, gg⟩ := x
    have hbx : Box X Bx #[.string kk, .int .i64 bb, .int .i64 ee, .int .i64 ss, .int .i64 xx, .int .i64 yy, .string uu, .bool gg] 42 := hbx
    have e0 := hbx.cell 0 _ rfl
    have e1 := hbx.cell 1 _ rfl
    have e2 := hbx.cell 2 _ rfl
    have e3 := hbx.cell 3 _ rfl
    have e4 := hbx.cell 4 _ rfl
    have e5 := hbx.cell 5 _ rfl
    have e6 := hbx.cell 6 _ rfl
    have e7 := hbx.cell 7 _ rfl
    obtain ⟨A0, c0', ev, -⟩ := h2.rd
    subst ev
    clear h1 h2 h3 hbx
    unfold verV
    gi_wp2_with (gi_at_builtin; refine wpiX_app (L := verL) rfl (.tmp 8) (.tmp 10) rfl Try.underlying22 ver_info rfl (w.heap.size + 1) _ pre [(⟨kk, bb, ee, ss, (xx, yy), uu, gg⟩ : Ver)] _ _ _ rfl rfl rfl rfl O.out (by omega) (by rw [List.length_singleton]; omega) (by decide) ?_; intro v5 w5 ho5 hg5; obtain ⟨A5, c5, e5', -⟩ := ho5.rd; rw [List.length_append, List.length_singleton] at e5'; subst e5'; have hv5 := (V.out.alloc (.cells #[.string kk, .int .i64 bb, .int .i64 ee, .int .i64 ss, .int .i64 xx, .int .i64 yy, .string uu, .bool gg] 42)).kept hg5.grown (fun e => by have := O.out.base w.heap.size e.symm; omega); have hc5 := hv5.cell; have hf5 := hv5.frozen)
    have hb1 : Below w.heap.size X (X.alloc (.cells #[.string kk, .int .i64 bb, .int .i64 ee, .int .i64 ss, .int .i64 xx, .int .i64 yy, .string uu, .bool gg] 42)) := (Below.refl _ X).alloc G.out.size _
    have OA := Lib.hid (O.out.on (alloc_below X (.cells #[.string kk, .int .i64 bb, .int .i64 ee, .int .i64 ss, .int .i64 xx, .int .i64 yy, .string uu, .bool gg] 42)))
    have hb5 := hg5.below (base := w.heap.size) (by simp; omega) (fun k hk => by have := O.out.base k hk; omega)
    have hb6 := (hb1.trans hb5).setCell (p := ⟨w.heap.size, 0, none⟩) (Nat.le_refl _) (.slice A5 (pre.length + 1) c5)
    have K1 : Kq T9 n₀ (w.heap.size + 1) X (X.alloc (.cells #[.string kk, .int .i64 bb, .int .i64 ee, .int .i64 ss, .int .i64 xx, .int .i64 yy, .string uu, .bool gg] 42)) := (Kq.refl _ _ _ X).alloc (by omega) _
    have K2 : Kq T9 n₀ (w.heap.size + 1) (X.alloc (.cells #[.string kk, .int .i64 bb, .int .i64 ee, .int .i64 ss, .int .i64 xx, .int .i64 yy, .string uu, .bool gg] 42)) w5 := kq_row OA.out (by decide) (by omega) (by simp; omega) hg5.grown
    have K3 : Kq T9 n₀ (w.heap.size + 1) w5 (w5.setCell ⟨w.heap.size, 0, none⟩ (.slice A5 (pre.length + 1) c5)) := Kq.of_grown (grownBy_setCell' w5 _ _) (Nat.le_trans hn (by have := hv5.lt; omega)) (fun j hj => ⟨by cases hj; exact hn, fun o ho => by
      cases hj
      rw [show w5.heap[w.heap.size]? = _ from hv5] at ho
      cases ho
      exact ⟨_, _, _, rfl, by decide⟩⟩)
    exact ⟨(K1.trans K2).trans K3, ⟨_, hv5.set _, OwnX.apart ho5 (fun i hi _ => Below.heap_setCell w5 _ _ i hi) (fun e => by have := ho5.base w.heap.size e; omega)⟩, G.out.trans hb6, by have := hv5.lt; simp only [World.setCell, Array.size_modify]; exact this⟩
  case done =>
    rintro D ys X hD hS ⟨⟨v, h1, h2⟩, h3, h4⟩ hK
    have hc := h1.cell
    have H2 := Lib.hid h2
    obtain ⟨A0, c0', ev, -⟩ := h2.rd
    subst ev
    clear h2
    gi_wp2_with fail
    refine ⟨by simp, .inl ⟨_, _, rfl, run_takeDeferred (show X.heap[D]? = _ from hK), ?_⟩⟩
    exact ⟨_, results_tmp rfl _ _ _, _, ys, rfl, hS, OwnX.mono (ownX_put H2.out hK _) (Nat.le_succ _), h3.trans (belowK_b (w := w) (Nat.le_refl _) X D _ _ (by omega) hK rfl rfl)⟩
  case stop =>
    rintro D c pre X _ _ h _
    exact h.elim
end Go.Proofs.Ytefjdmlmmoeoaaa
