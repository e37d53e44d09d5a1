/- Layer 10, the project's: lists as one (versions). -/
import Derived.Test.YtnioiojafnkmhaaNgV
namespace Go.Proofs.Ytnioiojafnkmhaa
open Go.RowKit Go.Shelf
set_option linter.unusedVariables false
attribute [local go_sem] Oper.semAt_some

/-- What a round of All may turn. -/
def TAV (t : TypeId) : Bool := t == 33 || t == 24
theorem ta_freeV : FreeV TAV := ⟨by decide, by decide, by decide⟩
set_option maxRecDepth 100000 in
set_option maxHeartbeats 4000000 in
theorem all_ver (va : Value) (ls : List (List Ver)) (w : World) (ha : RdXX verL w w.heap.size va ls) (hs : ∀ l ∈ ls, Asc lessV l) (hl : ls.flatten.length ≤ 1000) :
    Calls Try.prog 12 #[cmpF, va] w fun e w' => ∃ v', e = .returned v' ∧ OwnX verL 33 w' w.heap.size v' (sortR lessV ls.flatten) ∧ Below w.heap.size w w' := by
  have b0 := Boxed.new w 24 (.slice none 0 0)
  have hB := alloc_below w (.cells #[.slice none 0 0] 24)
  have hsz : (w.alloc (.cells #[.slice none 0 0] 24)).heap.size = w.heap.size + 1 := by simp
  have HA := Lib.hid (RdPP.of ha)
  have HS := Lib.hid hs
  have HL := Lib.hid hl
  obtain ⟨A, ca, rfl, -⟩ := ha.form
  have MG := Lib.hid (run_merged_ver A ls.length ca)
  clear ha hs hl
  unfold cmpF at *
  refine (callsIn_wide (n := 4)).1 ?_
  refine callsIn_of_wp_marks Try.func12 rfl trivial ?_ rfl
  simp only [Try.ntmps12, List.size_toArray, List.length_cons, List.length_nil, Nat.reduceAdd, Nat.reduceSub, Array.replicate_succ, Array.replicate_zero, List.push_toArray, List.append_toArray, List.nil_append, List.cons_append]
  gi_wp2_with fail
  generalize w.alloc (.cells #[.slice none 0 0] 24) = W1 at *
  refine ⟨trivial, (callsIn_wide.2 (MG.out W1)).mono ?_⟩
  rintro e W2 ⟨rfl, hW2⟩
  have hB2 : Below W1.heap.size W1 W2 := by rw [hW2]; exact ((Below.refl _ W1).alloc (Nat.le_refl _) _).alloc (by simp) _
  have hs2 : W2.heap.size = W1.heap.size + 2 := by rw [hW2]; simp
  have B1 : Boxed W2 W1.heap.size 34 cmpF := by rw [hW2]; exact (Boxed.new W1 _ _).alloc _
  have B2 : Boxed W2 (W1.heap.size + 1) 22 (.slice A ls.length ca) := by
    rw [hW2]
    have := Boxed.new (W1.alloc (.cells #[cmpF] 34)) 22 (.slice A ls.length ca)
    rwa [World.size_alloc] at this
  have hBW : Below w.heap.size w W2 := hB.trans (hB2.mono (by omega))
  have TL := Lib.hid (tells_ver (T := TAV) ta_freeV (by decide) (False) w.heap.size _ ls _ _ W2 B1 B2 ((HA.out.below hBW).more hBW.size) HS.out HL.out)
  have GW := Lib.hid hBW
  have b2 : Boxed W2 w.heap.size 24 (.slice none 0 0) := (hB2.block _ (by omega)).trans b0
  have Z1 := Lib.hid hsz
  have Z2 := Lib.hid hs2
  have Q2 := Lib.hid b2
  clear hW2 hB2 B1 B2 hBW b0 hB hsz hs2 b2 MG HA
  gi_wp2_with fail
  have b2 := Q2.out
  have hsz := Z1.out
  have hs2 := Z2.out
  refine wpIn_rangeTell2 (P := Try.prog) (Z := False) (T := TAV) (Kp := fun k => k < w.heap.size) (gf := 34) rfl (enters_of Try.func34 (by kernel_rfl) rfl) TL.out (by omega) (fun k h => by omega) (Below.refl _ _) (fun _ => rfl)
    (fun pre X => (∃ v, Boxed X w.heap.size 24 v ∧ OwnX verL 33 X (w.heap.size + 1) v pre) ∧ Below w.heap.size w X ∧ w.heap.size < X.heap.size)
    (fun _ _ _ => False)
    (fun s X Y hs htw => by
      obtain ⟨⟨v, h1, h2⟩, h3, h4⟩ := hs
      exact ⟨⟨v, htw.cells _ _ _ _ h1 (by decide), htw.own h2 (by decide)⟩, h3.trans (htw.below (by omega) (by omega)), Nat.lt_of_lt_of_le h4 htw.size⟩)
    (fun _ _ _ _ hs _ => hs)
    ⟨⟨_, b2, OwnX.nil _ _⟩, GW.out, by omega⟩
    (fun x a' X => ∃ Bx, w.heap.size < Bx ∧ Box X Bx (verL.enc x).toArray 33 ∧ a' = { tmps := #[cmpF, .slice A ls.length ca, undef, undef, .slice none 0 0, .pointer (some ⟨w.heap.size, 0, none⟩), .pointer (some ⟨Bx, 0, none⟩), cmpF, .slice A ls.length ca, .func (.func 34) #[] #[.pointer (some ⟨W1.heap.size, 0, none⟩), .pointer (some ⟨W1.heap.size + 1, 0, none⟩)], verV x, undef, undef, undef, undef, undef], defers := [] })
    (fun x a' _ X Y hs htw => by obtain ⟨Bx, h1, h2, h3⟩ := hs; exact ⟨Bx, h1, htw.cells _ _ _ _ h2 (by decide), h3⟩)
    ?assign ?body ?done ?stop
  case assign =>
    rintro l2 pre x X K hlt ⟨⟨v, h1, h2⟩, h3, h4⟩ hK
    obtain ⟨kk, bb, ee, ss, ⟨xx, yy⟩, uu, gg⟩ := x
    unfold verV
    clear hsz hs2
    gi_wp2_with fail
    have hsz := Z1.out
    have hs2 := Z2.out
    exact hK _ _ ((Kr.refl _ _ _ _ X).alloc (by omega) _) ⟨⟨v, h1.alloc _, h2.on (alloc_below X _)⟩, h3.alloc h3.size _, by simp; omega⟩ ⟨X.heap.size, h4, Box.new X _ _ _ rfl, rfl⟩
  case body =>
    rintro l2 pre x a' X hX ⟨⟨v, h1, h2⟩, h3, h4⟩ ⟨Bx, hBx, hbx, rfl⟩ hlen
    have V := Lib.hid h1
    have O := Lib.hid h2
    have G := Lib.hid h3
    have c0 := h1.cell
    obtain ⟨kk, bb, ee, ss, ⟨xx, yy⟩, uu, gg⟩ := x
    have hbx : Box X Bx #[.string kk, .int .i64 bb, .int .i64 ee, .int .i64 ss, .int .i64 xx, .int .i64 yy, .string uu, .bool gg] 33 := hbx
    have e0 := hbx.cell 0 _ rfl
    have e1 := hbx.cell 1 _ rfl
    have e2 := hbx.cell 2 _ rfl
    have e3 := hbx.cell 3 _ rfl
    have e4 := hbx.cell 4 _ rfl
    have e5 := hbx.cell 5 _ rfl
    have e6 := hbx.cell 6 _ rfl
    have e7 := hbx.cell 7 _ rfl
    obtain ⟨A0, c0', ev, -⟩ := h2.rd
    subst ev
    clear h1 h2 h3 hbx
    unfold verV
    have HX2 := Lib.hid (show w.heap.size + 1 ≤ X.heap.size from by omega)
    clear hsz hs2
    gi_wp2_with (gi_at_builtin; refine wpiX_app (L := verL) rfl (.tmp 11) (.tmp 13) rfl Try.underlying24 ver_info rfl (w.heap.size + 1) _ pre [(⟨kk, bb, ee, ss, (xx, yy), uu, gg⟩ : Ver)] _ _ _ rfl rfl rfl rfl O.out HX2.out (by rw [List.length_singleton]; omega) (by decide) ?_; intro v5 w5 ho5 hg5; obtain ⟨A5, c5, e5', -⟩ := ho5.rd; rw [List.length_append, List.length_singleton] at e5'; subst e5'; have hv5 := (V.out.alloc (.cells #[.string kk, .int .i64 bb, .int .i64 ee, .int .i64 ss, .int .i64 xx, .int .i64 yy, .string uu, .bool gg] 33)).kept hg5.grown (fun e => by have := O.out.base w.heap.size e.symm; omega); have hc5 := hv5.cell; have hf5 := hv5.frozen)
    have hsz := Z1.out
    have hs2 := Z2.out
    have hb1 : Below w.heap.size X (X.alloc (.cells #[.string kk, .int .i64 bb, .int .i64 ee, .int .i64 ss, .int .i64 xx, .int .i64 yy, .string uu, .bool gg] 33)) := (Below.refl _ X).alloc G.out.size _
    have OA := Lib.hid (O.out.on (alloc_below X (.cells #[.string kk, .int .i64 bb, .int .i64 ee, .int .i64 ss, .int .i64 xx, .int .i64 yy, .string uu, .bool gg] 33)))
    have hb5 := hg5.below (base := w.heap.size) (by simp; omega) (fun k hk => by have := O.out.base k hk; omega)
    have hb6 := (hb1.trans hb5).setCell (p := ⟨w.heap.size, 0, none⟩) (Nat.le_refl _) (.slice A5 (pre.length + 1) c5)
    have K1 : Kr TAV (fun k => k < w.heap.size) w.heap.size W2.heap.size X (X.alloc (.cells #[.string kk, .int .i64 bb, .int .i64 ee, .int .i64 ss, .int .i64 xx, .int .i64 yy, .string uu, .bool gg] 33)) := (Kr.refl _ _ _ _ X).alloc (by omega) _
    have K2 : Kr TAV (fun k => k < w.heap.size) w.heap.size W2.heap.size (X.alloc (.cells #[.string kk, .int .i64 bb, .int .i64 ee, .int .i64 ss, .int .i64 xx, .int .i64 yy, .string uu, .bool gg] 33)) w5 := kr_row OA.out (by decide) (by omega) (fun k h => by omega) (by simp; omega) hg5.grown
    have K3 : Kr TAV (fun k => k < w.heap.size) w.heap.size W2.heap.size w5 (w5.setCell ⟨w.heap.size, 0, none⟩ (.slice A5 (pre.length + 1) c5)) := Kr.of_grown (grownBy_setCell' w5 _ _) (by have := hv5.lt; omega) (fun j hj => ⟨by cases hj; exact Nat.le_refl _, by cases hj; exact Nat.lt_irrefl _, fun o ho => by
      cases hj
      rw [show w5.heap[w.heap.size]? = _ from hv5] at ho
      cases ho
      exact ⟨_, _, _, rfl, by decide⟩⟩)
    exact ⟨(K1.trans K2).trans K3, ⟨_, hv5.set _, OwnX.apart ho5 (fun i hi _ => Below.heap_setCell w5 _ _ i hi) (fun e => by have := ho5.base w.heap.size e; omega)⟩, G.out.trans hb6, by have := hv5.lt; simp only [World.setCell, Array.size_modify]; exact this⟩
  case done =>
    rintro D ys X hD rfl ⟨⟨v, h1, h2⟩, h3, h4⟩ hK
    have hc := h1.cell
    have H2 := Lib.hid h2
    obtain ⟨A0, c0', ev, -⟩ := h2.rd
    subst ev
    clear h2 hsz hs2
    gi_wp2_with fail
    have hsz := Z1.out
    have hs2 := Z2.out
    refine ⟨by simp, .inl ⟨_, _, rfl, run_takeDeferred (show X.heap[D]? = _ from hK), ?_⟩⟩
    exact ⟨_, results_tmp rfl _ _ _, _, rfl, OwnX.mono (ownX_put H2.out hK _) (Nat.le_succ _), h3.trans (belowK_b (w := w) (Nat.le_refl _) X D _ _ (by omega) hK rfl rfl)⟩
  case stop =>
    rintro D c pre X _ _ h _
    exact h.elim
end Go.Proofs.Ytnioiojafnkmhaa
