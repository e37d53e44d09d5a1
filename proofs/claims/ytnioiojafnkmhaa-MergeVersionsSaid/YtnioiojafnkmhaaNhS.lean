/- Layer 10, the project's: lists as one (texts). -/
import Derived.Test.YtnioiojafnkmhaaNgS
namespace Go.Proofs.Ytnioiojafnkmhaa
open Go.RowKit Go.Shelf
set_option linter.unusedVariables false
attribute [local go_sem] Oper.semAt_some

/-- What a round of All may turn. -/
def TAS (t : TypeId) : Bool := t == 9 || t == 45
theorem ta_freeS : FreeS TAS := ⟨by decide, by decide, by decide⟩
theorem ei_infoS : (Try.prog.info? 9).map (fun i => (i.zero, i.size, i.bytes)) = some (some (.string ⟨#[]⟩), strL.sz, 16) := by kernel_rfl
set_option maxRecDepth 100000 in
set_option maxHeartbeats 4000000 in
theorem all_str (va : Value) (ls : List (List ByteArray)) (w : World) (ha : RdXX strL w w.heap.size va ls) (hs : ∀ l ∈ ls, Asc strLt l) (hl : ls.flatten.length ≤ 1000) :
    Calls Try.prog 30 #[cmpS, va] w fun e w' => ∃ v', e = .returned v' ∧ OwnX strL 9 w' w.heap.size v' (sortR strLt ls.flatten) ∧ Below w.heap.size w w' := by
  have b0 := Boxed.new w 45 (.slice none 0 0)
  have hB := alloc_below w (.cells #[.slice none 0 0] 45)
  have hsz : (w.alloc (.cells #[.slice none 0 0] 45)).heap.size = w.heap.size + 1 := by simp
  have HA := Lib.hid (RdPP.of ha)
  have HS := Lib.hid hs
  have HL := Lib.hid hl
  obtain ⟨A, ca, rfl, -⟩ := ha.form
  have MG := Lib.hid (run_merged_str A ls.length ca)
  clear ha hs hl
  unfold cmpS at *
  refine (callsIn_wide (n := 4)).1 ?_
  refine callsIn_of_wp_marks Try.func30 rfl trivial ?_ rfl
  simp only [Try.ntmps30, List.size_toArray, List.length_cons, List.length_nil, Nat.reduceAdd, Nat.reduceSub, Array.replicate_succ, Array.replicate_zero, List.push_toArray, List.append_toArray, List.nil_append, List.cons_append]
  gi_wp2_with fail
  generalize w.alloc (.cells #[.slice none 0 0] 45) = W1 at *
  refine ⟨trivial, (callsIn_wide.2 (MG.out W1)).mono ?_⟩
  rintro e W2 ⟨rfl, hW2⟩
  have hB2 : Below W1.heap.size W1 W2 := by rw [hW2]; exact ((Below.refl _ W1).alloc (Nat.le_refl _) _).alloc (by simp) _
  have hs2 : W2.heap.size = W1.heap.size + 2 := by rw [hW2]; simp
  have B1 : Boxed W2 W1.heap.size 58 cmpS := by rw [hW2]; exact (Boxed.new W1 _ _).alloc _
  have B2 : Boxed W2 (W1.heap.size + 1) 42 (.slice A ls.length ca) := by
    rw [hW2]
    have := Boxed.new (W1.alloc (.cells #[cmpS] 58)) 42 (.slice A ls.length ca)
    rwa [World.size_alloc] at this
  have hBW : Below w.heap.size w W2 := hB.trans (hB2.mono (by omega))
  have TL := Lib.hid (tells_str (T := TAS) ta_freeS (False) w.heap.size _ ls _ _ W2 B1 B2 ((HA.out.below hBW).more hBW.size) HS.out HL.out)
  have GW := Lib.hid hBW
  have b2 : Boxed W2 w.heap.size 45 (.slice none 0 0) := (hB2.block _ (by omega)).trans b0
  have Z1 := Lib.hid hsz
  have Z2 := Lib.hid hs2
  have Q2 := Lib.hid b2
  clear hW2 hB2 B1 B2 hBW b0 hB hsz hs2 b2 MG HA
  gi_wp2_with fail
  have b2 := Q2.out
  have hsz := Z1.out
  have hs2 := Z2.out
  refine wpIn_rangeTell2 (P := Try.prog) (Z := False) (T := TAS) (Kp := fun k => k < w.heap.size) (gf := 50) rfl (enters_of Try.func50 (by kernel_rfl) rfl) TL.out (by omega) (fun k h => by omega) (Below.refl _ _) (fun _ => rfl)
    (fun pre X => (∃ v, Boxed X w.heap.size 45 v ∧ OwnX strL 9 X (w.heap.size + 1) v pre) ∧ Below w.heap.size w X ∧ w.heap.size < X.heap.size)
    (fun _ _ _ => False)
    (fun s X Y hs htw => by
      obtain ⟨⟨v, h1, h2⟩, h3, h4⟩ := hs
      exact ⟨⟨v, htw.cells _ _ _ _ h1 (by decide), htw.own h2 (by decide)⟩, h3.trans (htw.below (by omega) (by omega)), Nat.lt_of_lt_of_le h4 htw.size⟩)
    (fun _ _ _ _ hs _ => hs)
    ⟨⟨_, b2, OwnX.nil _ _⟩, GW.out, by omega⟩
    (fun x a' X => a' = { tmps := #[cmpS, .slice A ls.length ca, undef, undef, .slice none 0 0, .pointer (some ⟨w.heap.size, 0, none⟩), .string x, cmpS, .slice A ls.length ca, .func (.func 50) #[] #[.pointer (some ⟨W1.heap.size, 0, none⟩), .pointer (some ⟨W1.heap.size + 1, 0, none⟩)], .string x, undef, undef, undef, undef, undef], defers := [] })
    (fun x a' _ X Y hs htw => hs)
    ?assign ?body ?done ?stop
  case assign =>
    rintro l2 pre x X K hlt hi hK
    clear hsz hs2
    gi_wp2_with fail
    exact hK _ _ (Kr.refl _ _ _ _ X) hi rfl
  case body =>
    rintro l2 pre x a' X hX ⟨⟨v, h1, h2⟩, h3, h4⟩ rfl hlen
    have V := Lib.hid h1
    have O := Lib.hid h2
    have G := Lib.hid h3
    have c0 := h1.cell
    obtain ⟨A0, c0', ev, -⟩ := h2.rd
    subst ev
    clear h1 h2 h3
    have HX2 := Lib.hid (show w.heap.size + 1 ≤ X.heap.size from by omega)
    clear hsz hs2
    gi_wp2_with (gi_at_builtin; refine wpiX_app (L := strL) rfl (.tmp 11) (.tmp 13) rfl Try.underlying45 ei_infoS rfl (w.heap.size + 1) _ pre [x] _ _ _ rfl rfl rfl rfl O.out HX2.out (by rw [List.length_singleton]; omega) (by decide) ?_; intro v5 w5 ho5 hg5; obtain ⟨A5, c5, e5', -⟩ := ho5.rd; rw [List.length_append, List.length_singleton] at e5'; subst e5'; have hv5 := (V.out.alloc (.cells #[.string x] 9)).kept hg5.grown (fun e => by have := O.out.base w.heap.size e.symm; omega); have hc5 := hv5.cell; have hf5 := hv5.frozen)
    have hsz := Z1.out
    have hs2 := Z2.out
    have hb1 : Below w.heap.size X (X.alloc (.cells #[.string x] 9)) := (Below.refl _ X).alloc G.out.size _
    have OA := Lib.hid (O.out.on (alloc_below X (.cells #[.string x] 9)))
    have hb5 := hg5.below (base := w.heap.size) (by simp; omega) (fun k hk => by have := O.out.base k hk; omega)
    have hb6 := (hb1.trans hb5).setCell (p := ⟨w.heap.size, 0, none⟩) (Nat.le_refl _) (.slice A5 (pre.length + 1) c5)
    have K1 : Kr TAS (fun k => k < w.heap.size) w.heap.size W2.heap.size X (X.alloc (.cells #[.string x] 9)) := (Kr.refl _ _ _ _ X).alloc (by omega) _
    have K2 : Kr TAS (fun k => k < w.heap.size) w.heap.size W2.heap.size (X.alloc (.cells #[.string x] 9)) w5 := kr_row OA.out (by decide) (by omega) (fun k h => by omega) (by simp; omega) hg5.grown
    have K3 : Kr TAS (fun k => k < w.heap.size) w.heap.size W2.heap.size w5 (w5.setCell ⟨w.heap.size, 0, none⟩ (.slice A5 (pre.length + 1) c5)) := Kr.of_grown (grownBy_setCell' w5 _ _) (by have := hv5.lt; omega) (fun j hj => ⟨by cases hj; exact Nat.le_refl _, by cases hj; exact Nat.lt_irrefl _, fun o ho => by
      cases hj
      rw [show w5.heap[w.heap.size]? = _ from hv5] at ho
      cases ho
      exact ⟨_, _, _, rfl, by decide⟩⟩)
    exact ⟨(K1.trans K2).trans K3, ⟨_, hv5.set _, OwnX.apart ho5 (fun i hi _ => Below.heap_setCell w5 _ _ i hi) (fun e => by have := ho5.base w.heap.size e; omega)⟩, G.out.trans hb6, by have := hv5.lt; simp only [World.setCell, Array.size_modify]; exact this⟩
  case done =>
    rintro D ys X hD rfl ⟨⟨v, h1, h2⟩, h3, h4⟩ hK
    have hc := h1.cell
    have H2 := Lib.hid h2
    obtain ⟨A0, c0', ev, -⟩ := h2.rd
    subst ev
    clear h2 hsz hs2
    gi_wp2_with fail
    have hsz := Z1.out
    have hs2 := Z2.out
    refine ⟨by simp, .inl ⟨_, _, rfl, run_takeDeferred (show X.heap[D]? = _ from hK), ?_⟩⟩
    exact ⟨_, results_tmp rfl _ _ _, _, rfl, OwnX.mono (ownX_put H2.out hK _) (Nat.le_succ _), h3.trans (belowK_b (w := w) (Nat.le_refl _) X D _ _ (by omega) hK rfl rfl)⟩
  case stop =>
    rintro D c pre X _ _ h _
    exact h.elim
end Go.Proofs.Ytnioiojafnkmhaa
