/- Layer 14: what the project's view must answer, as hypotheses; the law's example out of them. -/
import Derived.Test.YtlpakooogbaclaaGi
import Derived.Test.YtlpakooogbaclaaSd
import Derived.BigQuiet
import Derived.Deep.Slices
import Derived.Deep.Fields
import Derived.ChangeSame
import Derived.Lib.SmallJoins
import Derived.ChangeMaps5
import Derived.SizedLaws
import Derived.ChangeArms
namespace Go.Proofs.Ytlpakooogbaclaa
open Go.RowKit
set_option linter.unusedVariables false

def inG (n : Int) : Prop := -9223372036854775808 ≤ n ∧ n ≤ 9223372036854775807
/-- Versions and paths as the laws hand them in. -/
structure OkLP (l : List Ver) (p : List (Int × Int)) : Prop where
  l20 : l.length ≤ 20
  p5 : p.length ≤ 5
  ver : ∀ v ∈ l, OkVer v ∧ v.key.size ≤ 110 ∧ v.val.size ≤ 210
  leg : ∀ g ∈ p, inG g.1 ∧ inG g.2
theorem cut_size (v : Ver) : (cutV v).key.size ≤ 110 ∧ (cutV v).val.size ≤ 210 := by
  unfold cutV
  simp only
  constructor
  · split
    · rw [ByteArray.size_extract]; omega
    · omega
  · split
    · rw [ByteArray.size_extract]; omega
    · omega
theorem cut_ok {v : Ver} (h : OkVer v) : OkVer (cutV v) := ⟨Nat.le_trans (cut_size v).1 (by decide), Nat.le_trans (cut_size v).2 (by decide), h.b, h.e, h.s, h.x, h.y⟩
theorem ok_cut {l : List Ver} {p : List (Int × Int)} (hl : ∀ v ∈ l, OkVer v) (hp : ∀ g ∈ p, inG g.1 ∧ inG g.2) : OkLP (cutVs l) (cutG p) := by
  refine ⟨?_, ?_, fun v hv => ?_, fun g hg => hp g (List.mem_of_mem_take hg)⟩
  · unfold cutVs; rw [List.length_map, List.length_take]; omega
  · unfold cutG; rw [List.length_take]; omega
  · unfold cutVs at hv
    obtain ⟨u, hu, rfl⟩ := List.mem_map.1 hv
    exact ⟨cut_ok (hl u (List.mem_of_mem_take hu)), cut_size u⟩
theorem OkLP.order {l : List Ver} {p : List (Int × Int)} (h : OkLP l p) : OkLP (orderV l p) p := ⟨Nat.le_trans (order_len l p) h.l20, h.p5, fun v hv => h.ver v (order_mem hv), h.leg⟩

/-- What the project's view must answer. -/
structure ViF : Prop where
  order : ∀ (w : World) (va vp : Value) (l : List Ver) (p : List (Int × Int)), RdVr w w.heap.size va l → RdX lgL w w.heap.size vp p → OkLP l p →
    Calls Try.prog 12 #[va, vp] w fun z w' => ∃ v', z = .returned v' ∧ OwnX verL 50 w' w.heap.size v' (orderV l p) ∧ Below w.heap.size w w'
  last : ∀ (w : World) (va vp : Value) (l : List Ver) (p : List (Int × Int)), RdVr w w.heap.size va l → RdX lgL w w.heap.size vp p → OkLP l p →
    Calls Try.prog 14 #[va, vp] w fun z w' => z = .returned (stV (lastS (orderV l p))) ∧ Below w.heap.size w w'
  get : ∀ (w : World) (va vp : Value) (l : List Ver) (p : List (Int × Int)) (t : Int), RdVr w w.heap.size va l → RdX lgL w w.heap.size vp p → OkLP l p → inG t →
    Calls Try.prog 20 #[va, vp, .int .i64 t] w fun z w' => z = .returned (.tuple #[.string (getV (orderV l p) t).1, .bool (getV (orderV l p) t).2]) ∧ Below w.heap.size w w'
  state : ∀ (w : World) (va vp : Value) (l : List Ver) (p : List (Int × Int)), RdVr w w.heap.size va l → RdX lgL w w.heap.size vp p → OkLP l p →
    Calls Try.prog 18 #[va, vp] w fun z w' => ∃ v', z = .returned v' ∧ OwnPc w' w.heap.size v' (stateV (orderV l p)) ∧ Below w.heap.size w w'

theorem st_eql (W : World) (a b : Int × Int × Int) : (binOp .eql 29 (stV a) (stV b)).run Try.prog W = .ok (.bool (decide (a = b))) W := by
  obtain ⟨a1, a2, a3⟩ := a
  obtain ⟨b1, b2, b3⟩ := b
  unfold stV
  go_simp
  by_cases e1 : a1 = b1 <;> by_cases e2 : a2 = b2 <;> by_cases e3 : a3 = b3 <;> simp [e1, e2, e3]
def livL : List Ver := [⟨⟨#[]⟩, 0, 1, 1, (0, 9), ⟨#[120]⟩, false⟩, ⟨⟨#[]⟩, 0, 2, 1, (3, 5), ⟨#[]⟩, true⟩]
def livP : List (Int × Int) := [(0, 2)]
theorem liv_ok : OkLP livL livP := by
  refine ⟨by decide, by decide, fun v hv => ?_, fun g hg => ?_⟩
  · unfold livL at hv
    simp only [List.mem_cons, List.not_mem_nil, or_false] at hv
    rcases hv with rfl | rfl
    · exact ⟨⟨by decide, by decide, ⟨by decide, by decide⟩, ⟨by decide, by decide⟩, ⟨by decide, by decide⟩, ⟨by decide, by decide⟩, ⟨by decide, by decide⟩⟩, by decide, by decide⟩
    · exact ⟨⟨by decide, by decide, ⟨by decide, by decide⟩, ⟨by decide, by decide⟩, ⟨by decide, by decide⟩, ⟨by decide, by decide⟩, ⟨by decide, by decide⟩⟩, by decide, by decide⟩
  · unfold livP at hg
    simp only [List.mem_cons, List.not_mem_nil, or_false] at hg
    subst hg
    exact ⟨⟨by decide, by decide⟩, ⟨by decide, by decide⟩⟩
theorem liv_order : orderV livL livP = livL := by kernel_rfl
theorem liv_get : getV livL 6 = (⟨#[120]⟩, true) := by decide +kernel
theorem liv_state : (stateV livL).length = 2 := by decide +kernel
theorem liv_last : lastS livL = (0, 2, 1) := rfl
end Go.Proofs.Ytlpakooogbaclaa
/- Layer 14: the law's example, out of what the project must answer. -/
namespace Go.Proofs.Ytlpakooogbaclaa
open Go.RowKit
set_option linter.unusedVariables false

set_option maxHeartbeats 4000000 in
set_option maxRecDepth 100000 in
theorem law14_lives (K : ViF) (w : World) : Calls Try.prog 16 #[] w fun z w' => z = .returned (.bool true) ∧ Below w.heap.size w w' := by
  have K := Lib.hid K
  obtain ⟨W1, hW1⟩ : ∃ W1, w.alloc (.cells #[.string ⟨#[]⟩, .int .i64 0, .int .i64 1, .int .i64 1, .int .i64 0, .int .i64 9, .string ⟨#[120]⟩, .bool false, .string ⟨#[]⟩, .int .i64 0, .int .i64 2, .int .i64 1, .int .i64 3, .int .i64 5, .string ⟨#[]⟩, .bool true] 50) = W1 := ⟨_, rfl⟩
  have hb1 : Below w.heap.size w W1 := by rw [← hW1]; exact alloc_below _ _
  have R1 : RdVr W1 W1.heap.size (.slice (some ⟨w.heap.size, 0, none⟩) 2 2) livL := by rw [← hW1]; exact (OwnX.new (L := verL) (e := 50) w _ livL 2 rfl rfl (by decide)).rd
  obtain ⟨W2, hW2⟩ : ∃ W2, W1.alloc (.cells #[.int .i64 0, .int .i64 2] 60) = W2 := ⟨_, rfl⟩
  have hb2 : Below W1.heap.size W1 W2 := by rw [← hW2]; exact alloc_below _ _
  have R2 : RdX lgL W2 W2.heap.size (.slice (some ⟨W1.heap.size, 0, none⟩) 1 1) livP := by rw [← hW2]; exact (OwnX.new (L := lgL) (e := 60) W1 _ livP 1 rfl rfl (by decide)).rd
  have RV := Lib.hid (R1.on hb2)
  have RP := Lib.hid R2
  have G := Lib.hid (hb1.trans (hb2.mono hb1.size))
  have GE := Lib.hid (K.out.get W2 _ _ livL livP 6 RV.out RP.out liv_ok ⟨by decide, by decide⟩)
  rw [liv_order, liv_get] at GE
  clear hb1 R1 hb2 R2
  go_enter Try.func16, Try.ntmps16
  go_wp2_with fail
  clear hW1 hW2
  refine GE.out.mono ?_
  rintro z w3 ⟨rfl, hb⟩
  have RV := Lib.hid (RV.out.on hb)
  have RP := Lib.hid (RP.out.on hb)
  have G := Lib.hid (G.out.trans (hb.mono G.out.size))
  have SE := Lib.hid (K.out.state w3 _ _ livL livP RV.out RP.out liv_ok)
  rw [liv_order] at SE
  clear hb GE
  go_wp2_with fail
  refine SE.out.mono ?_
  rintro z w4 ⟨v4, rfl, ho, hb⟩
  obtain ⟨A4, c4, ev, -⟩ := ho.rd
  rw [liv_state] at ev
  subst ev
  have RV := Lib.hid (RV.out.on hb)
  have RP := Lib.hid (RP.out.on hb)
  have G := Lib.hid (G.out.trans (hb.mono G.out.size))
  have LE := Lib.hid (K.out.last w4 _ _ livL livP RV.out RP.out liv_ok)
  rw [liv_order, liv_last] at LE
  unfold stV at LE
  simp only at LE
  clear ho hb SE
  go_wp2_with fail
  refine LE.out.mono ?_
  rintro z w5 ⟨rfl, hb⟩
  have G := Lib.hid (G.out.trans (hb.mono G.out.size))
  clear hb LE
  go_wp2_with fail
  go_ret
  exact ⟨rfl, G.out⟩
end Go.Proofs.Ytlpakooogbaclaa
/- Layer 14: the legs that the laws get, as the form reads them. -/
namespace Go.Proofs.Ytlpakooogbaclaa
open Go.RowKit Go.ChangeShapes Go.WideShapes Go.ChangeAt Go.Deep
set_option linter.unusedVariables false
section
variable {H : Type} {enc : TypeId × Value → H} {P : Program} {W : World} {α : Type} {L : Lay α} {Ok : α → Prop}
/-- A slice of elements of a layout, opened. -/
theorem trod_rowG {t q : TypeId} {fuel : Nat} {cs : List Value} {x : DataW H × List MemPlace} (ht : P.underlying t = some (.slice q)) (hc : P.cellsOf q = L.sz)
    (hel : ∀ (fuel : Nat) (cs : List Value) (x : DataW H × List MemPlace), DataW.trod enc P W 0 (fun _ => true) true fuel q cs = some x → ∃ y : α, cs = L.enc y ∧ Ok y)
    (h : DataW.trod enc P W 0 (fun _ => true) true fuel t cs = some x) (hlt : ∀ y ∈ x.2, y.block < W.heap.size) : ∃ a l m, cs = [.slice a l m] ∧ ∃ ys : List α, RdX L W W.heap.size (.slice a l m) ys ∧ ∀ y ∈ ys, Ok y := by
  have hpos := L.pos
  rcases open_slice ht h with ⟨rfl, -⟩ | ⟨a, len, cap, m, n, D, Pl, rfl, _, hl, hm, hmm, rfl, hi⟩
  · exact ⟨none, 0, 0, rfl, [], RdX.nil _ _, by simp⟩
  · simp only [if_true] at hmm
    subst hmm
    refine ⟨_, _, _, rfl, ?_⟩
    have hx : ∀ i, i < m → ∃ y : α, (∀ (j : Nat) (u : Value), (L.enc y)[j]? = some u → W.cell? (a.add (i * L.sz + j)) = some u) ∧ Ok y := by
      intro i him
      obtain ⟨cs', hcc, hty⟩ := hi i him
      rw [hc] at hcc
      obtain ⟨y, rfl, h1⟩ := hel _ _ _ hty
      obtain ⟨_, _, hat⟩ := World.cells?_some hcc
      refine ⟨y, fun j u hj => ?_, h1⟩
      have hjl : j < L.sz := by rw [← L.len y]; exact (List.getElem?_eq_some_iff.1 hj).1
      have h3 := hat j hjl
      rw [Go.Deep.add_add] at h3
      rw [h3, hj]
    have hys : ∃ ys : List α, ys.length = len ∧ ∀ (i : Nat) (y : α), ys[i]? = some y → (∀ (j : Nat) (u : Value), (L.enc y)[j]? = some u → W.cell? (a.add (i * L.sz + j)) = some u) ∧ Ok y := by
      have key : ∀ k, k ≤ len → ∃ ys : List α, ys.length = k ∧ ∀ (i : Nat) (y : α), ys[i]? = some y → (∀ (j : Nat) (u : Value), (L.enc y)[j]? = some u → W.cell? (a.add (i * L.sz + j)) = some u) ∧ Ok y := by
        intro k
        induction k with
        | zero => intro _; exact ⟨[], rfl, by simp⟩
        | succ k ih =>
          intro hk
          obtain ⟨ys, h1, h2⟩ := ih (by omega)
          obtain ⟨y, h3⟩ := hx k (by omega)
          refine ⟨ys ++ [y], by simp [h1], fun i z hz => ?_⟩
          rw [List.getElem?_append] at hz
          split at hz
          · exact h2 i z hz
          · have : i = k := by
              have := (List.getElem?_eq_some_iff.1 hz).1
              simp at this; omega
            subst this
            rw [h1, Nat.sub_self] at hz
            simp at hz
            subst hz
            exact h3
      exact key len (Nat.le_refl _)
    obtain ⟨ys, rfl, hat⟩ := hys
    refine ⟨ys, ⟨some a, m, rfl, hl, by simpa [maxLen] using hm, fun hp => ?_⟩, fun y hy => ?_⟩
    · obtain ⟨b, off, spot⟩ := a
      have hspot : spot = none := by
        have h0 := (hat 0 _ (List.getElem?_eq_getElem hp)).1 0 _ (List.getElem?_eq_getElem (by rw [L.len]; exact hpos))
        simpa [Addr.add] using World.cell?_spot h0
      subst hspot
      refine ⟨b, off, rfl, hlt (.cell b off) (List.mem_append_left _ (MemPlace.mem_row.2 ⟨0, ?_, by simp⟩)), fun k y hk j u hj => ?_⟩
      · rw [hc]; exact Nat.mul_pos (by omega) hpos
      · have q0 := (hat k y hk).1 j u hj
        simp only [addr_plain] at q0
        rw [Nat.add_assoc]
        exact q0
    · obtain ⟨i, hi2, rfl⟩ := List.getElem_of_mem hy
      exact (hat i _ (List.getElem?_eq_getElem hi2)).2

end
theorem cells_lg : Try.prog.cellsOf 60 = 2 := by kernel_rfl
theorem cells_i1 : Try.prog.cellsOf 3 = 1 := by kernel_rfl
section
variable {H : Type} {enc : TypeId × Value → H} {w : World} {base : Nat} {spare : Nat → Bool} {held : Bool}
set_option maxRecDepth 100000 in
theorem trod_lg {fuel : Nat} {cs : List Value} {x : DataW H × List MemPlace} (h : DataW.trod enc Try.prog w base spare held fuel 60 cs = some x) : ∃ g : Int × Int, cs = lgL.enc g ∧ inG g.1 ∧ inG g.2 := by
  obtain ⟨y0, y1, n, -, hl, h0, h1⟩ := trod_struct2 Try.underlying60 h
  rw [cells_lg] at hl
  match cs, hl with
  | [c0, c1], _ =>
    simp only [cells_i1, List.drop_zero, List.take_succ_cons, List.take_zero, List.drop_succ_cons] at h0 h1
    obtain ⟨a, e0, -, w0⟩ := DataW.trod_int Try.underlying3 h0
    obtain ⟨b, e1, -, w1⟩ := DataW.trod_int Try.underlying3 h1
    cases e0
    cases e1
    exact ⟨(a, b), rfl, wf_int w0, wf_int w1⟩
end
section
variable {H : Type} {enc : TypeId × Value → H} {W : World} {v : Value} {d : DataW H} {p : List MemPlace} {r : Reach} {b0 : Nat}
set_option maxRecDepth 100000 in
theorem open_lgs (hval : Value.okWide Try.prog W r b0 23 v) (h : DataW.Trod enc Try.prog W 0 (fun _ => true) true 23 v d p) (hlt : ∀ x ∈ p, x.block < W.heap.size) :
    ∃ l : List (Int × Int), RdX lgL W W.heap.size v l ∧ ∀ g ∈ l, inG g.1 ∧ inG g.2 := by
  obtain ⟨a0, len, cap, rfl⟩ := okWide_slice Try.underlying23 hval
  obtain ⟨fuel, hf⟩ := h
  obtain ⟨a, l, m, e, ys, h1, h2⟩ := trod_rowG (L := lgL) (Ok := fun g => inG g.1 ∧ inG g.2) Try.underlying23 cells_lg (fun _ _ _ h => trod_lg h) hf hlt
  simp [Value.cells] at e
  obtain ⟨rfl, rfl, rfl⟩ := e
  exact ⟨ys, h1, h2⟩
theorem bytes_ver : Try.prog.bytesOf 50 = 80 := by kernel_rfl
set_option maxRecDepth 100000 in
/-- How many versions can be handed in at most: so many as lie within the form's reach. -/
theorem vers_sized {ts : List TypeId} {ds : List (DataW H)} {j B : Nat} {l : List Ver} (h : DataW.Trod enc Try.prog W 0 (fun _ => true) true 22 v d p) (hr : RdVr W B v l)
    (hs : (DataW.weightsEach Try.prog ts ds).all (· ≤ reachBytes) = true) (ht : ts[j]? = some 22) (hd : ds[j]? = some d) : l.length * 80 ≤ 140737488351232 := by
  obtain ⟨A, c, rfl, -⟩ := hr
  obtain ⟨fuel, hf⟩ := h
  rcases DataW.trod_slice Try.underlying22 hf with ⟨e, hx⟩ | ⟨a, len, cap, elems, rest, n, -, e, hx, -, -, -, hlen, -⟩
  · simp [Value.cells] at e
    obtain ⟨-, rfl, -⟩ := e
    simp
  · simp [Value.cells] at e
    simp only [Prod.mk.injEq] at hx
    obtain ⟨rfl, -⟩ := hx
    have := sized_slice hs ht hd Try.underlying22
    rw [bytes_ver] at this
    simp only [List.length_map, reachBytes] at this
    omega
end
end Go.Proofs.Ytlpakooogbaclaa
