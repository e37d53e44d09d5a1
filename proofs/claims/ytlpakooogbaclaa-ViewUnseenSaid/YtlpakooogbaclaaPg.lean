/- Layer 4, the project's: a piece among pieces (slices.Insert). -/
import Derived.Test.YtlpakooogbaclaaPe
import Derived.Test.YtlpakooogbaclaaPf
import Derived.Lib.Overlaps
import Derived.Lib.AppendZerosOnto
import Derived.Laws.Externs
import Derived.Deep.RegionLaw
namespace Go.Proofs.Ytlpakooogbaclaa
open Go.RowKit
set_option linter.unusedVariables false
set_option maxRecDepth 100000

section
variable {P : Program} {ops : Array Oper} {rest : List Oper} {o : Oper} {a : Act} {Q : Exit → Act → World → Prop} {K : Act → World → Prop} {E : Prop}
theorem wpl_copyK (w : World) (hgd : o.guard = none) (d s : Operand) (t t' : TypeId) (ho : o.op = .call { callee := .builtin .copy, args := #[d, s], argTypes := #[t, t'] })
    (v u : Value) (hd : a.eval d = v) (hs : a.eval s = u) {v' : Value} {w' : World} (hr : (Builtin.copy_ #[t, t'] o.type #[v, u]).run P w = .ok v' w') (h : wpList P ops Q rest (a.put o.dst v') w') :
    wpList P ops Q (o :: rest) a w := by
  refine wpList_plain hgd fun K hK => ?_
  unfold Oper.wp execOp
  simp only [ho, resolve, invoke, builtin, Sem.run_bind, Sem.run_pure, Result.andThen_ok, List.map_toArray, List.map_cons, List.map_nil, hd, hs, hr]
  exact hK _ _ h
theorem step_copyK (w : World) (hgd : o.guard = none) (d s : Operand) (t t' : TypeId) (ho : o.op = .call { callee := .builtin .copy, args := #[d, s], argTypes := #[t, t'] })
    (v u : Value) (hd : a.eval d = v) (hs : a.eval s = u) {v' : Value} {w' : World} (hr : (Builtin.copy_ #[t, t'] o.type #[v, u]).run P w = .ok v' w') (h : K (a.put o.dst v') w') :
    if Region.wanted o (yielded ops a.tmps) = true then Oper.wp P o a w K Q else E := by
  have hw : Region.wanted o (yielded ops a.tmps) = true := by simp [Region.wanted, hgd]
  rw [if_pos hw]
  unfold Oper.wp execOp
  simp only [ho, resolve, invoke, builtin, Sem.run_bind, Sem.run_pure, Result.andThen_ok, List.map_toArray, List.map_cons, List.map_nil, hd, hs, hr]
  exact h
end

theorem one_rd {w : World} {g : Nat} {p : Pc} (h : Box w g (pcL.all [p]).toArray 48) : RdPc w w.heap.size (.slice (some ⟨g, 0, none⟩) 1 1) [p] := by
  refine ⟨_, 1, rfl, Nat.le_refl _, by omega, fun _ => ⟨g, 0, rfl, h.lt, fun k x hk j u hj => ?_⟩⟩
  cases k with
  | succ k => simp at hk
  | zero =>
    simp at hk
    subst hk
    have := h.cell j u (by simpa [Lay.all] using hj)
    simpa using this
theorem own_end {w : World} {base : Nat} {v : Value} {l : List Pc} {i : Nat} {p : Pc} (hi : i = l.length) (h : OwnPc w base v (l ++ [p])) : OwnPc w base v (l.take i ++ p :: l.drop i) := by
  subst hi
  simpa using h

set_option maxHeartbeats 1000000 in
theorem p_ins_end (v : Value) (l : List Pc) (p : Pc) (gv base : Nat) (w : World) (h : OwnPc w base v l) (hb : base ≤ w.heap.size) (hl : l.length ≤ 1000000) (hv : Box w gv (pcL.all [p]).toArray 48) :
    Calls Try.prog 61 #[v, .int .i64 l.length, .slice (some ⟨gv, 0, none⟩) 1 1] w fun e w' => ∃ v', e = .returned v' ∧ OwnPc w' base v' (l ++ [p]) ∧ Below base w w' := by
  have O := Lib.hid h
  have R := Lib.hid (one_rd hv)
  have hlc := Lib.hid h.rd
  rcases h.2 with ⟨rfl, hn⟩ | ⟨g, cap, cur, rfl, hbg, hg, hnc, hcm, hcs, htake⟩
  · have h0 := Lib.hid (List.eq_nil_of_length_eq_zero hn)
    clear hn hlc
    have hz : (l.length : Int) = 0 := by rw [h0.out]; rfl
    rw [hz]
    go_enter Try.func61, Try.ntmps61
    have O := Lib.hid (show OwnPc w base (.slice none 0 0) l from by rw [h0.out]; exact OwnX.nil _ _)
    go_wp2_with (at_builtin; refine wpl_appX_rd rfl (.tmp 23) (.tmp 24) rfl Try.underlying34 pc_info rfl base w.heap.size _ _ l [p] rfl rfl O.out R.out hb (by simp; omega) (by decide) ?_; intro v1 w1 ho1 hg1 hb1)
    go_ret
    exact ⟨_, rfl, ho1, hb1⟩
  · clear htake hcs hg h hv
    have hcm2 : cap ≤ 9223372036854775807 := by simpa [maxLen] using hcm
    clear hcm
    go_enter Try.func61, Try.ntmps61
    go_wp2_with (at_builtin; refine wpl_appX_rd rfl (.tmp 23) (.tmp 24) rfl Try.underlying34 pc_info rfl base w.heap.size _ _ l [p] rfl rfl O.out R.out hb (by simp; omega) (by decide) ?_; intro v1 w1 ho1 hg1 hb1)
    all_goals
      go_ret
      exact ⟨_, rfl, ho1, hb1⟩

theorem all_ins (l : List Pc) (p : Pc) (i : Nat) : pcL.all (l.take i ++ p :: l.drop i) = pcL.all (l.take i) ++ (pcL.all [p] ++ pcL.all (l.drop i)) := by
  rw [Lay.all_append, Lay.all_cons, Lay.all_cons, Lay.all_nil, List.append_nil]
theorem all_take (l : List Pc) (i : Nat) (hi : i ≤ l.length) (j : Nat) (hj : j < i * 3) : (pcL.all (l.take i))[j]? = (pcL.all l)[j]? := by
  have h1 : pcL.all l = pcL.all (l.take i) ++ pcL.all (l.drop i) := by rw [← Lay.all_append, List.take_append_drop]
  rw [h1, List.getElem?_append_left]
  rw [Lay.all_length, List.length_take, Nat.min_eq_left hi]; exact hj
theorem all_drop (l : List Pc) (i : Nat) (hi : i ≤ l.length) (j : Nat) : (pcL.all (l.drop i))[j]? = (pcL.all l)[i * 3 + j]? := by
  have h1 : pcL.all l = pcL.all (l.take i) ++ pcL.all (l.drop i) := by rw [← Lay.all_append, List.take_append_drop]
  have h2 : (pcL.all (l.take i)).length = i * 3 := by rw [Lay.all_length, List.length_take, Nat.min_eq_left hi]; rfl
  rw [h1, List.getElem?_append_right (by omega), h2, Nat.add_sub_cancel_left]
/-- A row's block, from so many cells on. -/
theorem own_ins {w : World} {g cap base i : Nat} {l : List Pc} (p : Pc) (h : OwnPc w base (.slice (some ⟨g, 0, none⟩) l.length cap) l) (hi : i ≤ l.length) (hroom : l.length + 1 ≤ cap) :
    OwnPc ((w.setCells g ((i + 1) * 3) (pcL.all (l.drop i))).setCells g (i * 3) (pcL.all [p])) base (.slice (some ⟨g, 0, none⟩) (l.length + 1) cap) (l.take i ++ p :: l.drop i) ∧
      w.grownBy ((w.setCells g ((i + 1) * 3) (pcL.all (l.drop i))).setCells g (i * 3) (pcL.all [p])) (some g) := by
  refine ⟨?_, (grown_setCells g _ _ w).trans (grown_setCells g _ _ _)⟩
  have hO := h
  rcases h.2 with ⟨e, hn⟩ | ⟨g', cap', cur, e, hbg, hg, hnc, hcm, hcs, htake⟩
  · cases e
  cases e
  have hsome : ∀ j, j < cap * 3 → (w.cell? ⟨g, j, none⟩).isSome = true := fun j hj => by
    have hjc : j < cur.size := by rw [hcs]; exact hj
    rw [cell_of_row _ _ _ _ _ (0, 0) hg, Array.getElem?_eq_getElem hjc]; rfl
  have hdl : (pcL.all (l.drop i)).length = (l.length - i) * 3 := by rw [Lay.all_length, List.length_drop]; rfl
  have hpl : (pcL.all [p]).length = 3 := by rw [Lay.all_length]; rfl
  have hs1 : ∀ j, j < cap * 3 → ((w.setCells g ((i + 1) * 3) (pcL.all (l.drop i))).cell? ⟨g, j, none⟩).isSome = true := fun j hj => by
    by_cases hin : (i + 1) * 3 ≤ j ∧ j < (i + 1) * 3 + (pcL.all (l.drop i)).length
    · have := World.cell?_setCells_in g (pcL.all (l.drop i)) ((i + 1) * 3) w (fun t ht => hsome _ (by omega)) (j - (i + 1) * 3) (by omega)
      rw [show (i + 1) * 3 + (j - (i + 1) * 3) = j from by omega] at this
      rw [this]; rfl
    · rw [World.cell?_setCells_out g _ _ w ⟨g, j, none⟩ (fun _ _ => by simp only; omega)]
      exact hsome j hj
  obtain ⟨c1, hc1, hz1⟩ := heap_setCells g 48 (pcL.all (l.drop i)) ((i + 1) * 3) w cur hg
  obtain ⟨c2, hc2, hz2⟩ := heap_setCells g 48 (pcL.all [p]) (i * 3) _ c1 hc1
  have hlen : (l.take i ++ p :: l.drop i).length = l.length + 1 := by
    rw [List.length_append, List.length_take, List.length_cons, List.length_drop]; omega
  have key := OwnX.of_cells (L := pcL) (e := 48) (base := base) (l := l.take i ++ p :: l.drop i) hc2 (by rw [hz2, hz1, hcs]) (cap := cap) (by omega) hcm hbg ?_
  · rw [hlen] at key; exact key
  intro j u hu
  rw [all_ins] at hu
  have htl : (pcL.all (l.take i)).length = i * 3 := by rw [Lay.all_length, List.length_take, Nat.min_eq_left hi]; rfl
  rcases Nat.lt_or_ge j (i * 3) with h1 | h1
  · rw [List.getElem?_append_left (by omega), all_take l i hi j h1] at hu
    rw [World.cell?_setCells_out g _ _ _ ⟨g, j, none⟩ (fun _ _ => by simp only; omega), World.cell?_setCells_out g _ _ _ ⟨g, j, none⟩ (fun _ _ => by simp only; omega)]
    rw [World.ownsRow.cellAt hO j (show j < l.length * 3 from by omega)]
    exact hu
  · rw [List.getElem?_append_right (by omega), htl] at hu
    rcases Nat.lt_or_ge j (i * 3 + 3) with h2 | h2
    · rw [List.getElem?_append_left (by omega)] at hu
      have := World.cell?_setCells_in g (pcL.all [p]) (i * 3) (w.setCells g ((i + 1) * 3) (pcL.all (l.drop i))) (fun t ht => hs1 _ (by omega)) (j - i * 3) (by omega)
      rw [show i * 3 + (j - i * 3) = j from by omega] at this
      rw [this, ← hu, List.getElem?_eq_getElem]
    · rw [List.getElem?_append_right (by omega), hpl] at hu
      have hj : j - i * 3 - 3 < (pcL.all (l.drop i)).length := (List.getElem?_eq_some_iff.1 hu).1
      rw [World.cell?_setCells_out g _ _ _ ⟨g, j, none⟩ (fun _ _ => by simp only; omega)]
      have := World.cell?_setCells_in g (pcL.all (l.drop i)) ((i + 1) * 3) w (fun t ht => hsome _ (by omega)) (j - i * 3 - 3) hj
      rw [show (i + 1) * 3 + (j - i * 3 - 3) = j from by omega] at this
      rw [this, ← hu, List.getElem?_eq_getElem]

set_option maxHeartbeats 4000000 in
theorem p_ins_room (l : List Pc) (p : Pc) (i g gv cap base : Nat) (w : World) (h : OwnPc w base (.slice (some ⟨g, 0, none⟩) l.length cap) l) (hi : i < l.length) (hroom : l.length + 1 ≤ cap) (hl : l.length ≤ 1000000) (hv : Box w gv (pcL.all [p]).toArray 48) (hne : gv ≠ g) :
    Calls Try.prog 61 #[.slice (some ⟨g, 0, none⟩) l.length cap, .int .i64 i, .slice (some ⟨gv, 0, none⟩) 1 1] w fun e w' => ∃ v', e = .returned v' ∧ OwnPc w' base v' (l.take i ++ p :: l.drop i) ∧ Below base w w' := by
  have O := Lib.hid h
  rcases h.2 with ⟨e, hn⟩ | ⟨g', cap', cur, e, hbg, hg, hnc, hcm, hcs, htake⟩
  · cases e
  cases e
  have hcm2 : cap ≤ 9223372036854775807 := by simpa [maxLen] using hcm
  have hin : ¬ ((i : Int) = (l.length : Int)) := by omega
  have hsa : w.shape? gv = some (48, 3) := by unfold World.shape?; rw [show w.heap[gv]? = _ from hv]; rfl
  have hsb : w.shape? g = some (48, cap * 3) := by
    unfold World.shape?; rw [hg]
    simp only [Option.some.injEq, Prod.mk.injEq, true_and]
    exact hcs
  have hov : ∀ lb cb o, (callFunc 74 #[.slice (some ⟨gv, 0, none⟩) 1 1, .slice (some ⟨g, o, none⟩) lb cb]).run Try.prog w = .ok (.value (.bool false)) w := fun lb cb o => by
    rw [run_callFunc_extern Try.func74 (by kernel_rfl) (by kernel_rfl) (by kernel_rfl) (e := Extern.SlicesOverlaps.overlaps #[34, 34] #[4]) (by kernel_rfl),
      Lib.run_overlaps_apart w 34 4 48 Try.underlying34 3 (fun w => by kernel_rfl) ⟨gv, 0, none⟩ ⟨g, o, none⟩ 1 1 lb cb hne _ _ _ _ hsa hsb (by omega) (hv.frozen 0) (hv.frozen 3)]
    rfl
  have hsome : ∀ j, j < cap * 3 → (w.cell? ⟨g, j, none⟩).isSome = true := fun j hj => by
    have hjc : j < cur.size := by rw [hcs]; exact hj
    rw [cell_of_row _ _ _ _ _ (0, 0) hg, Array.getElem?_eq_getElem hjc]; rfl
  have hdl : (pcL.all (l.drop i)).length = (l.length - i) * 3 := by rw [Lay.all_length, List.length_drop]; rfl
  have hpl : (pcL.all [p]).length = 3 := by rw [Lay.all_length]; rfl
  have hsz : (Try.prog.info? 48).map (·.size) = some 3 := by kernel_rfl
  have hcell : ∀ j u, (pcL.all (l.drop i))[j]? = some u → w.cell? ⟨g, i * 3 + j, none⟩ = some u := fun j u hu => by
    have hj := (List.getElem?_eq_some_iff.1 hu).1
    rw [all_drop l i (by omega)] at hu
    rw [World.ownsRow.cellAt h (i * 3 + j) (show i * 3 + j < l.length * 3 from by omega)]
    exact hu
  have hcp1 : ∀ ty dc sc, (Builtin.copy_ #[34, 34] ty #[.slice (some ⟨g, (i + 1) * 3, none⟩) (l.length - i) dc, .slice (some ⟨g, i * 3, none⟩) (l.length + 1 - i) sc]).run Try.prog w.drew = .ok (goInt (Nat.min (l.length + 1 - i) (l.length - i))) (w.drew.setCells g ((i + 1) * 3) (pcL.all (l.drop i))) := fun ty dc sc =>
    run_copy_cellsK w.drew _ _ ty 48 g ((i + 1) * 3) (l.length - i) dc ⟨g, i * 3, none⟩ (l.length + 1 - i) sc 3 (pcL.all (l.drop i)) Try.underlying34 hsz
      (by rw [hdl]; congr 1; simp only [Nat.min_def]; split <;> omega)
      (fun j v hj => by rw [addr_plain]; exact hcell j v hj)
      (fun j hj => hsome _ (by omega)) (fun j hj => OwnX.frozen h _) (pcL.all_one _)
  obtain ⟨W1, hW1⟩ : ∃ W1, W1 = w.drew.setCells g ((i + 1) * 3) (pcL.all (l.drop i)) := ⟨_, rfl⟩
  have hsp1 : ∀ j, j < cap * 3 → (W1.cell? ⟨g, j, none⟩).isSome = true := fun j hj => by
    rw [hW1]
    by_cases hin : (i + 1) * 3 ≤ j ∧ j < (i + 1) * 3 + (pcL.all (l.drop i)).length
    · have := World.cell?_setCells_in g (pcL.all (l.drop i)) ((i + 1) * 3) w.drew (fun t ht => hsome _ (by omega)) (j - (i + 1) * 3) (by omega)
      rw [show (i + 1) * 3 + (j - (i + 1) * 3) = j from by omega] at this
      rw [this]; rfl
    · rw [World.cell?_setCells_out g _ _ w.drew ⟨g, j, none⟩ (fun _ _ => by simp only; omega)]
      exact hsome j hj
  have hcp2 : ∀ ty dc, (Builtin.copy_ #[34, 34] ty #[.slice (some ⟨g, i * 3, none⟩) (l.length + 1 - i) dc, .slice (some ⟨gv, 0, none⟩) 1 1]).run Try.prog W1 = .ok (goInt (Nat.min 1 (l.length + 1 - i))) (W1.setCells g (i * 3) (pcL.all [p])) := fun ty dc =>
    run_copy_cellsK W1 _ _ ty 48 g (i * 3) (l.length + 1 - i) dc ⟨gv, 0, none⟩ 1 1 3 (pcL.all [p]) Try.underlying34 hsz
      (by rw [hpl, show Nat.min 1 (l.length + 1 - i) = 1 from by simp only [Nat.min_def]; split <;> omega])
      (fun j v hj => by
        rw [addr_plain, hW1, World.cell?_setCells_out g _ _ _ _ (fun e _ => absurd e hne), Nat.zero_add]
        exact hv.cell j v (by simpa using hj))
      (fun j hj => hsp1 _ (by omega)) (fun j hj => by rw [hW1, World.frozen?_setCells]; exact OwnX.frozen h _) (pcL.all_one _)
  have END := Lib.hid (own_ins (w := w.drew) (i := i) p h (by omega) hroom)
  rw [← hW1] at hcp1 END
  clear h hsa hsb htake hcs hsp1 hcell hdl hpl hsz hsome hW1
  have hiw : IntKind.i64.wrap ((i : Int) + 1) = (i : Int) + 1 := by rw [IntKind.wrap_i64]; omega
  have hb1 : (0 : Int) ≤ (i : Int) + 1 := by omega
  have hb2 : i ≤ l.length := by omega
  have hb3 : ¬ (cap = i + 1) := by omega
  have hb4 : ¬ (cap = i) := by omega
  have hb5 : (i : Int) ≤ (l.length : Int) + 1 := by omega
  go_enter Try.func61, Try.ntmps61
  go_wp2_with (simp only [hov])
  go_region_law (refine step_copyK _ rfl _ _ 34 34 rfl _ _ (by simp [Act.eval, Act.put]) (by simp [Act.eval, Act.put]) (hcp1 _ _ _) ?_)
  go_wp2_with (at_builtin; refine wpl_copyK _ rfl _ _ 34 34 rfl _ _ rfl rfl (hcp2 _ _) ?_)
  go_ret
  exact ⟨_, rfl, END.out.1, (show Below base w w.drew from (Below.refl base w).drewN 1).grown END.out.2 (Nat.le_trans hbg (Nat.le_of_lt (Array.getElem?_eq_some_iff.1 hg).1)) (fun j hj => by cases hj; exact hbg)⟩

/-- A new row, of which what stands ahead and the piece are laid. -/
theorem own_ins2 {w : World} {g cap base i : Nat} {l : List Pc} (p : Pc) (cur : Array Value) (hg : w.heap[g]? = some (.cells cur 48 (0, 0))) (hcs : cur.size = cap * 3) (hi : i ≤ l.length) (hroom : l.length + 1 ≤ cap) (hcm : cap ≤ maxLen) (hbg : base ≤ g)
    (hpre : ∀ j u, (pcL.all (l.take i) ++ pcL.all [p])[j]? = some u → w.cell? ⟨g, j, none⟩ = some u) :
    OwnPc (w.setCells g ((i + 1) * 3) (pcL.all (l.drop i))) base (.slice (some ⟨g, 0, none⟩) (l.length + 1) cap) (l.take i ++ p :: l.drop i) := by
  have hsome : ∀ j, j < cap * 3 → (w.cell? ⟨g, j, none⟩).isSome = true := fun j hj => by
    have hjc : j < cur.size := by rw [hcs]; exact hj
    rw [cell_of_row _ _ _ _ _ (0, 0) hg, Array.getElem?_eq_getElem hjc]; rfl
  have hdl : (pcL.all (l.drop i)).length = (l.length - i) * 3 := by rw [Lay.all_length, List.length_drop]; rfl
  have hpl : (pcL.all [p]).length = 3 := by rw [Lay.all_length]; rfl
  obtain ⟨c1, hc1, hz1⟩ := heap_setCells g 48 (pcL.all (l.drop i)) ((i + 1) * 3) w cur hg
  have hlen : (l.take i ++ p :: l.drop i).length = l.length + 1 := by
    rw [List.length_append, List.length_take, List.length_cons, List.length_drop]; omega
  have key := OwnX.of_cells (L := pcL) (e := 48) (base := base) (l := l.take i ++ p :: l.drop i) hc1 (by rw [hz1, hcs]; rfl) (cap := cap) (by omega) hcm hbg ?_
  · rw [hlen] at key; exact key
  intro j u hu
  rw [all_ins, ← List.append_assoc] at hu
  have htl : (pcL.all (l.take i) ++ pcL.all [p]).length = (i + 1) * 3 := by rw [List.length_append, hpl, Lay.all_length, List.length_take, Nat.min_eq_left hi, show pcL.sz = 3 from rfl]; omega
  rcases Nat.lt_or_ge j ((i + 1) * 3) with h1 | h1
  · rw [List.getElem?_append_left (by omega)] at hu
    rw [World.cell?_setCells_out g _ _ _ ⟨g, j, none⟩ (fun _ _ => by simp only; omega)]
    exact hpre j u hu
  · rw [List.getElem?_append_right (by omega), htl] at hu
    have hj : j - (i + 1) * 3 < (pcL.all (l.drop i)).length := (List.getElem?_eq_some_iff.1 hu).1
    have := World.cell?_setCells_in g (pcL.all (l.drop i)) ((i + 1) * 3) w (fun t ht => hsome _ (by omega)) (j - (i + 1) * 3) hj
    rw [show (i + 1) * 3 + (j - (i + 1) * 3) = j from by omega] at this
    rw [this, ← hu, List.getElem?_eq_getElem]

set_option maxHeartbeats 4000000 in
theorem p_ins_grow (l : List Pc) (p : Pc) (i g gv cap base : Nat) (w : World) (h : OwnPc w base (.slice (some ⟨g, 0, none⟩) l.length cap) l) (hb : base ≤ w.heap.size) (hi : i < l.length) (hroom : cap < l.length + 1) (hl : l.length ≤ 1000000) (hv : Box w gv (pcL.all [p]).toArray 48) :
    Calls Try.prog 61 #[.slice (some ⟨g, 0, none⟩) l.length cap, .int .i64 i, .slice (some ⟨gv, 0, none⟩) 1 1] w fun e w' => ∃ v', e = .returned v' ∧ OwnPc w' base v' (l.take i ++ p :: l.drop i) ∧ Below base w w' := by
  rcases h.2 with ⟨e, hn⟩ | ⟨g', cap', cur, e, hbg, hg, hnc, hcm, hcs, htake⟩
  · cases e
  cases e
  have hcm2 : cap ≤ 9223372036854775807 := by simpa [maxLen] using hcm
  have hgw : g < w.heap.size := (Array.getElem?_eq_some_iff.1 hg).1
  have hvw : gv < w.heap.size := hv.lt
  obtain ⟨i0, hi0, hz0, hzs, hzb⟩ := info_parts pc_info
  have hcell : ∀ j u, (pcL.all l)[j]? = some u → w.cell? ⟨g, j, none⟩ = some u := fun j u hu => by
    have hj := (List.getElem?_eq_some_iff.1 hu).1
    rw [Lay.all_length] at hj
    rw [World.ownsRow.cellAt h j (show j < l.length * 3 from hj)]
    exact hu
  have htl : (pcL.all (l.take i)).length = i * 3 := by rw [Lay.all_length, List.length_take, Nat.min_eq_left (by omega)]; rfl
  have hold : (Builtin.firstCells i0.size i (.slice (some ⟨g, 0, none⟩) i cap)).run Try.prog w.drew = .ok (pcL.all (l.take i)).toArray w.drew := by
    rw [hzs]
    exact run_firstCells_some w.drew 3 i ⟨g, 0, none⟩ i cap (pcL.all (l.take i)) (by rw [htl]) (fun j v hj => by
      rw [addr_plain, Nat.zero_add]
      refine hcell j v ?_
      rw [← all_take l i (by omega) j (by have := (List.getElem?_eq_some_iff.1 hj).1; omega)]
      exact hj)
  have hik : i + (l.length + 1 - i) = l.length + 1 := by omega
  have hrz : ∀ ty, (Builtin.append_ #[34, 3] ty #[.slice (some ⟨g, 0, none⟩) i cap, .int .i64 ((l.length : Int) + 1 - (i : Int))]).run Try.prog w =
      .ok (.slice (some ⟨w.heap.size, 0, none⟩) (l.length + 1) (grownCap w (l.length + 1) cap 48)) (w.drew.alloc (.cells ((pcL.all (l.take i)).toArray ++ Builtin.zeroCells (Value.agg #[.int .i64 0, .int .i64 0, .string ⟨#[]⟩]).cells (l.length + 1 - i) ++ Builtin.zeroCells (Value.agg #[.int .i64 0, .int .i64 0, .string ⟨#[]⟩]).cells (grownCap w (l.length + 1) cap 48 - (l.length + 1))) 48)) := fun ty => by
    have hz := Lib.run_append_grow_zeros w 34 3 ty 48 i0 _ .i64 .i64 Try.underlying34 Try.underlying3 hi0 hz0 (some ⟨g, 0, none⟩) i cap (pcL.all (l.take i)) hold (l.length + 1 - i) (by omega) (by omega) (by omega) (by omega) (by rw [hzb]; omega) (by rw [hzb, hik]; exact growslice_fits hroom (by omega))
    rw [hik] at hz
    rw [show (l.length : Int) + 1 - (i : Int) = ((l.length + 1 - i : Nat) : Int) from by omega]
    exact hz
  obtain ⟨G, hG⟩ : ∃ G, G = grownCap w (l.length + 1) cap 48 := ⟨_, rfl⟩
  rw [← hG] at hrz
  have hGn : l.length + 1 ≤ G := by rw [hG]; exact grownCap_ge w _ _ _
  have hGm : G ≤ maxLen := by rw [hG]; exact grownCap_le_maxLen w _ _ _ (by unfold maxLen; omega)
  have hG63 : G ≤ 9223372036854775807 := by simpa [maxLen] using hGm
  obtain ⟨ROW, hROW⟩ : ∃ ROW : Array Value, ROW = (pcL.all (l.take i)).toArray ++ Builtin.zeroCells (Value.agg #[.int .i64 0, .int .i64 0, .string ⟨#[]⟩]).cells (l.length + 1 - i) ++ Builtin.zeroCells (Value.agg #[.int .i64 0, .int .i64 0, .string ⟨#[]⟩]).cells (G - (l.length + 1)) := ⟨_, rfl⟩
  rw [← hROW] at hrz
  have hRs : ROW.size = G * 3 := by
    rw [hROW]
    simp [Builtin.zeroCells, Value.cells, htl]
    omega
  have hRp : ∀ j, j < i * 3 → ROW[j]? = (pcL.all (l.take i))[j]? := fun j hj => by
    rw [hROW, Array.append_assoc, Array.getElem?_append_left (by simp [htl]; exact hj)]
    simp
  obtain ⟨W1, hW1⟩ : ∃ W1, W1 = w.drew.alloc (.cells ROW 48) := ⟨_, rfl⟩
  rw [← hW1] at hrz
  have hblk : W1.heap[w.heap.size]? = some (.cells ROW 48 (0, 0)) := by rw [hW1]; exact heap_alloc_new w.drew _
  have hN : ∀ j, j < G * 3 → (W1.cell? ⟨w.heap.size, j, none⟩).isSome = true := fun j hj => by
    rw [cell_of_row _ _ _ _ _ (0, 0) hblk, Array.getElem?_eq_getElem (by omega)]; rfl
  have hNf : ∀ j, W1.frozen? ⟨w.heap.size, j, none⟩ = false := fun j => Box.frozen hblk j
  have hb1w : Below base w W1 := by rw [hW1]; exact (show Below base w w.drew from (Below.refl base w).drewN 1).alloc hb _
  have hold1 : ∀ b j, b < w.heap.size → W1.cell? ⟨b, j, none⟩ = w.cell? ⟨b, j, none⟩ := fun b j hbw => by
    have hbb : Below w.heap.size w W1 := by rw [hW1]; exact (show Below w.heap.size w w.drew from (Below.refl _ w).drewN 1).alloc (Nat.le_refl _) _
    exact hbb.cell (p := ⟨b, j, none⟩) hbw
  have hdl : (pcL.all (l.drop i)).length = (l.length - i) * 3 := by rw [Lay.all_length, List.length_drop]; rfl
  have hpl : (pcL.all [p]).length = 3 := by rw [Lay.all_length]; rfl
  have hsz : (Try.prog.info? 48).map (·.size) = some 3 := by kernel_rfl
  have hcpA : ∀ ty dc, (Builtin.copy_ #[34, 34] ty #[.slice (some ⟨w.heap.size, i * 3, none⟩) (l.length + 1 - i) dc, .slice (some ⟨gv, 0, none⟩) 1 1]).run Try.prog W1 = .ok (goInt (Nat.min 1 (l.length + 1 - i))) (W1.setCells w.heap.size (i * 3) (pcL.all [p])) := fun ty dc =>
    run_copy_cellsK W1 _ _ ty 48 w.heap.size (i * 3) (l.length + 1 - i) dc ⟨gv, 0, none⟩ 1 1 3 (pcL.all [p]) Try.underlying34 hsz
      (by rw [hpl, show Nat.min 1 (l.length + 1 - i) = 1 from by simp only [Nat.min_def]; split <;> omega])
      (fun j v hj => by rw [addr_plain, hold1 _ _ hvw, Nat.zero_add]; exact hv.cell j v (by simpa using hj))
      (fun j hj => hN _ (by omega)) (fun j hj => hNf _) (pcL.all_one _)
  obtain ⟨W2, hW2⟩ : ∃ W2, W2 = W1.setCells w.heap.size (i * 3) (pcL.all [p]) := ⟨_, rfl⟩
  rw [← hW2] at hcpA
  obtain ⟨c2, hc2, hz2⟩ := heap_setCells w.heap.size 48 (pcL.all [p]) (i * 3) W1 ROW hblk
  rw [← hW2] at hc2
  have hb2w : Below base w W2 := by
    rw [hW2]
    exact hb1w.grown (grown_setCells _ _ _ _) (Nat.le_trans hb (by rw [hW1]; simp)) (fun j hj => by cases hj; exact hb)
  have hN2 : ∀ j, j < G * 3 → (W2.cell? ⟨w.heap.size, j, none⟩).isSome = true := fun j hj => by
    rw [cell_of_row _ _ _ _ _ (0, 0) hc2, Array.getElem?_eq_getElem (by omega)]; rfl
  have hNf2 : ∀ j, W2.frozen? ⟨w.heap.size, j, none⟩ = false := fun j => Box.frozen hc2 j
  have hcpB : ∀ ty dc sc, (Builtin.copy_ #[34, 34] ty #[.slice (some ⟨w.heap.size, (i + 1) * 3, none⟩) (l.length - i) dc, .slice (some ⟨g, i * 3, none⟩) (l.length - i) sc]).run Try.prog W2.drew = .ok (goInt (Nat.min (l.length - i) (l.length - i))) (W2.drew.setCells w.heap.size ((i + 1) * 3) (pcL.all (l.drop i))) := fun ty dc sc =>
    run_copy_cellsK W2.drew _ _ ty 48 w.heap.size ((i + 1) * 3) (l.length - i) dc ⟨g, i * 3, none⟩ (l.length - i) sc 3 (pcL.all (l.drop i)) Try.underlying34 hsz
      (by rw [hdl, show Nat.min (l.length - i) (l.length - i) = l.length - i from Nat.min_self _])
      (fun j v hj => by
        rw [addr_plain]
        show W2.cell? ⟨g, i * 3 + j, none⟩ = _
        rw [hW2, World.cell?_setCells_out _ _ _ _ _ (fun e _ => absurd e (by simp only; omega)), hold1 _ _ hgw]
        rw [all_drop l i (by omega)] at hj
        exact hcell _ v hj)
      (fun j hj => hN2 _ (by omega)) (fun j hj => hNf2 _) (pcL.all_one _)
  have END := Lib.hid (own_ins2 (w := W2.drew) (i := i) (base := base) p c2 hc2 (by rw [hz2, hRs]) (l := l) (by omega) hGn hGm hb (fun j u hu => by
    show W2.cell? ⟨w.heap.size, j, none⟩ = _
    have hj := (List.getElem?_eq_some_iff.1 hu).1
    rw [List.length_append, htl, hpl] at hj
    rw [hW2]
    rcases Nat.lt_or_ge j (i * 3) with h1 | h1
    · rw [List.getElem?_append_left (by omega)] at hu
      rw [World.cell?_setCells_out _ _ _ _ ⟨w.heap.size, j, none⟩ (fun _ _ => by simp only; omega), cell_of_row _ _ _ _ _ (0, 0) hblk, hRp j h1]
      exact hu
    · rw [List.getElem?_append_right (by omega), htl] at hu
      have := World.cell?_setCells_in w.heap.size (pcL.all [p]) (i * 3) W1 (fun t ht => hN _ (by omega)) (j - i * 3) (by omega)
      rw [show i * 3 + (j - i * 3) = j from by omega] at this
      rw [this, ← hu, List.getElem?_eq_getElem]))
  have GE := Lib.hid (show Below base w (W2.drew.setCells w.heap.size ((i + 1) * 3) (pcL.all (l.drop i))) from
    (show Below base w W2.drew from hb2w.drewN 1).grown (grown_setCells _ _ _ _) (Nat.le_trans hb (show w.heap.size ≤ W2.heap.size from hb2w.size)) (fun j hj => by cases hj; exact hb))
  obtain ⟨W3, hW3⟩ : ∃ W3, W3 = W2.drew.setCells w.heap.size ((i + 1) * 3) (pcL.all (l.drop i)) := ⟨_, rfl⟩
  rw [← hW3] at hcpB END GE
  have hin : ¬ ((i : Int) = (l.length : Int)) := by omega
  have hz3 : (cap : Int) < (l.length : Int) + 1 := by omega
  have hiw : IntKind.i64.wrap ((i : Int) + 1) = (i : Int) + 1 := by rw [IntKind.wrap_i64]; omega
  have hk1 : (0 : Int) ≤ (i : Int) + 1 := by omega
  have hk2 : i ≤ l.length := by omega
  have hk3 : ¬ (G = i + 1) := by omega
  have hk4 : ¬ (G = i) := by omega
  have hk5 : (i : Int) ≤ (l.length : Int) + 1 := by omega
  have hk6 : ¬ (cap = i) := by omega
  clear hcs htake hg h hcell hold hi0 hz0 hzs hzb hG hROW hRs hRp hW1 hblk hN hNf hb1w hold1 hdl hpl hsz hW2 hc2 hz2 hb2w hN2 hNf2 hW3 hik htl hv
  go_enter Try.func61, Try.ntmps61
  go_wp2_with (first
    | (at_builtin; refine Lib.wpList_append_run _ rfl _ _ _ _ rfl _ _ rfl rfl _ _ (hrz _) ?_)
    | (at_builtin; refine wpl_copyK _ rfl _ _ 34 34 rfl _ _ rfl rfl (hcpA _ _) ?_))
  go_region_law (refine step_copyK _ rfl _ _ 34 34 rfl _ _ (by simp [Act.eval, Act.put]) (by simp [Act.eval, Act.put]) (hcpB _ _ _) ?_)
  go_wp2_with fail
  go_ret
  exact ⟨_, rfl, END.out, GE.out⟩

theorem p_insert (v : Value) (l : List Pc) (p : Pc) (i gv base : Nat) (w : World) (h : OwnPc w base v l) (hb : base ≤ w.heap.size) (hi : i ≤ l.length) (hl : l.length ≤ 1000000) (hv : Box w gv (pcL.all [p]).toArray 48) (hne : v.ownBlock ≠ some gv) :
    Calls Try.prog 61 #[v, .int .i64 i, .slice (some ⟨gv, 0, none⟩) 1 1] w fun e w' => ∃ v', e = .returned v' ∧ OwnPc w' base v' (l.take i ++ p :: l.drop i) ∧ Below base w w' := by
  by_cases he : i = l.length
  · subst he
    refine (p_ins_end v l p gv base w h hb hl hv).mono ?_
    rintro e w1 ⟨v1, rfl, h1, h2⟩
    exact ⟨v1, rfl, own_end rfl h1, h2⟩
  · have hil : i < l.length := by omega
    obtain ⟨g, cap, rfl, h1, h2⟩ := h.pos (by omega)
    rcases Nat.lt_or_ge cap (l.length + 1) with hr | hr
    · exact p_ins_grow l p i g gv cap base w h hb hil hr hl hv
    · exact p_ins_room l p i g gv cap base w h hil hr hl hv (fun e => hne (by rw [e]; rfl))
end Go.Proofs.Ytlpakooogbaclaa
