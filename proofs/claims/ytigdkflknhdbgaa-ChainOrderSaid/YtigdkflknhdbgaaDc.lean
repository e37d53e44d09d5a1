/- Layer 13: a version found by a closure (slices.IndexFunc); a version stored among versions, and versions cleared. -/
import Derived.Test.YtigdkflknhdbgaaDa
namespace Go.Proofs.Ytigdkflknhdbgaa
open Go.RowKit
set_option linter.unusedVariables false

/-- What a closure tells of a version, as long as A holds. -/
def AsksW (fa : Nat) (la : Array Value) (q : Ver → Bool) (A : World → Prop) : Prop :=
  ∀ (v : Ver) (W : World), A W → Calls Try.prog fa (#[verV v] ++ la) W fun e W' => e = .returned (.bool (q v)) ∧ Below W.heap.size W W'
def ixV (q : Ver → Bool) (k : Nat) : List Ver → Int
  | [] => -1
  | g :: r => if q g = true then (k : Int) else ixV q (k + 1) r
theorem ixV_drop {p : List Ver} {k : Nat} (hk : k < p.length) (q : Ver → Bool) : ixV q k (p.drop k) = if q p[k] = true then (k : Int) else ixV q (k + 1) (p.drop (k + 1)) := by
  rw [List.drop_eq_getElem_cons hk, ixV]
theorem ixV_none (q : Ver → Bool) : ∀ (p : List Ver) (k : Nat), ixV q k p = -1 → ∀ x ∈ p, q x = false
  | [], k, _, x, hx => by cases hx
  | g :: r, k, h, x, hx => by
    rw [ixV] at h
    cases hq : q g
    · rw [hq, if_neg (by decide)] at h
      rcases List.mem_cons.1 hx with rfl | hx
      · exact hq
      · exact ixV_none q r _ h x hx
    · rw [hq, if_pos rfl] at h; omega
theorem ixV_some (q : Ver → Bool) : ∀ (p : List Ver) (k : Nat), ixV q k p ≠ -1 → ∃ j, ∃ h : j < p.length, ixV q k p = ((k + j : Nat) : Int) ∧ q p[j] = true ∧ ∀ x ∈ p.take j, q x = false
  | [], k, h => absurd rfl h
  | g :: r, k, h => by
    rw [ixV] at h ⊢
    cases hq : q g
    · rw [hq, if_neg (by decide)] at h
      rw [if_neg (by decide)]
      obtain ⟨j, h1, h2, h3, h4⟩ := ixV_some q r (k + 1) h
      refine ⟨j + 1, by rw [List.length_cons]; omega, by rw [h2]; congr 1; omega, h3, fun x hx => ?_⟩
      rw [List.take_succ_cons] at hx
      rcases List.mem_cons.1 hx with rfl | hx
      · exact hq
      · exact h4 x hx
    · rw [if_pos rfl]
      exact ⟨0, by simp, rfl, hq, fun x hx => by simp at hx⟩

set_option maxHeartbeats 4000000 in
set_option maxRecDepth 100000 in
theorem p_indexFunc (va : Value) (p : List Ver) (fa : Nat) (la : Array Value) (q : Ver → Bool) (A : World → Prop) (eg : ∀ args w, (callFunc fa args).run Try.prog w = .ok (.enter fa args) w) (hAsk : AsksW fa la q A)
    (w : World) (hAw : ∀ W, Below w.heap.size w W → A W) (ha : RdVr w w.heap.size va p) (hl : p.length ≤ 1000) :
    Calls Try.prog 69 #[va, .func (.func fa) #[] la] w fun z w' => z = .returned (.int .i64 (ixV q 0 p)) ∧ Below w.heap.size w w' := by
  have HA := Lib.hid ha
  have HL := Lib.hid hl
  have HAW := Lib.hid hAw
  have HAS := Lib.hid hAsk
  obtain ⟨A', ca, rfl, -⟩ := ha
  clear hl hAw hAsk
  go_enter Try.func69, Try.ntmps69
  go_wp2_with fail
  go_loopw [8] (fun i wr => ∃ k : Nat, i = .int .i64 k ∧ k ≤ p.length ∧ ixV q 0 p = ixV q k (p.drop k) ∧ Below w.heap.size w wr) (fun i _ => p.length - (intOf i).toNat)
  case atStart => exact ⟨0, rfl, Nat.zero_le _, rfl, Below.refl _ _⟩
  case round =>
    obtain ⟨k, rfl, hk, hR, hbw⟩ := hrel
    rename World => wo
    have G := Lib.hid hbw
    have HR := Lib.hid hR
    clear hbw hR
    by_cases hlt : k < p.length
    · have zl : decide ((k : Int) < (p.length : Int)) = true := by simp; omega
      have hki : (k : Int) < (p.length : Int) := by omega
      have hw64 : IntKind.i64.wrap ((k : Int) + 1) = (k : Int) + 1 := by rw [IntKind.wrap_i64]; have := HL.out; omega
      have HS := Lib.hid (ixV_drop hlt q)
      obtain ⟨g, hg⟩ : ∃ g, p[k] = g := ⟨_, rfl⟩
      rw [hg] at HS
      have AK := Lib.hid (fun W (h : A W) => HAS.out g W h)
      obtain ⟨qg, hqg⟩ : ∃ b, q g = b := ⟨_, rfl⟩
      rw [hqg] at AK HS
      obtain ⟨k1, b1, e1, s1, ⟨x1, y1⟩, u1, g1⟩ := g
      unfold verV at AK
      simp only at AK
      obtain ⟨bL, oL, rfl, -, c0, c1, c2, c3, c4, c5, c6, c7⟩ := RdVr.here (HA.out.below G.out) k hlt
      simp only [hg] at c0 c1 c2 c3 c4 c5 c6 c7
      clear hg hqg
      go_wp2_with fail
      refine (AK.out _ (HAW.out _ G.out)).mono ?_
      rintro z w1 ⟨rfl, hb1⟩
      have G := Lib.hid (G.out.trans (hb1.mono G.out.size))
      clear hb1 c0 c1 c2 c3 c4 c5 c6 c7
      cases qg
      · have HN := Lib.hid (show ixV q 0 p = ixV q (k + 1) (p.drop (k + 1)) from by rw [HR.out, HS.out]; rfl)
        clear HS HR AK
        go_wp2_with fail
        go_roundw
        case rel => exact ⟨k + 1, by go_num, by omega, HN.out, G.out⟩
        case measure => simp [intOf]; omega
      · have HN := Lib.hid (show ixV q 0 p = (k : Int) from by rw [HR.out, HS.out]; rfl)
        clear HS HR AK
        go_wp2_with fail
        go_ret
        exact ⟨ret_int HN.out.symm, G.out⟩
    · have hkl : k = p.length := by omega
      subst hkl
      have HN := Lib.hid (show ixV q 0 p = -1 from by rw [HR.out, List.drop_length]; rfl)
      have zl : decide ((p.length : Int) < (p.length : Int)) = false := by simp
      clear hlt
      go_wp2_with fail
      go_ret
      exact ⟨ret_int HN.out.symm, G.out⟩

/-- clear, of elements of so many cells. -/
theorem run_clear_cells {P : Program} (w : World) (t e ty : TypeId) (z : Value) (ht : P.underlying t = some (.slice e)) (hv : ∀ w, (zeroValue e).run P w = .ok z w) (size : Nat) (hz : z.cells.size = size) (h1 : ∀ u ∈ z.cells, u.oneCell' = true) (b o n c : Nat) (hn : 0 < n)
    (hc : ∀ j, j < n * size → (w.cell? ⟨b, o + j, none⟩).isSome = true) (hf : ∀ j, j < n * size → w.frozen? ⟨b, o + j, none⟩ = false) :
    (Builtin.clear_ #[t] ty #[.slice (some ⟨b, o, none⟩) n c]).run P w = .ok (.tuple #[]) (w.setCells b o (Builtin.zeroCells z.cells n).toList) := by
  have hl : (Builtin.zeroCells z.cells n).toList.length = n * size := by simp [Builtin.zeroCells, hz]
  have hst := run_storeCells_cells (P := P) b o (Builtin.zeroCells z.cells n).toList 0 w (by rw [hl]; simpa using hc) (by rw [hl]; simpa using hf) (by
    intro v hv'
    have hv2 : v ∈ Builtin.zeroCells z.cells n := by simpa using hv'
    unfold Builtin.zeroCells at hv2
    rw [Array.mem_map] at hv2
    obtain ⟨i, hi, rfl⟩ := hv2
    by_cases h0 : z.cells.size = 0
    · simp [h0] at hi
    · have : i % z.cells.size < z.cells.size := Nat.mod_lt _ (by omega)
      rw [getElem!_pos z.cells _ this]
      exact h1 _ (Array.getElem_mem this))
  simp only [Nat.add_zero] at hst
  obtain ⟨m, rfl⟩ : ∃ m, n = m + 1 := ⟨n - 1, by omega⟩
  simp [Builtin.clear_, run_underlying ht, hv, hst]

section
variable {w : World} {base g cap n : Nat} {m : List Ver}
theorem own_cells (h : OwnVr w base (.slice (some ⟨g, 0, none⟩) n cap) m) : n = m.length ∧ base ≤ g ∧ m.length ≤ cap ∧ cap ≤ maxLen ∧ ∃ cur, w.heap[g]? = some (.cells cur 47 (0, 0)) ∧ cur.size = cap * 8 ∧ ∀ j u, (verL.all m)[j]? = some u → w.cell? ⟨g, j, none⟩ = some u := by
  rcases h.2 with ⟨e, hn⟩ | ⟨g', cap', cur, e, hbg, hg, hnc, hcm, hcs, htake⟩
  · cases e
  cases e
  refine ⟨rfl, hbg, hnc, hcm, cur, hg, hcs, fun j u hu => ?_⟩
  have hj := (List.getElem?_eq_some_iff.1 hu).1
  rw [Lay.all_length] at hj
  rw [World.ownsRow.cellAt h j hj]
  exact hu
/-- A version stored in its place. -/
theorem own_set8 (h : OwnVr w base (.slice (some ⟨g, 0, none⟩) n cap) m) {k : Nat} (hk : k < m.length) (v : Ver) :
    OwnVr (w.setCells g (k * 8) (verL.enc v)) base (.slice (some ⟨g, 0, none⟩) n cap) (m.set k v) ∧ w.grownBy (w.setCells g (k * 8) (verL.enc v)) (some g) := by
  refine ⟨?_, grown_setCells g _ _ w⟩
  obtain ⟨rfl, hbg, hnc, hcm, cur, hg, hcs, hcell⟩ := own_cells h
  have hel : (verL.enc v).length = 8 := rfl
  obtain ⟨c1, hc1, hz1⟩ := heap_setCells g 47 (verL.enc v) (k * 8) w cur hg
  have hsome : ∀ j, j < cap * 8 → (w.cell? ⟨g, j, none⟩).isSome = true := fun j hj => by
    have hjc : j < cur.size := by rw [hcs]; exact hj
    rw [cell_of_row _ _ _ _ _ (0, 0) hg, Array.getElem?_eq_getElem hjc]; rfl
  have key := OwnX.of_cells (L := verL) (e := 47) (base := base) (l := m.set k v) hc1 (by rw [hz1, hcs]; rfl) (cap := cap) (by rw [List.length_set]; exact hnc) hcm hbg ?_
  · rwa [List.length_set] at key
  intro j u hu
  have hjl := (List.getElem?_eq_some_iff.1 hu).1
  rw [Lay.all_length, List.length_set, show verL.sz = 8 from rfl] at hjl
  have hspl : m.set k v = m.take k ++ v :: m.drop (k + 1) := by
    rw [List.set_eq_take_append_cons_drop, if_pos hk]
  have htl : (verL.all (m.take k)).length = k * 8 := by rw [Lay.all_length, List.length_take, Nat.min_eq_left (by omega)]; rfl
  rw [hspl, Lay.all_append, Lay.all_cons] at hu
  have hm2 : verL.all m = verL.all (m.take k) ++ (verL.enc m[k] ++ verL.all (m.drop (k + 1))) := by
    rw [← Lay.all_cons, ← List.drop_eq_getElem_cons hk, ← Lay.all_append, List.take_append_drop]
  rcases Nat.lt_or_ge j (k * 8) with h1 | h1
  · rw [World.cell?_setCells_out g _ _ w ⟨g, j, none⟩ (fun _ _ => by simp only; omega)]
    refine hcell j u ?_
    rw [List.getElem?_append_left (by omega)] at hu
    rw [hm2, List.getElem?_append_left (by omega)]
    exact hu
  · rw [List.getElem?_append_right (by omega), htl] at hu
    rcases Nat.lt_or_ge j (k * 8 + 8) with h2 | h2
    · rw [List.getElem?_append_left (by omega)] at hu
      have := World.cell?_setCells_in g (verL.enc v) (k * 8) w (fun t ht => hsome _ (by omega)) (j - k * 8) (by omega)
      rw [show k * 8 + (j - k * 8) = j from by omega] at this
      rw [this, ← hu, List.getElem?_eq_getElem]
    · rw [List.getElem?_append_right (by omega), hel] at hu
      rw [World.cell?_setCells_out g _ _ w ⟨g, j, none⟩ (fun _ _ => by simp only; omega)]
      refine hcell j u ?_
      rw [hm2, List.getElem?_append_right (by omega), htl, List.getElem?_append_right (by rw [verL.len]; show 8 ≤ _; omega), verL.len]
      exact hu
/-- What stands ahead of what is cleared. -/
theorem own_head (h : OwnVr w base (.slice (some ⟨g, 0, none⟩) n cap) m) {k : Nat} (hk : k ≤ m.length) (vs : List Value) :
    OwnVr (w.setCells g (k * 8) vs) base (.slice (some ⟨g, 0, none⟩) k cap) (m.take k) ∧ w.grownBy (w.setCells g (k * 8) vs) (some g) := by
  refine ⟨?_, grown_setCells g _ _ w⟩
  obtain ⟨rfl, hbg, hnc, hcm, cur, hg, hcs, hcell⟩ := own_cells h
  obtain ⟨c1, hc1, hz1⟩ := heap_setCells g 47 vs (k * 8) w cur hg
  have hlen : (m.take k).length = k := by rw [List.length_take]; omega
  have key := OwnX.of_cells (L := verL) (e := 47) (base := base) (l := m.take k) hc1 (by rw [hz1, hcs]; rfl) (cap := cap) (by omega) hcm hbg ?_
  · rwa [hlen] at key
  intro j u hu
  have hjl := (List.getElem?_eq_some_iff.1 hu).1
  rw [Lay.all_length, hlen, show verL.sz = 8 from rfl] at hjl
  rw [World.cell?_setCells_out g _ _ w ⟨g, j, none⟩ (fun _ _ => by simp only; omega)]
  refine hcell j u ?_
  rw [← all_take m k hk j hjl]
  exact hu
end
end Go.Proofs.Ytigdkflknhdbgaa
/- Layer 13: versions taken away by a closure (slices.DeleteFunc). -/
namespace Go.Proofs.Ytigdkflknhdbgaa
open Go.RowKit
set_option linter.unusedVariables false

section
variable {q : Ver → Bool} {l m : List Ver} {i j : Nat}
theorem ahead_filter (h : ∀ x ∈ l.take i, q x = false) : (l.take i).filter (fun x => !q x) = l.take i := List.filter_eq_self.2 fun x hx => by rw [h x hx]; rfl
theorem all_filter (h : ∀ x ∈ l, q x = false) : l.filter (fun x => !q x) = l := List.filter_eq_self.2 fun x hx => by rw [h x hx]; rfl
theorem take_next (hj : j < l.length) : (l.take (j + 1)).filter (fun x => !q x) = (l.take j).filter (fun x => !q x) ++ (if q l[j] = true then [] else [l[j]]) := by
  rw [List.take_succ_eq_append_getElem hj, List.filter_append]
  congr 1
  cases h : q l[j] <;> simp [h]
/-- What holds between two rounds: what is kept so far stands ahead, what is to be asked behind. -/
structure DelV (q : Ver → Bool) (l m : List Ver) (i j : Nat) : Prop where
  lt : i < j
  le : j ≤ l.length
  len : m.length = l.length
  kept : m.take i = (l.take j).filter (fun x => !q x)
  rest : m.drop j = l.drop j
theorem DelV.at' (h : DelV q l m i j) (hj : j < l.length) : ∃ hm : j < m.length, m[j] = l[j] := by
  have hm : j < m.length := by rw [h.len]; exact hj
  refine ⟨hm, ?_⟩
  have h1 := h.rest
  rw [List.drop_eq_getElem_cons hm, List.drop_eq_getElem_cons hj] at h1
  exact (List.cons.inj h1).1
theorem DelV.gone (h : DelV q l m i j) (hj : j < l.length) (hq : q l[j] = true) : DelV q l m i (j + 1) :=
  ⟨by have := h.lt; omega, hj, h.len, by rw [take_next hj, hq, if_pos rfl, List.append_nil]; exact h.kept, by
    have hm : j < m.length := by rw [h.len]; exact hj
    have h1 := h.rest
    rw [List.drop_eq_getElem_cons hm, List.drop_eq_getElem_cons hj] at h1
    exact (List.cons.inj h1).2⟩
theorem DelV.keep (h : DelV q l m i j) (hj : j < l.length) (hq : q l[j] = false) : DelV q l (m.set i l[j]) (i + 1) (j + 1) := by
  have hm : j < m.length := by rw [h.len]; exact hj
  have hlt := h.lt
  refine ⟨by omega, hj, by rw [List.length_set]; exact h.len, ?_, ?_⟩
  · rw [take_next hj, hq, if_neg (by decide), ← h.kept, List.take_succ_eq_append_getElem (by rw [List.length_set]; omega), List.take_set_of_le (Nat.le_refl _), List.getElem_set_self]
  · rw [List.drop_set_of_lt (by omega)]
    have h1 := h.rest
    rw [List.drop_eq_getElem_cons hm, List.drop_eq_getElem_cons hj] at h1
    exact (List.cons.inj h1).2
theorem DelV.first (hi : i < l.length) (hq : q l[i] = true) (h : ∀ x ∈ l.take i, q x = false) : DelV q l l i (i + 1) :=
  ⟨by omega, hi, rfl, by rw [take_next hi, hq, if_pos rfl, List.append_nil, ahead_filter h], rfl⟩
end

section
variable {P : Program} {ops : Array Oper} {rest : List Oper} {o : Oper} {a : Act} {Q : Exit → Act → World → Prop}
theorem wpl_clear (w : World) (hgd : o.guard = none) (s : Operand) (t : TypeId) (ho : o.op = .call { callee := .builtin .clear, args := #[s], argTypes := #[t] })
    (v : Value) (hs : a.eval s = v) {v' : Value} {w' : World} (hr : (Builtin.clear_ #[t] o.type #[v]).run P w = .ok v' w') (h : wpList P ops Q rest (a.put o.dst v') w') :
    wpList P ops Q (o :: rest) a w := by
  refine wpList_plain hgd fun K hK => ?_
  unfold Oper.wp execOp
  simp only [ho, resolve, invoke, builtin, Sem.run_bind, Sem.run_pure, Result.andThen_ok, List.map_toArray, List.map_cons, List.map_nil, hs, hr]
  exact hK _ _ h
end
set_option maxHeartbeats 4000000 in
set_option maxRecDepth 100000 in
theorem p_deleteFunc (va : Value) (l : List Ver) (fa : Nat) (la : Array Value) (q : Ver → Bool) (A : World → Prop) (eg : ∀ args w, (callFunc fa args).run Try.prog w = .ok (.enter fa args) w) (hAsk : AsksW fa la q A)
    (base : Nat) (w : World) (hAw : ∀ W, w.grownBy W va.ownBlock → A W) (ha : OwnVr w base va l) (hl : l.length ≤ 1000) :
    Calls Try.prog 52 #[va, .func (.func fa) #[] la] w fun z w' => ∃ v', z = .returned v' ∧ OwnVr w' base v' (l.filter fun x => !q x) ∧ Grew w w' va v' := by
  have IX := Lib.hid (p_indexFunc va l fa la q A eg hAsk w (fun W hW => hAw W ⟨hW.os, hW.tape, hW.output, hW.size, fun k hk _ => hW.block k hk⟩) ha.rd hl)
  have HL := Lib.hid hl
  have HAW := Lib.hid hAw
  have HAS := Lib.hid hAsk
  have O := Lib.hid ha
  have IN := Lib.hid (ixV_none q l 0)
  have IS := Lib.hid (ixV_some q l 0)
  obtain ⟨ix, hix⟩ : ∃ ix, ixV q 0 l = ix := ⟨_, rfl⟩
  rw [hix] at IX IN IS
  obtain ⟨A', ca, rfl, -⟩ := ha.rd
  clear hl hAw hAsk ha hix
  go_enter Try.func52, Try.ntmps52
  go_wp2_with fail
  refine IX.out.mono ?_
  rintro z w1 ⟨rfl, hb1⟩
  have G := Lib.hid hb1
  have O1 := Lib.hid (O.out.on hb1)
  clear hb1 IX
  by_cases hm1 : ix = -1
  · subst hm1
    have HF := Lib.hid (all_filter (IN.out rfl))
    clear IN IS
    go_wp2_with fail
    go_ret
    exact ⟨_, rfl, by rw [HF.out]; exact O1.out, ⟨⟨G.out.os, G.out.tape, G.out.output, G.out.size, fun k hk _ => G.out.block k hk⟩, .inl rfl⟩⟩
  · obtain ⟨i0, hi0, he, hq0, hpre⟩ := IS.out hm1
    rw [Nat.zero_add] at he
    subst he
    have D0 := Lib.hid (DelV.first hi0 hq0 hpre)
    have hw64 : IntKind.i64.wrap ((i0 : Int) + 1) = (i0 : Int) + 1 := by rw [IntKind.wrap_i64]; have := HL.out; omega
    obtain ⟨g, c2, e2, -, -⟩ := O.out.pos (by omega)
    cases e2
    have GB0 := Lib.hid (show w.grownBy w1 (some g) from ⟨G.out.os, G.out.tape, G.out.output, G.out.size, fun k hk _ => G.out.block k hk⟩)
    clear IN IS hq0 hpre
    go_wp2_with fail
    go_loopw [5, 6] (fun x y wr => ∃ (i j : Nat) (m : List Ver), x = .int .i64 i ∧ y = .int .i64 j ∧ DelV q l m i j ∧ OwnVr wr base (.slice (some ⟨g, 0, none⟩) l.length ca) m ∧ w.grownBy wr (some g)) (fun _ y _ => l.length - (intOf y).toNat)
    case atStart => exact ⟨i0, i0 + 1, l, rfl, by go_num, D0.out, O1.out, GB0.out⟩
    case round =>
      obtain ⟨i, j, m, rfl, rfl, hd, ho, hgb⟩ := hrel
      rename World => wo
      have D := Lib.hid hd
      have O := Lib.hid ho
      have GB := Lib.hid hgb
      have hij := hd.lt
      have hjl := hd.le
      have hml := hd.len
      clear hd ho hgb O1 GB0 D0 G
      by_cases hlt : j < l.length
      · have zl : decide ((j : Int) < (l.length : Int)) = true := by simp; omega
        have hji : (j : Int) < (l.length : Int) := by omega
        have hii : (i : Int) < (l.length : Int) := by omega
        have hw1 : IntKind.i64.wrap ((i : Int) + 1) = (i : Int) + 1 := by rw [IntKind.wrap_i64]; have := HL.out; omega
        have hw2 : IntKind.i64.wrap ((j : Int) + 1) = (j : Int) + 1 := by rw [IntKind.wrap_i64]; have := HL.out; omega
        obtain ⟨hjm, ejm⟩ := D.out.at' hlt
        have DG := Lib.hid (D.out.gone hlt)
        have DK := Lib.hid (D.out.keep hlt)
        have him : i < m.length := by omega
        obtain ⟨x, hx⟩ : ∃ x, l[j] = x := ⟨_, rfl⟩
        rw [hx] at ejm DG DK
        have AK := Lib.hid (fun W (h : A W) => HAS.out x W h)
        obtain ⟨qx, hqx⟩ : ∃ b, q x = b := ⟨_, rfl⟩
        rw [hqx] at AK DG DK
        obtain ⟨k1, b1, e1, s1, ⟨x1, y1⟩, u1, g1⟩ := x
        unfold verV at AK
        simp only at AK
        obtain ⟨bL, oL, eA, -, c0, c1, c2, c3, c4, c5, c6, c7⟩ := RdVr.here O.out.rd j hjm
        cases eA
        simp only [ejm, Nat.zero_add] at c0 c1 c2 c3 c4 c5 c6 c7
        clear hx hqx ejm
        obtain ⟨W1, hW1⟩ : ∃ W1, wo.alloc (.cells #[.string k1, .int .i64 b1, .int .i64 e1, .int .i64 s1, .int .i64 x1, .int .i64 y1, .string u1, .bool g1] 47) = W1 := ⟨_, rfl⟩
        have BX := Lib.hid (show Box W1 wo.heap.size #[.string k1, .int .i64 b1, .int .i64 e1, .int .i64 s1, .int .i64 x1, .int .i64 y1, .string u1, .bool g1] 47 from by rw [← hW1]; exact Box.new wo _ _ _ rfl)
        have hb1 : Below wo.heap.size wo W1 := by rw [← hW1]; exact alloc_below _ _
        have O := Lib.hid (O.out.on hb1)
        have GB := Lib.hid (GB.out.trans (⟨hb1.os, hb1.tape, hb1.output, hb1.size, fun k hk _ => hb1.block k hk⟩ : wo.grownBy W1 (some g)))
        clear hb1
        have q0 := BX.out.cell 0 _ rfl
        have q1 := BX.out.cell 1 _ rfl
        have q2 := BX.out.cell 2 _ rfl
        have q3 := BX.out.cell 3 _ rfl
        have q4 := BX.out.cell 4 _ rfl
        have q5 := BX.out.cell 5 _ rfl
        have q6 := BX.out.cell 6 _ rfl
        have q7 := BX.out.cell 7 _ rfl
        go_wp2_with fail
        clear hW1 q0 q1 q2 q3 q4 q5 q6 q7
        refine (AK.out _ (HAW.out _ GB.out)).mono ?_
        rintro z w2 ⟨rfl, hb2⟩
        have BX := Lib.hid (BX.out.later hb2)
        have O := Lib.hid (O.out.on hb2)
        have GB := Lib.hid (GB.out.trans (⟨hb2.os, hb2.tape, hb2.output, hb2.size, fun k hk _ => hb2.block k hk⟩ : W1.grownBy w2 (some g)))
        clear hb2 c0 c1 c2 c3 c4 c5 c6 c7
        cases qx
        · have q0 := BX.out.cell 0 _ rfl
          have q1 := BX.out.cell 1 _ rfl
          have q2 := BX.out.cell 2 _ rfl
          have q3 := BX.out.cell 3 _ rfl
          have q4 := BX.out.cell 4 _ rfl
          have q5 := BX.out.cell 5 _ rfl
          have q6 := BX.out.cell 6 _ rfl
          have q7 := BX.out.cell 7 _ rfl
          have fz : ∀ k, w2.frozen? ⟨g, k, none⟩ = false := fun k => O.out.frozen k
          obtain ⟨bL, oL, eA, -, o0, o1, o2, o3, o4, o5, o6, o7⟩ := RdVr.here O.out.rd i him
          cases eA
          simp only [Nat.zero_add] at o0 o1 o2 o3 o4 o5 o6 o7
          have ON := Lib.hid (own_set8 O.out him ⟨k1, b1, e1, s1, (x1, y1), u1, g1⟩)
          go_wp2_with fail
          refine ⟨?_, ?measure⟩
          (repeat apply Exists.intro)
          refine ⟨?rel, rfl⟩
          case rel => exact ⟨i + 1, j + 1, m.set i ⟨k1, b1, e1, s1, (x1, y1), u1, g1⟩, by go_num, by go_num, DK.out trivial, ON.out.1, GB.out.trans ON.out.2⟩
          case measure => simp [intOf]; omega
        · go_wp2_with fail
          refine ⟨?_, ?measure⟩
          (repeat apply Exists.intro)
          refine ⟨?rel, rfl⟩
          case rel => exact ⟨i, j + 1, m, rfl, by go_num, DG.out trivial, O.out, GB.out⟩
          case measure => simp [intOf]; omega
      · have hj : j = l.length := by omega
        subst hj
        have zl : decide ((l.length : Int) < (l.length : Int)) = false := by simp
        have HK := Lib.hid (show m.take i = l.filter (fun x => !q x) from by rw [D.out.kept, List.take_length])
        have him : i ≤ m.length := by omega
        have hil : i ≤ l.length := by omega
        have OH := Lib.hid (fun vs => own_head O.out him vs)
        obtain ⟨-, hbg, hnc, hcm, cur, hg, hcs, -⟩ := own_cells O.out
        have hsome : ∀ k, k < ca * 8 → (wo.cell? ⟨g, k, none⟩).isSome = true := fun k hk => by
          have hjc : k < cur.size := by rw [hcs]; exact hk
          rw [cell_of_row _ _ _ _ _ (0, 0) hg, Array.getElem?_eq_getElem hjc]; rfl
        have hlt2 : i < l.length := hij
        have hnci : ¬ (ca = i) := by omega
        have hica : i ≤ ca := by omega
        have hicb : (i : Int) ≤ (ca : Int) := by omega
        have hii : (i : Int) ≤ (l.length : Int) := by omega
        have hcl := fun (ty : TypeId) (c : Nat) => run_clear_cells (P := Try.prog) wo 24 47 ty (.agg #[.string ⟨#[]⟩, .int .i64 0, .int .i64 0, .int .i64 0, .int .i64 0, .int .i64 0, .string ⟨#[]⟩, .bool false]) Try.underlying24 (fun w => by kernel_rfl) 8 rfl (by intro u hu; simp [Value.cells] at hu; rcases hu with rfl | rfl | rfl | rfl <;> rfl) g (i * 8) (l.length - i) c (by omega) (fun k hk => hsome _ (by omega)) (fun k hk => O.out.frozen _)
        have HCL := Lib.hid hcl
        clear hlt hcl hsome hg hcs hcm hnc hbg cur
        go_wp2_with fail
        rw [HCL.out]
        simp only [Result.andThen]
        rw [Oper.upon_value]
        go_wp2_with fail
        go_ret
        exact ⟨_, rfl, by rw [← HK.out]; exact (OH.out _).1, ⟨GB.out.trans (OH.out _).2, .inl rfl⟩⟩
end Go.Proofs.Ytigdkflknhdbgaa
