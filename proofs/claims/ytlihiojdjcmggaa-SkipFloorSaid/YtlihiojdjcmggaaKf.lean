/- Layer 12, the project's: Floor, Height, Row. -/
import Derived.Test.YtlihiojdjcmggaaKe
import Derived.BigQuiet
import Derived.LaidEql
namespace Go.Proofs.Ytlihiojdjcmggaa
open Go.RowKit
set_option linter.unusedVariables false

theorem node_info : (Try.prog.info? 53).map (fun i => i.size) = some 12 := by kernel_rfl
theorem eq_same (W : World) (d a : Nat) : (Op.equalIn (d + 1) 50 (.pointer (some ⟨a, 0, none⟩)) (.pointer (some ⟨a, 0, none⟩))).run Try.prog W = .ok true W := by
  obtain ⟨j, hj, hs⟩ := Option.map_eq_some_iff.1 node_info
  simp [Op.equalIn, run_underlying Try.underlying50, sizeOf, typeInfo, hj, run_sameAddr_same]
theorem eq_other (W : World) (d : Nat) {a b : Nat} {ca cb : Array Value} {ta tb : TypeId} (hne : a ≠ b) (ha : Box W a ca ta) (hb : Box W b cb tb) : (Op.equalIn (d + 1) 50 (.pointer (some ⟨a, 0, none⟩)) (.pointer (some ⟨b, 0, none⟩))).run Try.prog W = .ok false W := by
  obtain ⟨j, hj, hs⟩ := Option.map_eq_some_iff.1 node_info
  simp [Op.equalIn, run_underlying Try.underlying50, sizeOf, typeInfo, hj, hs, run_sameAddr_other (P := Try.prog) W (a := ⟨a, 0, none⟩) (b := ⟨b, 0, none⟩) (by simp) ha hb]
theorem neq_same (W : World) (a : Nat) : (binOp .neq 50 (.pointer (some ⟨a, 0, none⟩)) (.pointer (some ⟨a, 0, none⟩))).run Try.prog W = .ok (.bool false) W := by
  simp only [binOp]
  simp [Op.equal, Op.maxDepth, eq_same W 9999 a]
theorem neq_other (W : World) {a b : Nat} {ca cb : Array Value} {ta tb : TypeId} (hne : a ≠ b) (ha : Box W a ca ta) (hb : Box W b cb tb) : (binOp .neq 50 (.pointer (some ⟨a, 0, none⟩)) (.pointer (some ⟨b, 0, none⟩))).run Try.prog W = .ok (.bool true) W := by
  simp only [binOp]
  simp [Op.equal, Op.maxDepth, eq_other W 9999 hne ha hb]
theorem SkM.box {mk : Nat} {w : World} {M : List Nd} {l : List It} (h : SkM mk w M l) {i : Nat} (hi : i ≤ l.length) : ∃ cs t, Box w (bN M i) cs t := by
  have h1 : i < M.length := by rw [h.len]; omega
  rw [bN_at h1]
  exact ⟨_, _, h.nodes.at' _ _ (List.getElem?_eq_getElem h1)⟩
theorem bn_ne {mk : Nat} {w : World} {M : List Nd} {l : List It} (h : SkM mk w M l) {t : Nat} (ht : t < l.length) : bN M (t + 1) ≠ bN M 0 := by
  intro e
  have h1 : t + 1 < M.length := by rw [h.len]; omega
  have h0 : 0 < M.length := by omega
  rw [bN_at h1, bN_at h0] at e
  have := h.nodes.bs (t + 1) 0 _ _ (List.getElem?_eq_getElem h1) (List.getElem?_eq_getElem h0) e
  omega
theorem p_floor (mk : Nat) (M : List Nd) (l : List It) (key : ByteArray) (w : World) (h : SkM mk w M l) :
    Calls Try.prog 15 #[.pointer (some ⟨bN M 0, 0, none⟩), .string key] w fun z w' => z = .returned (.tuple #[.string (floorI l key).1, .bool (floorI l key).2]) ∧ Below w.heap.size w w' := by
  have HS := Lib.hid h
  have HA := Lib.hid (p_ahead mk M l key w h)
  have AL := Lib.hid (at_le key l)
  clear h
  go_enter Try.func15, Try.ntmps15
  go_wp2_with fail
  refine (HA.out).mono ?_
  rintro z w1 ⟨pj, rfl, hp, hb⟩
  have e0 := pred_at HS.out hp
  have hx := fun W => ix0 W fun t => bN M (pj t)
  have H1 := Lib.hid (HS.out.on hb)
  have c := H1.out.read0 (at_le key l)
  rw [← e0] at c
  have E := Lib.hid e0
  have G := Lib.hid hb
  clear hp hb e0 HA
  generalize eightV (fun t => bN M (pj t)) = av at *
  have PH := Lib.hid (p_has mk M l key w1 H1.out)
  rw [← E.out] at PH
  cases hh : hereI l key
  · rw [hh] at PH
    have HH := Lib.hid hh
    have FL := Lib.hid (show floorI l key = match (l.take (atI key l)).getLast? with | some x => (x.key, true) | none => (⟨#[]⟩, false) from by unfold floorI; rw [hh]; rfl)
    rcases Nat.eq_zero_or_pos (atI key l) with h0 | h0
    · have c0 := H1.out.key0
      have FL := Lib.hid (show floorI l key = (⟨#[]⟩, false) from by rw [FL.out, h0]; rfl)
      have e2 : pj 0 = 0 := by rw [E.out, h0]
      rw [e2] at hx c PH
      have hq := fun n => neq_same (w1.drewN n) (bN M 0)
      clear h0 hh
      generalize nodeP M l 0 = np at *
      go_wp2_with fail
      refine PH.out.mono ?_
      rintro z w2 ⟨rfl, rfl⟩
      clear PH
      go_wp2_with fail
      go_quiet (fail)
      go_wp2_with fail
      go_ret2
      exact ⟨by rw [FL.out]; rfl, G.out.drewN _⟩
    · obtain ⟨t, ht⟩ : ∃ t, atI key l = t + 1 := ⟨atI key l - 1, by omega⟩
      have htl : t < l.length := by have := AL.out; omega
      have c0 := (H1.out.key htl).1
      have nb := bn_ne H1.out htl
      obtain ⟨ca, ta, ba⟩ := H1.out.box (i := t + 1) (by omega)
      obtain ⟨cb, tb, bb⟩ := H1.out.box (i := 0) (by omega)
      have hq := fun n => neq_other (w1.drewN n) nb (ba.drewN n) (bb.drewN n)
      clear ba bb
      have FL := Lib.hid (show floorI l key = (l[t].key, true) from by
        rw [FL.out, ht, List.getLast?_eq_getElem?, List.length_take, Nat.min_eq_left (by omega), List.getElem?_take, if_pos (by omega), Nat.add_sub_cancel, List.getElem?_eq_getElem htl])
      have e2 : pj 0 = t + 1 := by rw [E.out, ht]
      rw [e2] at hx c PH
      generalize l[t].key = ks at *
      clear h0 hh ht
      generalize nodeP M l (t + 1) = np at *
      generalize bN M (t + 1) = bt at *
      generalize bN M 0 = bz at *
      go_wp2_with fail
      refine PH.out.mono ?_
      rintro z w2 ⟨rfl, rfl⟩
      clear PH
      go_wp2_with fail
      go_quiet (fail)
      go_wp2_with fail
      go_ret2
      exact ⟨by rw [FL.out]; rfl, G.out.drewN _⟩
  · rw [hh] at PH
    have HH := Lib.hid hh
    have FL := Lib.hid (show floorI l key = (key, true) from by unfold floorI; rw [hh, if_pos rfl])
    clear hh
    generalize nodeP M l (pj 0) = np at *
    go_wp2_with fail
    refine PH.out.mono ?_
    rintro z w2 ⟨rfl, rfl⟩
    clear PH
    go_wp2_with fail
    go_ret2
    exact ⟨by rw [FL.out]; rfl, G.out⟩
theorem height_max : ∀ {l : List It} {n k : Int}, n ≤ k → (∀ x ∈ l, x.level ≤ k) → (n = k ∨ ∃ x ∈ l, k ≤ x.level) → heightGo n l = k
  | [], n, k, _, _, h => by
    rcases h with h | ⟨x, hx, _⟩
    · exact h
    · cases hx
  | y :: r, n, k, h1, h2, h => by
    rw [heightGo]
    have hy := h2 y (List.mem_cons_self)
    refine height_max (l := r) ?_ (fun x hx => h2 x (List.mem_cons_of_mem _ hx)) ?_
    · split <;> omega
    · rcases h with h | ⟨x, hx, hk⟩
      · left; split <;> omega
      · rcases List.mem_cons.1 hx with rfl | hx
        · left; split <;> omega
        · exact .inr ⟨x, hx, hk⟩
theorem SkM.over {mk : Nat} {w : World} {M : List Nd} {l : List It} (h : SkM mk w M l) {r : Nat} (hn : NextIs (lvN M) r 0 none) : ∀ x ∈ l, x.level ≤ (r : Int) := fun x hx => by
  obtain ⟨t, ht, rfl⟩ := List.getElem_of_mem hx
  have h1 := hn (t + 1) (by omega)
  have h2 := h.lev ht
  omega
theorem height_at {mk : Nat} {w : World} {M : List Nd} {l : List It} (h : SkM mk w M l) {k : Nat} (hk : k = 0 ∨ ∃ x ∈ l, (k : Int) ≤ x.level) (hn : k = 8 ∨ NextIs (lvN M) k 0 none) : heightI l = (k : Int) := by
  refine height_max (by omega) (fun x hx => ?_) (hk.imp (fun e => by rw [e]; rfl) id)
  rcases hn with e | hn
  · obtain ⟨t, ht, rfl⟩ := List.getElem_of_mem hx
    have := h.lev ht
    omega
  · exact h.over hn x hx
set_option maxHeartbeats 2000000 in
theorem p_height (mk : Nat) (M : List Nd) (l : List It) (w : World) (h : SkM mk w M l) :
    Calls Try.prog 17 #[.pointer (some ⟨bN M 0, 0, none⟩)] w fun z w' => z = .returned (.int .i64 (heightI l)) ∧ w' = w := by
  have HS := Lib.hid h
  clear h
  go_enter Try.func17, Try.ntmps17
  go_wp2_with fail
  go_loopw [3] (fun i wr => ∃ k : Nat, i = .int .i64 k ∧ k ≤ 8 ∧ (k = 0 ∨ ∃ x ∈ l, (k : Int) ≤ x.level) ∧ wr = w) (fun i _ => 8 - (intOf i).toNat)
  case atStart => exact ⟨0, rfl, by omega, .inl rfl, rfl⟩
  case round =>
    obtain ⟨k, rfl, hk8, hk, rfl⟩ := hrel
    have HK := Lib.hid hk
    clear hk
    by_cases hlt : k < 8
    · have zl : decide ((k : Int) < 8) = true := by rw [decide_eq_true_eq]; omega
      have zn : decide (k < 8) = true := by rw [decide_eq_true_eq]; omega
      have hki : (k : Int) < 8 := by omega
      have hw64 : IntKind.i64.wrap ((k : Int) + 1) = (k : Int) + 1 := by rw [IntKind.wrap_i64]; omega
      have hr : k < lvN M 0 := by rw [HS.out.lv0]; exact hlt
      have c := HS.out.nodes.reads hr
      obtain ⟨o, ho, hco⟩ := HS.out.link 0 k hr
      rw [hco] at c
      have HO := Lib.hid ho
      clear hr ho hco
      cases o with
      | none =>
        simp only [ptrO] at c
        have HR := Lib.hid (height_at HS.out HK.out (.inr HO.out))
        go_wp2_with fail
        go_ret
        exact ⟨by rw [HR.out]; rfl, rfl⟩
      | some j =>
        simp only [ptrO] at c
        obtain ⟨t, rfl, ht⟩ := HS.out.next_lt HO.out
        have HX := Lib.hid (show (k + 1 : Nat) = 0 ∨ ∃ x ∈ l, ((k + 1 : Nat) : Int) ≤ x.level from .inr ⟨l[t], List.getElem_mem ht, by have h1 := HO.out.2.1; have h2 := HS.out.lev ht; omega⟩)
        clear ht
        go_wp2_with fail
        go_roundw
        case rel => exact ⟨k + 1, by go_num, by omega, HX.out, trivial⟩
        case measure => simp [intOf]; omega
    · obtain rfl : k = 8 := by omega
      have HR := Lib.hid (height_at HS.out HK.out (.inl rfl))
      clear hlt
      go_wp2_with fail
      go_ret
      exact ⟨by rw [HR.out]; rfl, rfl⟩
theorem row_more {l : List It} {i t : Nat} {lv : Int} (h1 : 1 ≤ lv) (h8 : lv ≤ 8) (hit : i ≤ t) (ht : t < l.length) (hb : ∀ s (hs : s < l.length), i ≤ s → s < t → l[s].level < lv) (hl : lv ≤ l[t].level) : rowI (l.take (t + 1)) lv = rowI (l.take i) lv ++ [l[t].key] := by
  have e : l.take (t + 1) = l.take i ++ ((l.take t).drop i ++ [l[t]]) := by
    rw [List.take_succ_eq_append_getElem ht, ← List.append_assoc]
    congr 1
    have := List.take_append_drop i (l.take t)
    rw [List.take_take, Nat.min_eq_left hit] at this
    exact this.symm
  have z : ((l.take t).drop i).filter (rowB lv) = [] := by
    rw [List.filter_eq_nil_iff]
    intro x hx
    obtain ⟨s, hs, rfl⟩ := List.getElem_of_mem hx
    rw [List.length_drop, List.length_take] at hs
    rw [List.getElem_drop, List.getElem_take]
    have := hb (i + s) (by omega) (by omega) (by omega)
    unfold rowB
    have z3 : decide (lv ≤ l[i + s].level) = false := by rw [decide_eq_false_iff_not]; omega
    rw [z3]
    simp
  have o : [l[t]].filter (rowB lv) = [l[t]] := by
    rw [List.filter_cons, if_pos (by unfold rowB; rw [decide_eq_true h1, decide_eq_true h8, decide_eq_true hl]; rfl), List.filter_nil]
  unfold rowI
  rw [e, List.filter_append, List.filter_append, z, o, List.map_append]
  rfl
theorem row_rest {l : List It} {i : Nat} {lv : Int} (hb : ∀ s (hs : s < l.length), i ≤ s → l[s].level < lv) : rowI l lv = rowI (l.take i) lv := by
  have z : (l.drop i).filter (rowB lv) = [] := by
    rw [List.filter_eq_nil_iff]
    intro x hx
    obtain ⟨s, hs, rfl⟩ := List.getElem_of_mem hx
    rw [List.length_drop] at hs
    rw [List.getElem_drop]
    have := hb (i + s) (by omega) (by omega)
    unfold rowB
    have z3 : decide (lv ≤ l[i + s].level) = false := by rw [decide_eq_false_iff_not]; omega
    rw [z3]
    simp
  rw [show rowI l lv = rowI (l.take i ++ l.drop i) lv from by rw [List.take_append_drop]]
  unfold rowI
  rw [List.filter_append, z, List.append_nil]
theorem row_out {l : List It} {lv : Int} (h : ¬ (1 ≤ lv ∧ lv ≤ 8)) : rowI l lv = [] := by
  unfold rowI
  rw [List.filter_eq_nil_iff.2, List.map_nil]
  intro x _
  unfold rowB
  by_cases h1 : 1 ≤ lv
  · have z : decide (lv ≤ 8) = false := by rw [decide_eq_false_iff_not]; omega
    rw [z]; simp
  · have z : decide (1 ≤ lv) = false := by rw [decide_eq_false_iff_not]; exact h1
    rw [z]; simp
theorem row_len (l : List It) (i : Nat) (lv : Int) : (rowI (l.take i) lv).length ≤ l.length := by
  unfold rowI
  rw [List.length_map]
  refine Nat.le_trans (List.length_filter_le _ _) ?_
  rw [List.length_take]
  omega
set_option maxHeartbeats 4000000 in
set_option maxRecDepth 100000 in
theorem p_row (mk : Nat) (M : List Nd) (l : List It) (lv : Int) (w : World) (h : SkM mk w M l) (hl : l.length ≤ 1000) (hv : inK lv) :
    Calls Try.prog 13 #[.pointer (some ⟨bN M 0, 0, none⟩), .int .i64 lv] w fun z w' => ∃ v', z = .returned v' ∧ OwnX strL 9 w' w.heap.size v' (rowI l lv) ∧ Below w.heap.size w w' := by
  have HS := Lib.hid h
  have HL := Lib.hid hl
  by_cases hin : 1 ≤ lv ∧ lv ≤ 8
  · obtain ⟨r, rfl⟩ : ∃ r : Nat, lv = ((r + 1 : Nat) : Int) := ⟨(lv - 1).toNat, by omega⟩
    have hr8 : r < 8 := by omega
    have hri : (r : Int) < 8 := by omega
    have ha : decide (((r + 1 : Nat) : Int) < 1) = false := by rw [decide_eq_false_iff_not]; omega
    have hb : decide (8 < ((r + 1 : Nat) : Int)) = false := by rw [decide_eq_false_iff_not]; omega
    have ha2 : decide ((r : Int) + 1 < 1) = false := by rw [decide_eq_false_iff_not]; omega
    have hb2 : decide (8 < (r : Int) + 1) = false := by rw [decide_eq_false_iff_not]; omega
    have hw1 : IntKind.i64.wrap (((r + 1 : Nat) : Int) - 1) = (r : Int) := by rw [IntKind.wrap_i64]; omega
    have hw2 : IntKind.i64.wrap ((r : Int) + 1 - 1) = (r : Int) := by rw [IntKind.wrap_i64]; omega
    have hw3 : IntKind.i64.wrap (r : Int) = (r : Int) := by rw [IntKind.wrap_i64]; omega
    have HIN := Lib.hid hin
    have hr : r < lvN M 0 := by rw [HS.out.lv0]; exact hr8
    have c := HS.out.nodes.reads hr
    obtain ⟨o, ho, hco⟩ := HS.out.link 0 r hr
    rw [hco] at c
    obtain ⟨po, hpo⟩ : ∃ po, ptrO (bN M) o = po := ⟨_, rfl⟩
    rw [hpo] at c
    have HPO := Lib.hid hpo
    have HO := Lib.hid ho
    have HRI := Lib.hid hr
    clear hin hr ho hco h hl hv hpo
    go_enter Try.func13, Try.ntmps13
    go_wp2_with fail
    clear c
    go_loopg [5, 6] (l.length) (fun k x y wr => ∃ (i : Nat) (o2 : Option Nat), y = ptrO (bN M) o2 ∧ NextIs (lvN M) r i o2 ∧ i ≤ l.length ∧ r < lvN M i ∧ k = l.length - i ∧ OwnX strL 9 wr w.heap.size x (rowI (l.take i) ((r + 1 : Nat) : Int)) ∧ Below w.heap.size w wr)
    case atStart => exact ⟨0, o, HPO.out.symm, HO.out, Nat.zero_le _, HRI.out, rfl, OwnX.nil _ _, Below.refl _ _⟩
    case round =>
      obtain ⟨i, o2, rfl, hn, hi, hri2, rfl, hx, hbw⟩ := hrel
      have G := Lib.hid hbw
      have O := Lib.hid hx
      have HI := Lib.hid hi
      cases o2 with
      | none =>
        have HR := Lib.hid (show rowI l ((r + 1 : Nat) : Int) = rowI (l.take i) ((r + 1 : Nat) : Int) from row_rest fun s hs h1 => by
          have h2 := hn (s + 1) (by omega)
          have h3 := HS.out.lev hs
          omega)
        simp only [ptrO]
        clear hn hi hri2 hx hbw
        go_wp2_with fail
        go_ret
        exact ⟨_, rfl, by rw [HR.out]; exact O.out, G.out⟩
      | some j =>
        obtain ⟨t, rfl, ht⟩ := HS.out.next_lt hn
        obtain ⟨o3, ho3, hco3⟩ := HS.out.link (t + 1) r hn.2.1
        have SW := Lib.hid (HS.out.on hbw)
        have ck := (SW.out.key ht).1
        have HR := Lib.hid (row_more (l := l) (i := i) (t := t) (lv := ((r + 1 : Nat) : Int)) (by omega) (by omega) (by have := hn.1; omega) ht (fun s hs h1 h2 => by
          have h3 := hn.2.2 (s + 1) (by omega) (by omega)
          have h4 := HS.out.lev hs
          omega) (by have h3 := hn.2.1; have h4 := HS.out.lev ht; omega))
        obtain ⟨po3, hpo3⟩ : ∃ po, ptrO (bN M) o3 = po := ⟨_, rfl⟩
        have RD := Lib.hid (show ∀ X, Below w.heap.size w X → X.cell? ⟨bN M (t + 1), 4 + r, none⟩ = some po3 from fun X hb => by
          have := (HS.out.on hb).nodes.reads hn.2.1
          rw [hco3, hpo3] at this
          exact this)
        have HPO3 := Lib.hid hpo3
        have HO3 := Lib.hid ho3
        have HLR := Lib.hid hn.2.1
        have HT := Lib.hid ht
        have HIT := Lib.hid (show i ≤ t from by have := hn.1; omega)
        have RL := Lib.hid (row_len l i ((r + 1 : Nat) : Int))
        obtain ⟨s, hs⟩ : ∃ s, (l[t]'ht).key = s := ⟨_, rfl⟩
        rw [hs] at ck HR
        simp only [ptrO]
        clear hn hi hri2 hx hbw ht hs ho3 hco3 hpo3
        generalize rowI (l.take i) ((r + 1 : Nat) : Int) = acc at *
        go_wp2_with (at_builtin; refine wpl_appX (L := strL) rfl (.tmp 30) (.tmp 35) rfl Try.underlying34 str_info rfl w.heap.size _ acc [s] _ _ _ rfl rfl rfl rfl O.out G.out.size (by rw [List.length_singleton]; have := RL.out; have := HL.out; omega) (by decide) ?_; intro v5 w5 ho5 hg5 hb5; have d5 := RD.out _ (G.out.trans hb5))
        go_roundg (l.length - (t + 1))
        case measure => have := HT.out; have := HIT.out; omega
        case rel => exact ⟨t + 1, o3, HPO3.out.symm, HO3.out, HT.out, HLR.out, rfl, by rw [HR.out]; exact ho5, G.out.trans hb5⟩
  · have HR := Lib.hid (row_out (l := l) hin)
    by_cases h1 : lv < 1
    · have ha : decide (lv < 1) = true := by rw [decide_eq_true_eq]; exact h1
      clear hin h hl hv
      go_enter Try.func13, Try.ntmps13
      go_wp2_with fail
      go_ret
      exact ⟨_, rfl, by rw [HR.out]; exact OwnX.nil _ _, Below.refl _ _⟩
    · have ha : decide (lv < 1) = false := by rw [decide_eq_false_iff_not]; exact h1
      have hb : decide (8 < lv) = true := by rw [decide_eq_true_eq]; omega
      clear hin h hl hv
      go_enter Try.func13, Try.ntmps13
      go_wp2_with fail
      go_ret
      exact ⟨_, rfl, by rw [HR.out]; exact OwnX.nil _ _, Below.refl _ _⟩
end Go.Proofs.Ytlihiojdjcmggaa
