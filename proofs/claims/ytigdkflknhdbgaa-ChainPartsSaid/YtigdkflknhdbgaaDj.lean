/- Layer 13: Add, by the project. -/
import Derived.Test.YtigdkflknhdbgaaDi
import Derived.Test.YtigdkflknhdbgaaDf
import Derived.BigQuiet
namespace Go.Proofs.Ytigdkflknhdbgaa
open Go.RowKit
set_option linter.unusedVariables false

theorem box1 (w : World) (x : Ver) : Box (w.alloc (.cells (verL.enc x).toArray 47)) w.heap.size (verL.all [x]).toArray 47 := by
  have : verL.all [x] = verL.enc x := by rw [Lay.all_cons, show verL.all [] = [] from rfl, List.append_nil]
  rw [this]
  exact Box.new w _ _ _ rfl
/-- An index whose list has been turned, and then its count. -/
theorem turn_end {n : Nat} {w w3 w4 w5 : World} {g b : Nat} {S S0 S' : Nat → Prop} {l' : List Skp.It} {Ls' : List (List Ver)} {inr : List Ver} {row : Value} {m c0 : Int}
    (G : Below w.heap.size w w3) (gl : g < w.heap.size) (gs : ¬ S0 g) (lt : ∀ k, S0 k → k < w.heap.size) (hS : ∀ k, S k ↔ k = g ∨ S0 k) (BI : Box w3 g #[.pointer (some ⟨b, 0, none⟩), .int .i64 c0] 67)
    (hg : ∀ k, k < w3.heap.size → row.ownBlock ≠ some k → w4.heap[k]? = w3.heap[k]?) (hrow : ∀ k, row.ownBlock = some k → S0 k) (hb4 : Below 0 w3 w4)
    (hk : Skp.KeptF S0 w4 w5) (hc : ChL n w5 S' (.pointer (some ⟨b, 0, none⟩)) l' Ls') (hf : Ls'.flatten = inr) (hs : ∀ k, S' k → S0 k ∨ w3.heap.size ≤ k) (hm : m = (inr.length : Int)) :
    Box w5 g #[.pointer (some ⟨b, 0, none⟩), .int .i64 c0] 67 ∧ ChS n (w5.setCell ⟨g, 1, none⟩ (.int .i64 m)) (fun k => k = g ∨ S' k) (.pointer (some ⟨g, 0, none⟩)) inr (Skp.heightI l') ∧
      (∀ i, (i = g ∨ S' i) → S i ∨ w.heap.size ≤ i) ∧ KeptF S w (w5.setCell ⟨g, 1, none⟩ (.int .i64 m)) := by
  have h3 := G.size
  have h4 := hb4.size
  have e4 : w4.heap[g]? = w3.heap[g]? := hg g (by omega) fun e => gs (hrow g e)
  have e5 : w5.heap[g]? = w4.heap[g]? := hk.other g (by omega) gs
  have B5 : Box w5 g #[.pointer (some ⟨b, 0, none⟩), .int .i64 c0] 67 := (e5.trans e4).trans BI
  have gs' : ¬ S' g := fun h => by
    rcases hs g h with h5 | h5
    · exact gs h5
    · omega
  have out : ∀ k, k ≠ g → (w5.setCell ⟨g, 1, none⟩ (.int .i64 m)).heap[k]? = w5.heap[k]? := fun k hk => Below.heap_setCell w5 ⟨g, 1, none⟩ _ k hk
  refine ⟨B5, ⟨g, _, l', Ls', S', rfl, by rw [← hm]; exact B5.set 1 _, hc.stay fun k hk => out k fun e => gs' (e ▸ hk), hf.symm, rfl, gs', fun k => Iff.rfl⟩, fun i hi => ?_, ⟨?_, fun i hi hn => ?_⟩⟩
  · rcases hi with rfl | hi
    · exact .inl ((hS _).2 (.inl rfl))
    · rcases hs i hi with h5 | h5
      · exact .inl ((hS i).2 (.inr h5))
      · exact .inr (by omega)
  · exact (((G.mono (Nat.zero_le _)).trans hb4).trans hk.below).setCell (p := ⟨g, 1, none⟩) (Nat.zero_le _) _
  · have hne : i ≠ g := fun e => hn ((hS i).2 (.inl e))
    have hn0 : ¬ S0 i := fun e => hn ((hS i).2 (.inr e))
    rw [out i hne, hk.other i (by omega) hn0, hg i (by omega) fun e => hn0 (hrow i e)]
    exact G.block i hi
theorem ret_ii {a b : Int} (h : a = b) : Ending.returned (.int .i64 a) = .returned (.int .i64 b) := by rw [h]
set_option maxHeartbeats 8000000 in
set_option maxRecDepth 100000 in
theorem ch_add {n : Nat} (w : World) (S : Nat → Prop) (p : Value) (r : List Ver) (h : Int) (v : Ver) (lv : Int) (hc : ChS n w S p r h) (hn : n ≤ 100000) (hr : r.length ≤ 1000) (hkey : v.key.size ≤ 1000) (hlv : inK lv) :
    Calls Try.prog 19 #[p, verV v, .int .i64 lv] w fun z w' => z = .returned (.int .i64 (addV r v).2) ∧ ∃ S' h', ChS (n + 1) w' S' p (addV r v).1 h' ∧ (∀ i, S' i → S i ∨ w.heap.size ≤ i) ∧ KeptF S w w' ∧
      (r = [] → (addV r v).2 = 0 → h' = clampI lv) ∧ ((∃ x ∈ r, x.key = v.key) → h' = h) := by
  have HC := Lib.hid hc
  obtain ⟨g, pl, l, Ls, S0, rfl, hb, hl, er, eh, hgS, hS⟩ := hc
  obtain ⟨b, rfl⟩ := hl.ptr
  have hll : l.length ≤ 1000 := Nat.le_trans hl.keys_len (by rw [← er]; exact hr)
  have hv : verL.enc v = [.string v.key, .int .i64 v.b, .int .i64 v.e, .int .i64 v.s, .int .i64 v.sp.1, .int .i64 v.sp.2, .string v.val, .bool v.gone] := rfl
  obtain ⟨W0, hW0⟩ : ∃ W0, w.alloc (.cells (verL.enc v).toArray 47) = W0 := ⟨_, rfl⟩
  have hb0 : Below w.heap.size w W0 := by rw [← hW0]; exact alloc_below _ _
  have BV := Lib.hid (show Box W0 w.heap.size (verL.enc v).toArray 47 from by rw [← hW0]; exact Box.new w _ _ _ rfl)
  have BI := Lib.hid (show Box W0 g #[.pointer (some ⟨b, 0, none⟩), .int .i64 (r.length : Int)] 67 from hb.later hb0)
  have CL := Lib.hid (show ChL n W0 S0 (.pointer (some ⟨b, 0, none⟩)) l Ls from hl.stay fun k hk => hb0.block k (hl.lt hk))
  have G := Lib.hid hb0
  have MY := Lib.hid (fun w => row_may v w (by omega))
  have HD := Lib.hid (show addV r v = if mayV v = true then (if r.any (alikeV v) = true then (r, 9) else (insA v r, 0)) else (r, 1) from rfl)
  have LT := Lib.hid (fun k (hk : S0 k) => hl.lt hk)
  have GLT := Lib.hid hb.lt
  have GS := Lib.hid hgS
  have HS := Lib.hid hS
  have ER := Lib.hid er
  have EH := Lib.hid eh
  have HR := Lib.hid hr
  have HN := Lib.hid hn
  have HLL := Lib.hid hll
  have HLV := Lib.hid hlv
  have ASC := Lib.hid (show AscV (Ls.flatten.filter fun x => decide (x.key = v.key)) from asc_filter hl.grp.asc _)
  have ANY := Lib.hid (show r.any (alikeV v) = (Ls.flatten.filter fun x => decide (x.key = v.key)).any (alikeV v) from by
    rw [er]
    cases hh : Skp.hereI l v.key
    · rw [hl.grp.any_none hh, hl.grp.of_none hh]; rfl
    · obtain ⟨hi, e⟩ := hl.grp.any_here hh
      obtain ⟨hi2, e2⟩ := hl.grp.of_here hh
      rw [e, e2])
  have QL := Lib.hid (show (Ls.flatten.filter fun x => decide (x.key = v.key)).length ≤ 1000 from Nat.le_trans (List.length_filter_le _ _) (by rw [← er]; exact hr))
  have SAME := Lib.hid (fun (W : World) (hW : Below w.heap.size w W) => (show ChS (n + 1) W S (.pointer (some ⟨g, 0, none⟩)) r h from (HC.out.stay fun i hi => hW.block i (HC.out.lt i hi)).more (Nat.le_succ n)))
  have KEPT := Lib.hid (fun (W : World) (hW : Below w.heap.size w W) => (show KeptF S w W from ⟨hW.mono (Nat.zero_le _), fun i hi _ => hW.block i hi⟩))
  obtain ⟨mv, hmv⟩ : ∃ mv, mayV v = mv := ⟨_, rfl⟩
  rw [hmv] at HD MY
  rw [hv] at hW0 BV
  clear hb hl er eh hgS hS hr hn hkey hlv hll hb0 hmv HC
  generalize hq : (Ls.flatten.filter fun x => decide (x.key = v.key)) = q at *
  have HQ := Lib.hid hq
  clear hq
  obtain ⟨av, hav⟩ : ∃ av, r.any (alikeV v) = av := ⟨_, rfl⟩
  rw [hav] at HD ANY
  have HAV := Lib.hid hav
  clear hav
  obtain ⟨res, hres⟩ : ∃ res, addV r v = res := ⟨_, rfl⟩
  rw [hres] at HD ⊢
  clear hres
  have BS := Lib.hid (fun va w (h : RdVr w w.heap.size va q) => p_bsearch va q v w h QL.out)
  have GT := Lib.hid (fun w (h : ChL n w S0 (.pointer (some ⟨b, 0, none⟩)) l Ls) => chl_get h v.key)
  have VE := Lib.hid hv
  have V1 := Lib.hid (fun w => box1 w v)
  have PA := Lib.hid (fun (w w2 : World) (h : ChL n w S0 (.pointer (some ⟨b, 0, none⟩)) l Ls) hno t => chl_add (w2 := w2) h HN.out HLL.out v lv HLV.out hno t)
  have OWN := Lib.hid (fun (w : World) (h : ChL n w S0 (.pointer (some ⟨b, 0, none⟩)) l Ls) => chl_own h v.key)
  rw [HQ.out] at GT OWN PA
  have INS := Lib.hid (fun i (h : FoundV q (fun a => cmpV a v) i) hn => found_ins ASC.out h hn)
  have FAN := Lib.hid (fun i (h : FoundV q (fun a => cmpV a v) i) => found_any ASC.out h)
  have HFK := Lib.hid (show (∃ x ∈ r, x.key = v.key) ↔ ∃ x ∈ Ls.flatten, x.key = v.key from by rw [ER.out])
  obtain ⟨inr, hinr⟩ : ∃ inr, insA v r = inr := ⟨_, rfl⟩
  have IR := Lib.hid (show insA v Ls.flatten = inr from by rw [← ER.out]; exact hinr)
  have IRL := Lib.hid (show inr.length = r.length + 1 from by rw [← hinr]; exact insA_len v r)
  rw [hinr] at HD
  clear hinr hv
  rw [VE.out] at V1
  obtain ⟨kk, bb, ee, ss, ⟨xx, yy⟩, uu, gg⟩ := v
  simp only at *
  unfold verV at MY BS ⊢
  simp only at MY BS ⊢
  have z0 := BV.out.cell 0 _ rfl
  have z1 := BV.out.cell 1 _ rfl
  have z2 := BV.out.cell 2 _ rfl
  have z3 := BV.out.cell 3 _ rfl
  have z4 := BV.out.cell 4 _ rfl
  have z5 := BV.out.cell 5 _ rfl
  have z6 := BV.out.cell 6 _ rfl
  have z7 := BV.out.cell 7 _ rfl
  go_enter Try.func19, Try.ntmps19
  go_wp2_with fail
  clear hW0 z0 z1 z2 z3 z4 z5 z6 z7
  refine (MY.out _).mono ?_
  rintro z w1 ⟨rfl, hb1⟩
  have BV := Lib.hid (BV.out.later hb1)
  have BI := Lib.hid (BI.out.later hb1)
  have CL := Lib.hid (CL.out.stay fun k hk => hb1.block k (CL.out.lt hk))
  have G := Lib.hid (G.out.trans (hb1.mono G.out.size))
  clear hb1 MY
  cases mv
  · have HN2 := Lib.hid (show res = (r, 1) from HD.out)
    go_wp2_with fail
    go_ret
    exact ⟨ret_ii (by rw [HN2.out]), S, h, by rw [HN2.out]; exact SAME.out _ G.out, fun i hi => .inl hi, KEPT.out _ G.out, fun _ h0 => by (rw [HN2.out] at h0; cases h0), fun _ => rfl⟩
  · have b0 := BI.out.cell 0 _ rfl
    have z0 := BV.out.cell 0 _ rfl
    go_wp2_with fail
    have HI : (fun W => W = w1.drew) w1.drew := rfl
    refine regk_start [6] (fun W => W = w1.drew) (by kernel_rfl) ?_
    refine regk_free 0 15 (v := ?_) (T' := ?_) (fun _ => HI) (by kernel_rfl) (by kernel_rfl) (by kernel_rfl) (by kernel_rfl) (fun _ _ _ h => h) (fun o ho => ?_) ?_ ?_
    rotate_left 2
    · cases ho
      refine ⟨rfl, rfl, fun W => ?_⟩
      go_simp; (try with_reducible rfl)
    · simp only [List.setIfInBounds_toArray, List.set_cons_succ, List.set_cons_zero]; exact rfl
    refine regk_take 1 16 (v := ?_) (T' := ?_) HI (by kernel_rfl) (by kernel_rfl) (by kernel_rfl) (by kernel_rfl) (by kernel_rfl) (by kernel_rfl) (fun _ _ _ h => h) (fun o ho => ?_) ?_ ?_
    rotate_left 2
    · cases ho
      refine ⟨rfl, rfl, fun W hW => ?_⟩
      have hW := (show W = _ from hW); subst hW; go_simp; (try with_reducible rfl)
    · simp only [List.setIfInBounds_toArray, List.set_cons_succ, List.set_cons_zero]; exact rfl
    refine regk_free 2 17 (v := ?_) (T' := ?_) (fun _ => HI) (by kernel_rfl) (by kernel_rfl) (by kernel_rfl) (by kernel_rfl) (fun _ _ _ h => h) (fun o ho => ?_) ?_ ?_
    rotate_left 2
    · cases ho
      refine ⟨rfl, rfl, fun W => ?_⟩
      go_simp; (try with_reducible rfl)
    · simp only [List.setIfInBounds_toArray, List.set_cons_succ, List.set_cons_zero]; exact rfl
    refine regk_take 3 18 (v := ?_) (T' := ?_) HI (by kernel_rfl) (by kernel_rfl) (by kernel_rfl) (by kernel_rfl) (by kernel_rfl) (by kernel_rfl) (fun _ _ _ h => h) (fun o ho => ?_) ?_ ?_
    rotate_left 2
    · cases ho
      refine ⟨rfl, rfl, fun W hW => ?_⟩
      have hW := (show W = _ from hW); subst hW; go_simp; (try with_reducible rfl)
    · simp only [List.setIfInBounds_toArray, List.set_cons_succ, List.set_cons_zero]; exact rfl
    refine regk_free 4 19 (v := ?_) (T' := ?_) (fun _ => HI) (by kernel_rfl) (by kernel_rfl) (by kernel_rfl) (by kernel_rfl) (fun _ _ _ h => h) (fun o ho => ?_) ?_ ?_
    rotate_left 2
    · cases ho
      refine ⟨rfl, rfl, fun W => ?_⟩
      go_simp; (try with_reducible rfl)
    · simp only [List.setIfInBounds_toArray, List.set_cons_succ, List.set_cons_zero]; exact rfl
    refine regk_take 5 20 (v := ?_) (T' := ?_) HI (by kernel_rfl) (by kernel_rfl) (by kernel_rfl) (by kernel_rfl) (by kernel_rfl) (by kernel_rfl) (fun _ _ _ h => h) (fun o ho => ?_) ?_ ?_
    rotate_left 2
    · cases ho
      refine ⟨rfl, rfl, fun W hW => ?_⟩
      have hW := (show W = _ from hW); subst hW; go_simp; (try with_reducible rfl)
    · simp only [List.setIfInBounds_toArray, List.set_cons_succ, List.set_cons_zero]; exact rfl
    refine regk_call (I' := (fun W => W = w1.drew)) (fun _ h => h) 6 21 (by kernel_rfl) 28 #[.pointer (some ⟨b, 0, none⟩), .string kk] (fun o ho => by cases ho; exact ⟨rfl, rfl, fun W => by go_simp⟩) ?_
    refine (GT.out _ (show ChL n w1.drew S0 _ l Ls from CL.out.stay fun k hk => rfl)).mono ?_
    rintro e w2 ⟨u, rfl, hu, eu, hb2⟩
    have GN := Lib.hid (show Below w1.heap.size w1 w2 from ((Below.refl _ w1).drewN 1).trans hb2)
    have RQ := Lib.hid hu
    have EU := Lib.hid eu
    obtain ⟨A1, c1, rfl, -⟩ := hu
    clear hb2 eu
    refine ⟨_, _, rfl, noB_no (by kernel_rfl), (by simp only [List.setIfInBounds_toArray, List.set_cons_succ, List.set_cons_zero]; exact rfl), ?_⟩
    refine regk_free 7 14 (v := ?_) (T' := ?_) (noB_no (by kernel_rfl)) (by kernel_rfl) (by kernel_rfl) (by kernel_rfl) (by kernel_rfl) (fun _ _ _ h => h) (fun o ho => ?_) ?_ ?_
    rotate_left 2
    · cases ho
      refine ⟨rfl, rfl, fun W => ?_⟩
      go_simp; (try with_reducible rfl)
    · simp only [List.setIfInBounds_toArray, List.set_cons_succ, List.set_cons_zero]; exact rfl
    refine regk_free 8 22 (v := ?_) (T' := ?_) (noB_no (by kernel_rfl)) (by kernel_rfl) (by kernel_rfl) (by kernel_rfl) (by kernel_rfl) (fun _ _ _ h => h) (fun o ho => ?_) ?_ ?_
    rotate_left 2
    · cases ho
      refine ⟨rfl, rfl, fun W => ?_⟩
      go_simp; (try with_reducible rfl)
    · simp only [List.setIfInBounds_toArray, List.set_cons_succ, List.set_cons_zero]; exact rfl
    refine regk_free 9 23 (v := ?_) (T' := ?_) (noB_no (by kernel_rfl)) (by kernel_rfl) (by kernel_rfl) (by kernel_rfl) (by kernel_rfl) (fun _ _ _ h => h) (fun o ho => ?_) ?_ ?_
    rotate_left 2
    · cases ho
      refine ⟨rfl, rfl, fun W => ?_⟩
      go_simp; (try with_reducible rfl)
    · simp only [List.setIfInBounds_toArray, List.set_cons_succ, List.set_cons_zero]; exact rfl
    refine regk_free 10 7 (v := ?_) (T' := ?_) (noB_no (by kernel_rfl)) (by kernel_rfl) (by kernel_rfl) (by kernel_rfl) (by kernel_rfl) (fun _ _ _ h => h) (fun o ho => ?_) ?_ ?_
    rotate_left 2
    · cases ho
      refine ⟨rfl, rfl, fun W => ?_⟩
      go_simp; (try with_reducible rfl)
    · simp only [List.setIfInBounds_toArray, List.set_cons_succ, List.set_cons_zero]; exact rfl
    refine regk_free 11 8 (v := ?_) (T' := ?_) (noB_no (by kernel_rfl)) (by kernel_rfl) (by kernel_rfl) (by kernel_rfl) (by kernel_rfl) (fun _ _ _ h => h) (fun o ho => ?_) ?_ ?_
    rotate_left 2
    · cases ho
      refine ⟨rfl, rfl, fun W => ?_⟩
      go_simp; (try with_reducible rfl)
    · simp only [List.setIfInBounds_toArray, List.set_cons_succ, List.set_cons_zero]; exact rfl
    refine regk_done (by kernel_rfl) ?_
    have BV := Lib.hid (BV.out.later GN.out)
    have BI := Lib.hid (BI.out.later GN.out)
    have CL := Lib.hid (CL.out.stay fun k hk => GN.out.block k (CL.out.lt hk))
    have G := Lib.hid (G.out.trans (GN.out.mono G.out.size))
    clear b0 z0 GN GT
    have z0 := BV.out.cell 0 _ rfl
    have z1 := BV.out.cell 1 _ rfl
    have z2 := BV.out.cell 2 _ rfl
    have z3 := BV.out.cell 3 _ rfl
    have z4 := BV.out.cell 4 _ rfl
    have z5 := BV.out.cell 5 _ rfl
    have z6 := BV.out.cell 6 _ rfl
    have z7 := BV.out.cell 7 _ rfl
    go_wp2_with fail
    refine (BS.out _ _ RQ.out).mono ?_
    rintro z w3 ⟨ix, rfl, hf, hb3⟩
    have FO := Lib.hid hf
    have AN := Lib.hid ((FAN.out ix hf).trans ANY.out.symm)
    have BV := Lib.hid (BV.out.later hb3)
    have BI := Lib.hid (BI.out.later hb3)
    have CL := Lib.hid (CL.out.stay fun k hk => hb3.block k (CL.out.lt hk))
    have G := Lib.hid (G.out.trans (hb3.mono G.out.size))
    clear hb3 hf BS z0 z1 z2 z3 z4 z5 z6 z7 RQ
    rw [AN.out]
    cases av
    rotate_left
    · have HN2 := Lib.hid (show res = (r, 9) from HD.out)
      go_wp2_with fail
      go_ret
      exact ⟨ret_ii (by rw [HN2.out]), S, h, by rw [HN2.out]; exact SAME.out _ G.out, fun i hi => .inl hi, KEPT.out _ G.out, fun _ h0 => by (rw [HN2.out] at h0; cases h0), fun _ => rfl⟩
    · have HN2 := Lib.hid (show res = (inr, 0) from HD.out)
      have b0 := BI.out.cell 0 _ rfl
      have z0 := BV.out.cell 0 _ rfl
      have z1 := BV.out.cell 1 _ rfl
      have z2 := BV.out.cell 2 _ rfl
      have z3 := BV.out.cell 3 _ rfl
      have z4 := BV.out.cell 4 _ rfl
      have z5 := BV.out.cell 5 _ rfl
      have z6 := BV.out.cell 6 _ rfl
      have z7 := BV.out.cell 7 _ rfl
      obtain ⟨W4, hW4⟩ : ∃ W4, w3.drew.alloc (.cells #[.string kk, .int .i64 bb, .int .i64 ee, .int .i64 ss, .int .i64 xx, .int .i64 yy, .string uu, .bool gg] 47) = W4 := ⟨_, rfl⟩
      have hb4 : Below w3.heap.size w3 W4 := by rw [← hW4]; exact ((Below.refl _ w3).drewN 1).alloc (Nat.le_refl _) _
      have hs4 : W4.heap.size = w3.heap.size + 1 := by rw [← hW4]; exact World.size_alloc _ _
      have G4 := Lib.hid hb4
      have B1 := Lib.hid (show Box W4 w3.heap.size (verL.all [(⟨kk, bb, ee, ss, (xx, yy), uu, gg⟩ : Ver)]).toArray 47 from by rw [← hW4]; exact V1.out w3.drew)
      have CD := Lib.hid (show ChL n w3.drew S0 (.pointer (some ⟨b, 0, none⟩)) l Ls from CL.out.stay fun k hk => rfl)
      obtain ⟨ow1, ow2⟩ := OWN.out _ CD.out
      rw [← EU.out] at ow1 ow2
      have hno : q.any (alikeV (⟨kk, bb, ee, ss, (xx, yy), uu, gg⟩ : Ver)) = false := ANY.out.symm
      have hins := INS.out ix FO.out hno
      have PI := Lib.hid (p_insert (.slice A1 q.length c1) q ⟨kk, bb, ee, ss, (xx, yy), uu, gg⟩ ix w3.heap.size 0 W4 ((show OwnVr w3 0 _ q from ow1).on hb4) (Nat.zero_le _) FO.out.1 (by have := QL.out; omega) B1.out (fun e => by have := (ow1.lt _ e).2; exact absurd this (Nat.lt_irrefl _)))
      rw [← hins] at PI
      have OW2 := Lib.hid ow2
      have PT := Lib.hid (fun w4 t h1 h2 h3 h4 => PA.out w3.drew w4 CD.out (by rw [← ER.out]; exact HAV.out) t h1 h2 h3 h4)
      rw [← EU.out] at PT
      have hj : (fun W : World => W.cell? ⟨g, 0, none⟩ = some (.pointer (some ⟨b, 0, none⟩)) ∧ W.cell? ⟨w.heap.size, 0, none⟩ = some (.string kk) ∧ W.cell? ⟨w.heap.size, 1, none⟩ = some (.int .i64 bb) ∧ W.cell? ⟨w.heap.size, 2, none⟩ = some (.int .i64 ee) ∧ W.cell? ⟨w.heap.size, 3, none⟩ = some (.int .i64 ss) ∧ W.cell? ⟨w.heap.size, 4, none⟩ = some (.int .i64 xx) ∧ W.cell? ⟨w.heap.size, 5, none⟩ = some (.int .i64 yy) ∧ W.cell? ⟨w.heap.size, 6, none⟩ = some (.string uu) ∧ W.cell? ⟨w.heap.size, 7, none⟩ = some (.bool gg)) W4 := ⟨Box.cell (BI.out.later hb4) 0 _ rfl, Box.cell (BV.out.later hb4) 0 _ rfl, Box.cell (BV.out.later hb4) 1 _ rfl, Box.cell (BV.out.later hb4) 2 _ rfl, Box.cell (BV.out.later hb4) 3 _ rfl, Box.cell (BV.out.later hb4) 4 _ rfl, Box.cell (BV.out.later hb4) 5 _ rfl, Box.cell (BV.out.later hb4) 6 _ rfl, Box.cell (BV.out.later hb4) 7 _ rfl⟩
      have J4 := Lib.hid hj
      have S4 := Lib.hid hs4
      have HW4 := Lib.hid hW4
      clear hb4 hs4 hj ow1 ow2 hno hins hW4
      go_wp2_with fail
      have HI : (fun W : World => W.cell? ⟨g, 0, none⟩ = some (.pointer (some ⟨b, 0, none⟩)) ∧ W.cell? ⟨w.heap.size, 0, none⟩ = some (.string kk) ∧ W.cell? ⟨w.heap.size, 1, none⟩ = some (.int .i64 bb) ∧ W.cell? ⟨w.heap.size, 2, none⟩ = some (.int .i64 ee) ∧ W.cell? ⟨w.heap.size, 3, none⟩ = some (.int .i64 ss) ∧ W.cell? ⟨w.heap.size, 4, none⟩ = some (.int .i64 xx) ∧ W.cell? ⟨w.heap.size, 5, none⟩ = some (.int .i64 yy) ∧ W.cell? ⟨w.heap.size, 6, none⟩ = some (.string uu) ∧ W.cell? ⟨w.heap.size, 7, none⟩ = some (.bool gg)) w3.drew := ⟨b0, z0, z1, z2, z3, z4, z5, z6, z7⟩
      refine regk_start [12] (fun W : World => W.cell? ⟨g, 0, none⟩ = some (.pointer (some ⟨b, 0, none⟩)) ∧ W.cell? ⟨w.heap.size, 0, none⟩ = some (.string kk) ∧ W.cell? ⟨w.heap.size, 1, none⟩ = some (.int .i64 bb) ∧ W.cell? ⟨w.heap.size, 2, none⟩ = some (.int .i64 ee) ∧ W.cell? ⟨w.heap.size, 3, none⟩ = some (.int .i64 ss) ∧ W.cell? ⟨w.heap.size, 4, none⟩ = some (.int .i64 xx) ∧ W.cell? ⟨w.heap.size, 5, none⟩ = some (.int .i64 yy) ∧ W.cell? ⟨w.heap.size, 6, none⟩ = some (.string uu) ∧ W.cell? ⟨w.heap.size, 7, none⟩ = some (.bool gg)) (by kernel_rfl) ?_
      refine regk_free 0 31 (v := ?_) (T' := ?_) (fun _ => HI) (by kernel_rfl) (by kernel_rfl) (by kernel_rfl) (by kernel_rfl) (fun _ _ _ h => h) (fun o ho => ?_) ?_ ?_
      rotate_left 2
      · cases ho
        refine ⟨rfl, rfl, fun W => ?_⟩
        go_simp; (try with_reducible rfl)
      · simp only [List.setIfInBounds_toArray, List.set_cons_succ, List.set_cons_zero]; exact rfl
      refine regk_take 1 32 (v := ?_) (T' := ?_) HI (by kernel_rfl) (by kernel_rfl) (by kernel_rfl) (by kernel_rfl) (by kernel_rfl) (by kernel_rfl) (fun _ _ _ h => h) (fun o ho => ?_) ?_ ?_
      rotate_left 2
      · cases ho
        refine ⟨rfl, rfl, fun W hW => ?_⟩
        obtain ⟨a0, a1, a2, a3, a4, a5, a6, a7, a8⟩ := hW; go_simp; (try with_reducible rfl)
      · simp only [List.setIfInBounds_toArray, List.set_cons_succ, List.set_cons_zero]; exact rfl
      refine regk_free 2 33 (v := ?_) (T' := ?_) (fun _ => HI) (by kernel_rfl) (by kernel_rfl) (by kernel_rfl) (by kernel_rfl) (fun _ _ _ h => h) (fun o ho => ?_) ?_ ?_
      rotate_left 2
      · cases ho
        refine ⟨rfl, rfl, fun W => ?_⟩
        go_simp; (try with_reducible rfl)
      · simp only [List.setIfInBounds_toArray, List.set_cons_succ, List.set_cons_zero]; exact rfl
      refine regk_take 3 34 (v := ?_) (T' := ?_) HI (by kernel_rfl) (by kernel_rfl) (by kernel_rfl) (by kernel_rfl) (by kernel_rfl) (by kernel_rfl) (fun _ _ _ h => h) (fun o ho => ?_) ?_ ?_
      rotate_left 2
      · cases ho
        refine ⟨rfl, rfl, fun W hW => ?_⟩
        obtain ⟨a0, a1, a2, a3, a4, a5, a6, a7, a8⟩ := hW; go_simp; (try with_reducible rfl)
      · simp only [List.setIfInBounds_toArray, List.set_cons_succ, List.set_cons_zero]; exact rfl
      refine regk_free 4 35 (v := ?_) (T' := ?_) (fun _ => HI) (by kernel_rfl) (by kernel_rfl) (by kernel_rfl) (by kernel_rfl) (fun _ _ _ h => h) (fun o ho => ?_) ?_ ?_
      rotate_left 2
      · cases ho
        refine ⟨rfl, rfl, fun W => ?_⟩
        go_simp; (try with_reducible rfl)
      · simp only [List.setIfInBounds_toArray, List.set_cons_succ, List.set_cons_zero]; exact rfl
      refine regk_take 5 36 (v := ?_) (T' := ?_) HI (by kernel_rfl) (by kernel_rfl) (by kernel_rfl) (by kernel_rfl) (by kernel_rfl) (by kernel_rfl) (fun _ _ _ h => h) (fun o ho => ?_) ?_ ?_
      rotate_left 2
      · cases ho
        refine ⟨rfl, rfl, fun W hW => ?_⟩
        obtain ⟨a0, a1, a2, a3, a4, a5, a6, a7, a8⟩ := hW; go_simp; (try with_reducible rfl)
      · simp only [List.setIfInBounds_toArray, List.set_cons_succ, List.set_cons_zero]; exact rfl
      refine regk_free 6 37 (v := ?_) (T' := ?_) (fun _ => HI) (by kernel_rfl) (by kernel_rfl) (by kernel_rfl) (by kernel_rfl) (fun _ _ _ h => h) (fun o ho => ?_) ?_ ?_
      rotate_left 2
      · cases ho
        refine ⟨rfl, rfl, fun W => ?_⟩
        go_simp; (try with_reducible rfl)
      · simp only [List.setIfInBounds_toArray, List.set_cons_succ, List.set_cons_zero]; exact rfl
      refine regk_free 7 38 (v := ?_) (T' := ?_) (fun _ => HI) (by kernel_rfl) (by kernel_rfl) (by kernel_rfl) (by kernel_rfl) (fun _ _ _ h => h) (fun o ho => ?_) ?_ ?_
      rotate_left 2
      · cases ho
        refine ⟨rfl, rfl, fun W => ?_⟩
        go_simp; (try with_reducible rfl)
      · simp only [List.setIfInBounds_toArray, List.set_cons_succ, List.set_cons_zero]; exact rfl
      refine regk_free 8 39 (v := ?_) (T' := ?_) (fun _ => HI) (by kernel_rfl) (by kernel_rfl) (by kernel_rfl) (by kernel_rfl) (fun _ _ _ h => h) (fun o ho => ?_) ?_ ?_
      rotate_left 2
      · cases ho
        refine ⟨rfl, rfl, fun W => ?_⟩
        go_simp; (try with_reducible rfl)
      · simp only [List.setIfInBounds_toArray, List.set_cons_succ, List.set_cons_zero]; exact rfl
      refine regk_take 9 40 (v := ?_) (T' := ?_) HI (by kernel_rfl) (by kernel_rfl) (by kernel_rfl) (by kernel_rfl) (by kernel_rfl) (by kernel_rfl) (fun _ _ _ h => h) (fun o ho => ?_) ?_ ?_
      rotate_left 2
      · cases ho
        refine ⟨rfl, rfl, fun W hW => ?_⟩
        obtain ⟨a0, a1, a2, a3, a4, a5, a6, a7, a8⟩ := hW; go_simp; (try with_reducible rfl)
      · simp only [List.setIfInBounds_toArray, List.set_cons_succ, List.set_cons_zero]; exact rfl
      refine regk_make (I' := (fun W : World => W.cell? ⟨g, 0, none⟩ = some (.pointer (some ⟨b, 0, none⟩)) ∧ W.cell? ⟨w.heap.size, 0, none⟩ = some (.string kk) ∧ W.cell? ⟨w.heap.size, 1, none⟩ = some (.int .i64 bb) ∧ W.cell? ⟨w.heap.size, 2, none⟩ = some (.int .i64 ee) ∧ W.cell? ⟨w.heap.size, 3, none⟩ = some (.int .i64 ss) ∧ W.cell? ⟨w.heap.size, 4, none⟩ = some (.int .i64 xx) ∧ W.cell? ⟨w.heap.size, 5, none⟩ = some (.int .i64 yy) ∧ W.cell? ⟨w.heap.size, 6, none⟩ = some (.string uu) ∧ W.cell? ⟨w.heap.size, 7, none⟩ = some (.bool gg))) (fun _ h => h) 10 41 (v := .slice (some ⟨w3.heap.size, 0, none⟩) 1 1) (w' := W4) (T' := ?_) (by kernel_rfl) (fun o ho => ?_) (fun _ => J4.out) ?_ ?_
      rotate_left
      · cases ho
        refine ⟨rfl, rfl, ?_⟩
        rw [← HW4.out]
        go_simp; (try (constructor <;> with_reducible rfl)); (try with_reducible rfl)
      · simp only [List.setIfInBounds_toArray, List.set_cons_succ, List.set_cons_zero]; exact rfl
      refine regk_call (I' := (fun W : World => W.cell? ⟨g, 0, none⟩ = some (.pointer (some ⟨b, 0, none⟩)) ∧ W.cell? ⟨w.heap.size, 0, none⟩ = some (.string kk) ∧ W.cell? ⟨w.heap.size, 1, none⟩ = some (.int .i64 bb) ∧ W.cell? ⟨w.heap.size, 2, none⟩ = some (.int .i64 ee) ∧ W.cell? ⟨w.heap.size, 3, none⟩ = some (.int .i64 ss) ∧ W.cell? ⟨w.heap.size, 4, none⟩ = some (.int .i64 xx) ∧ W.cell? ⟨w.heap.size, 5, none⟩ = some (.int .i64 yy) ∧ W.cell? ⟨w.heap.size, 6, none⟩ = some (.string uu) ∧ W.cell? ⟨w.heap.size, 7, none⟩ = some (.bool gg))) (fun _ h => h) 11 42 (by kernel_rfl) 42 #[.slice A1 q.length c1, .int .i64 ix, .slice (some ⟨w3.heap.size, 0, none⟩) 1 1] (fun o ho => by cases ho; exact ⟨rfl, rfl, fun W => by go_simp⟩) ?_
      refine PI.out.mono ?_
      rintro e w4 ⟨v4, rfl, ho4, hg4⟩
      have OH4 := Lib.hid ho4
      have HG4 := Lib.hid hg4
      obtain ⟨A4, c4, rfl, -⟩ := ho4.rd
      have low : ∀ k, k < w3.heap.size → (Value.slice A1 q.length c1).ownBlock ≠ some k → w4.heap[k]? = w3.heap[k]? := fun k hk hne => (hg4.grown.block k (by rw [S4.out]; omega) fun e => hne e.symm).trans (G4.out.block k hk)
      have LOW := Lib.hid low
      have gne : (Value.slice A1 q.length c1).ownBlock ≠ some g := fun e => GS.out (OW2.out g e)
      have vne : (Value.slice A1 q.length c1).ownBlock ≠ some w.heap.size := fun e => by have := LT.out _ (OW2.out _ e); omega
      have bi4 := (low g (by have := GLT.out; have := G.out.size; omega) gne).trans BI.out
      have bv4 := (low w.heap.size (BV.out.lt) vne).trans BV.out
      have hj : (fun W : World => W.cell? ⟨g, 0, none⟩ = some (.pointer (some ⟨b, 0, none⟩)) ∧ W.cell? ⟨w.heap.size, 0, none⟩ = some (.string kk) ∧ W.cell? ⟨w.heap.size, 1, none⟩ = some (.int .i64 bb) ∧ W.cell? ⟨w.heap.size, 2, none⟩ = some (.int .i64 ee) ∧ W.cell? ⟨w.heap.size, 3, none⟩ = some (.int .i64 ss) ∧ W.cell? ⟨w.heap.size, 4, none⟩ = some (.int .i64 xx) ∧ W.cell? ⟨w.heap.size, 5, none⟩ = some (.int .i64 yy) ∧ W.cell? ⟨w.heap.size, 6, none⟩ = some (.string uu) ∧ W.cell? ⟨w.heap.size, 7, none⟩ = some (.bool gg)) w4 := ⟨Box.cell bi4 0 _ rfl, Box.cell bv4 0 _ rfl, Box.cell bv4 1 _ rfl, Box.cell bv4 2 _ rfl, Box.cell bv4 3 _ rfl, Box.cell bv4 4 _ rfl, Box.cell bv4 5 _ rfl, Box.cell bv4 6 _ rfl, Box.cell bv4 7 _ rfl⟩
      have J5 := Lib.hid hj
      clear ho4 hg4 low gne vne bi4 bv4 hj
      refine ⟨_, _, rfl, fun _ => J5.out, (by simp only [List.setIfInBounds_toArray, List.set_cons_succ, List.set_cons_zero]; exact rfl), ?_⟩
      refine regk_call (I' := (fun W : World => W.cell? ⟨g, 0, none⟩ = some (.pointer (some ⟨b, 0, none⟩)) ∧ W.cell? ⟨w.heap.size, 0, none⟩ = some (.string kk) ∧ W.cell? ⟨w.heap.size, 1, none⟩ = some (.int .i64 bb) ∧ W.cell? ⟨w.heap.size, 2, none⟩ = some (.int .i64 ee) ∧ W.cell? ⟨w.heap.size, 3, none⟩ = some (.int .i64 ss) ∧ W.cell? ⟨w.heap.size, 4, none⟩ = some (.int .i64 xx) ∧ W.cell? ⟨w.heap.size, 5, none⟩ = some (.int .i64 yy) ∧ W.cell? ⟨w.heap.size, 6, none⟩ = some (.string uu) ∧ W.cell? ⟨w.heap.size, 7, none⟩ = some (.bool gg))) (fun _ h => h) 12 43 (by kernel_rfl) 41 #[.pointer (some ⟨b, 0, none⟩), .string kk, .int .i64 lv, .slice A4 (insA (⟨kk, bb, ee, ss, (xx, yy), uu, gg⟩ : Ver) q).length c4] (fun o ho => by cases ho; exact ⟨rfl, rfl, fun W => by go_simp⟩) ?_
      refine (PT.out w4 ⟨A4, (insA (⟨kk, bb, ee, ss, (xx, yy), uu, gg⟩ : Ver) q).length, c4⟩ (by have := S4.out; have := HG4.out.grown.size; show w3.heap.size ≤ _; omega) LOW.out OH4.out (fun k hk => by
        rcases HG4.out.own with e | ⟨g2, e, h2⟩
        · exact .inl (e.symm.trans hk)
        · right
          rw [show (slV ⟨A4, (insA (⟨kk, bb, ee, ss, (xx, yy), uu, gg⟩ : Ver) q).length, c4⟩ : Value) = .slice A4 (insA (⟨kk, bb, ee, ss, (xx, yy), uu, gg⟩ : Ver) q).length c4 from rfl, e] at hk
          injection hk with hk
          subst hk
          have := S4.out
          show w3.heap.size ≤ _
          omega)).mono ?_
      rintro e w5 ⟨⟨bz, rfl⟩, S', l', Ls', hc5, hf5, hs5, hk5, hh1, hh2⟩
      have C5 := Lib.hid hc5
      have F5 := Lib.hid hf5
      have S5 := Lib.hid hs5
      have K5 := Lib.hid hk5
      have H1 := Lib.hid hh1
      have H2 := Lib.hid hh2
      clear hc5 hf5 hs5 hk5 hh1 hh2
      refine ⟨_, _, rfl, noB_no (by kernel_rfl), (by simp only [List.setIfInBounds_toArray, List.set_cons_succ, List.set_cons_zero]; exact rfl), ?_⟩
      refine regk_done (by kernel_rfl) ?_
      have hb04 : Below 0 w3 w4 := (G4.out.mono (Nat.zero_le _)).trans (HG4.out.below (Nat.zero_le _) (fun k hk => Nat.zero_le _))
      obtain ⟨B5, CE, SE, KE⟩ := turn_end (m := (r.length : Int) + 1) G.out GLT.out GS.out LT.out HS.out BI.out LOW.out OW2.out hb04 K5.out C5.out (F5.out.trans IR.out) S5.out (by rw [IRL.out]; rfl)
      have b1 := B5.cell 1 _ rfl
      have f1 := B5.frozen 1
      have hw64 : IntKind.i64.wrap ((r.length : Int) + 1) = (r.length : Int) + 1 := by rw [IntKind.wrap_i64]; have := HR.out; omega
      have CE := Lib.hid CE
      have SE := Lib.hid SE
      have KE := Lib.hid KE
      clear b0 z0 z1 z2 z3 z4 z5 z6 z7 HI B5 hb04
      go_wp2_with fail
      go_ret
      exact ⟨ret_ii (by rw [HN2.out]), _, _, by rw [HN2.out]; exact CE.out, SE.out, KE.out, fun e _ => H1.out (by rw [← ER.out]; exact e), fun x hx hxk => (H2.out (HFK.out.1 ⟨x, hx, hxk⟩)).trans EH.out.symm⟩
end Go.Proofs.Ytigdkflknhdbgaa
