/- MergeEnds: what is told one by one may be ended anywhere: any lists (the first 5, the first 12 of each, sorted), any number. No conditions. -/
import Derived.Test.YtnioiojafnkmhaaNm
import Derived.Test.YtnioiojafnkmhaaMo
import Derived.ChangeMaps5
import Derived.TacticsInMore
import Derived.OwnWalkIn
namespace Go.Proofs.Ytnioiojafnkmhaa.L02
open Go.RowKit Go.ChangeShapes Go.WideShapes Go.ChangeAt Go.Shelf
set_option linter.unusedVariables false
attribute [local go_sem] Oper.semAt_some

set_option maxHeartbeats 8000000 in
set_option maxRecDepth 100000 in
theorem walk (v : Value) (ls : List (List Ver)) (n : Int) (w : World) (h : RdXX verL w w.heap.size v ls) (hn : -9223372036854775808 ≤ n ∧ n ≤ 9223372036854775807) :
    Calls Try.prog 4 #[v, .int .i64 n] w fun e w' => e = .returned (.bool true) ∧ Below w.heap.size w w' := by
  have LV := Lib.hid (law10_lives num_k)
  have FLN := Lib.hid (Nat.le_trans (lists_flat ls) (show 60 ≤ 1000 from by decide))
  have ASC := Lib.hid (lists_asc (ls.take 5))
  have HL5 := Lib.hid (show (listsV (ls.take 5)).length ≤ 1000 from by simp only [listsV, List.length_map, List.length_take]; omega)
  have hb0 := alloc_below w (.cells #[.int .i64 n] 3)
  have HL := Lib.hid (law10_lists v ls _ (h.on hb0))
  have BN := Lib.hid (Boxed.new w 3 (.int .i64 n))
  have Z0 := Lib.hid (show (w.alloc (.cells #[.int .i64 n] 3)).heap.size = w.heap.size + 1 from by simp)
  have G := Lib.hid hb0
  obtain ⟨A, ca, rfl, -⟩ := h.form
  clear h hb0
  generalize listsV (ls.take 5) = LS at *
  refine (callsIn_wide (n := 4)).1 ?_
  refine callsIn_of_wp_marks Try.func4 rfl trivial ?_ rfl
  simp only [Try.ntmps4, List.size_toArray, List.length_cons, List.length_nil, Nat.reduceAdd, Nat.reduceSub, Array.replicate_succ, Array.replicate_zero, List.push_toArray, List.append_toArray, List.nil_append, List.cons_append]
  gi_wp2_with fail
  generalize w.alloc (.cells #[.int .i64 n] 3) = W0 at *
  refine ⟨trivial, (callsIn_wide.2 HL.out).mono ?_⟩
  rintro z w1 ⟨v1, rfl, ho1, hb1⟩
  have O1 := Lib.hid ho1
  have G := Lib.hid (G.out.trans (hb1.mono G.out.size))
  have BN := Lib.hid (show Boxed w1 w.heap.size 3 (.int .i64 n) from (hb1.block _ BN.out.lt).trans BN.out)
  have HS1 := Lib.hid (show w.heap.size + 1 ≤ w1.heap.size from by have := Z0.out; have := hb1.size; omega)
  obtain ⟨A1, c1, e1, -⟩ := ho1.rd.form
  subst e1
  clear ho1 hb1 HL
  gi_wp2_with fail
  refine ⟨trivial, (callsIn_wide.2 (ref10_versions _ LS _ O1.out.rd FLN.out)).mono ?_⟩
  rintro z w2 ⟨v2, rfl, ho2, hb2⟩
  have O1 := Lib.hid (O1.out.on hb2)
  have O2 := Lib.hid (OwnX.mono ho2 HS1.out)
  have G := Lib.hid (G.out.trans (hb2.mono G.out.size))
  have BN := Lib.hid (show Boxed w2 w.heap.size 3 (.int .i64 n) from (hb2.block _ BN.out.lt).trans BN.out)
  obtain ⟨A2, c2, e2, -⟩ := ho2.rd
  subst e2
  clear ho2 hb2
  generalize hXS : sortR lessV LS.flatten = XS at *
  have HXS := Lib.hid hXS
  have HXL := Lib.hid (show XS.length ≤ 1000 from by rw [← hXS, sortR_len]; exact FLN.out)
  clear hXS
  obtain ⟨p, hp⟩ : ∃ p : Nat, (n < 0 ∧ n = -((p : Int) + 1)) ∨ (0 ≤ n ∧ n = (p : Int)) := by
    rcases Int.lt_or_le n 0 with h | h
    · exact ⟨(-(n + 1)).toNat, .inl ⟨h, by omega⟩⟩
    · exact ⟨n.toNat, .inr ⟨h, by omega⟩⟩
  have hq1 : (p : Int) % 20 = ((p % 20 : Nat) : Int) := by omega
  have hq2 : Int.tmod (p : Int) 20 = ((p % 20 : Nat) : Int) := rfl
  have HQ := Lib.hid (show p % 20 < 20 from Nat.mod_lt _ (by decide))
  generalize p % 20 = q at *
  have hne : ∀ k, (Value.slice A2 XS.length c2).ownBlock = some k → k ≠ w.heap.size := fun k hk e => by have := O2.out.base k hk; omega
  have HNE := Lib.hid hne
  clear hne
  have cn := BN.out.cell
  have fn := BN.out.frozen
  rcases hp with ⟨hneg, hp⟩ | ⟨hneg, hp⟩
  · skip
    subst hp
    have hnn : -(-((p : Int) + 1) + 1) = (p : Int) := by omega
    have zn : decide (-((p : Int) + 1) < 0) = true := by simp only [decide_eq_true_eq]; omega
    have wn : IntKind.i64.wrap (-((p : Int) + 1) + 1) = -((p : Int) + 1) + 1 := by rw [IntKind.wrap_i64]; omega
    have wm : IntKind.i64.wrap (p : Int) = (p : Int) := by rw [IntKind.wrap_i64]; omega
    have cn2 := (BN.out.set (.int .i64 (p : Int))).cell
    have fn2 := (BN.out.set (.int .i64 (p : Int))).frozen
    have hg : w2.grownBy ((w2.setCell ⟨w.heap.size, 0, none⟩ (.int .i64 (p : Int))).setCell ⟨w.heap.size, 0, none⟩ (.int .i64 (q : Int))) (some w.heap.size) := ⟨rfl, rfl, rfl, by simp [World.setCell], fun i hi hx => (Below.heap_setCell _ ⟨w.heap.size, 0, none⟩ _ i (fun e => hx (by rw [e]))).trans (Below.heap_setCell _ ⟨w.heap.size, 0, none⟩ _ i (fun e => hx (by rw [e])))⟩
    have BQ := Lib.hid ((BN.out.set (.int .i64 (p : Int))).set (.int .i64 (q : Int)))
    have HG := Lib.hid hg
    clear hg hneg
    gi_wp2_with fail
    have SM := Lib.hid ref6_same
    have OX := Lib.hid (O1.out.keep HG.out (fun j hj cs t f hb => by
      cases hj
      rw [show w2.heap[w.heap.size]? = _ from BN.out] at hb
      cases hb
      exact ⟨by decide, by decide⟩))
    have QX := Lib.hid (O2.out.keep HG.out (by
      cases hq : (Value.slice A2 XS.length c2).ownBlock with
      | none => exact .inl rfl
      | some k => exact .inr fun e => HNE.out k hq (by cases e; rfl)))
    have GX := Lib.hid ((Below.refl w.heap.size w).trans (G.out.grown HG.out G.out.size (fun k hk => by cases hk; exact Nat.le_refl _)))
    have hsz : (((w2.setCell ⟨w.heap.size, 0, none⟩ (.int .i64 (p : Int))).setCell ⟨w.heap.size, 0, none⟩ (.int .i64 (q : Int)))).heap.size = w2.heap.size := by simp [World.setCell]
    generalize ((w2.setCell ⟨w.heap.size, 0, none⟩ (.int .i64 (p : Int))).setCell ⟨w.heap.size, 0, none⟩ (.int .i64 (q : Int))) = W3 at *
    have HW3 := Lib.hid hsz
    clear hsz cn fn HG O1 O2 G BN
    have hb5 := alloc_below W3 (.cells #[.slice none 0 0] 24)
    have B5 := Lib.hid (show Boxed (W3.alloc (.cells #[.slice none 0 0] 24)) w2.heap.size 24 (.slice none 0 0) from by rw [← HW3.out]; exact Boxed.new W3 _ _)
    have R5 := Lib.hid (OX.out.rd.on hb5)
    have Q5 := Lib.hid (QX.out.on hb5)
    have HV := Lib.hid (show ∀ k, (Value.slice A2 XS.length c2).ownBlock = some k → k < w2.heap.size from fun k hk => by have := (QX.out.lt k hk).2; have := HW3.out; omega)
    have N5 := Lib.hid (BQ.out.alloc (.cells #[.slice none 0 0] 24))
    have NL := Lib.hid (show w.heap.size < w2.heap.size from by have := BQ.out.lt; have := HW3.out; omega)
    have G5 := Lib.hid (GX.out.trans (hb5.mono GX.out.size))
    have Z5 := Lib.hid (show (W3.alloc (.cells #[.slice none 0 0] 24)).heap.size = w2.heap.size + 1 from by rw [← HW3.out]; simp)
    generalize W3.alloc (.cells #[.slice none 0 0] 24) = W5 at *
    clear hb5 OX QX BQ GX HW3
    refine ⟨trivial, (callsIn_wide.2 (each_k _ LS _ R5.out ASC.out FLN.out HL5.out)).mono ?_⟩
    rintro z W6 ⟨s1, s2, m, rfl, hb6, hm1, hm2, hT⟩
    have TL := Lib.hid (hT TAV True w.heap.size ta_freeV (by decide))
    have O2 := Lib.hid (Q5.out.on hb6)
    have B6 := Lib.hid (show Boxed W6 w2.heap.size 24 (.slice none 0 0) from (hb6.block _ B5.out.lt).trans B5.out)
    have N6 := Lib.hid (show Boxed W6 w.heap.size 3 (.int .i64 (q : Int)) from (hb6.block _ N5.out.lt).trans N5.out)
    have G6 := Lib.hid (G5.out.trans (hb6.mono G5.out.size))
    have M1 := Lib.hid hm1
    have M2 := Lib.hid hm2
    clear hb6 hm1 hm2 hT R5 B5 N5 Q5
    have hqf := fun (W : World) => run_eql_func_nil (P := Try.prog) W Try.underlying36 ⟨_, _, _, rfl⟩ (.func 34) #[] #[.pointer (some ⟨s1, 0, none⟩), .pointer (some ⟨s2, 0, none⟩)]
    have cn6 := N6.out.cell
    by_cases hq0 : q = 0
    · subst hq0
      have hb6c := B6.out.cell
      have zx : decide (XS.length < 0) = false := by simp
      obtain ⟨A8, c8, hcut, hrc⟩ := slX_head O2.out.rd Try.underlying24 ver_size 0 (0 : Int) rfl (Nat.zero_le _)
      have HC := Lib.hid hrc
      have H2 := Lib.hid (RdX.nil (L := verL) W6 W6.heap.size)
      have PE := Lib.hid (show ([] : List Ver) = XS.take 0 from rfl)
      have H3 := Lib.hid G6.out
      have CE := Lib.hid hb6c
      have CN := Lib.hid cn6
      have LE := Lib.hid B6.out.lt
      have LN := Lib.hid N6.out.lt
      generalize W6 = X at *
      clear hrc
      gi_wp2_with fail
      clear cn6 hb6c
      have HI : (fun W' => W'.cell? ⟨w2.heap.size, 0, none⟩ = some (.slice none 0 0) ∧ W'.cell? ⟨w.heap.size, 0, none⟩ = some (.int .i64 0)) X.drew := ⟨CE.out, CN.out⟩
      have E := easy_wide 4 Try.prog
      refine region_normal ?_
      refine regj_start [] (fun W' => W'.cell? ⟨w2.heap.size, 0, none⟩ = some (.slice none 0 0) ∧ W'.cell? ⟨w.heap.size, 0, none⟩ = some (.int .i64 0)) (by kernel_rfl) ?_
      refine regj_take E 0 43 (v := ?_) (T' := ?_) HI (by kernel_rfl) (by kernel_rfl) (by kernel_rfl) (by kernel_rfl) (by kernel_rfl) (fun _ _ _ h => by cases h.1) (fun o ho => ?_) ?_ ?_
      rotate_left 2
      · cases ho
        refine ⟨rfl, rfl, fun W hW => ?_⟩
        obtain ⟨i1, i2⟩ := hW
        go_simp; (try with_reducible rfl)
      · simp only [List.setIfInBounds_toArray, List.set_cons_succ, List.set_cons_zero]; exact rfl
      refine regj_take E 1 44 (v := ?_) (T' := ?_) HI (by kernel_rfl) (by kernel_rfl) (by kernel_rfl) (by kernel_rfl) (by kernel_rfl) (fun _ _ _ h => by cases h.1) (fun o ho => ?_) ?_ ?_
      rotate_left 2
      · cases ho
        refine ⟨rfl, rfl, fun W hW => ?_⟩
        obtain ⟨i1, i2⟩ := hW
        go_simp; (try with_reducible rfl)
      · simp only [List.setIfInBounds_toArray, List.set_cons_succ, List.set_cons_zero]; exact rfl
      refine regj_take E 2 45 (v := ?_) (T' := ?_) HI (by kernel_rfl) (by kernel_rfl) (by kernel_rfl) (by kernel_rfl) (by kernel_rfl) (fun _ _ _ h => by cases h.1) (fun o ho => ?_) ?_ ?_
      rotate_left 2
      · cases ho
        refine ⟨rfl, rfl, fun W hW => ?_⟩
        obtain ⟨i1, i2⟩ := hW
        go_simp; (try with_reducible rfl)
      · simp only [List.setIfInBounds_toArray, List.set_cons_succ, List.set_cons_zero]; exact rfl
      refine regj_take E 3 46 (v := ?_) (T' := ?_) HI (by kernel_rfl) (by kernel_rfl) (by kernel_rfl) (by kernel_rfl) (by kernel_rfl) (fun _ _ _ h => by cases h.1) (fun o ho => ?_) ?_ ?_
      rotate_left 2
      · cases ho
        refine ⟨rfl, rfl, fun W hW => ?_⟩
        obtain ⟨i1, i2⟩ := hW
        go_simp; (try with_reducible rfl)
      · simp only [List.setIfInBounds_toArray, List.set_cons_succ, List.set_cons_zero]; exact rfl
      refine regj_call E (I' := (fun W' => W'.cell? ⟨w2.heap.size, 0, none⟩ = some (.slice none 0 0) ∧ W'.cell? ⟨w.heap.size, 0, none⟩ = some (.int .i64 0))) (fun _ h => h) 4 47 (by kernel_rfl) (by kernel_rfl) 11 #[.slice none 0 0, .slice A8 0 c8] (fun o ho => by cases ho; exact ⟨rfl, rfl, fun W => by go_simp⟩) ?_
      refine (SM.out _ _ _ _ X.drew (RdX.drew H2.out) (RdX.drew HC.out)).mono ?_
      rintro z y1 ⟨r, rfl, hr, hb7⟩
      obtain rfl : r = true := hr.2 PE.out
      have H3 := Lib.hid ((H3.out.drewN 1).trans (hb7.mono H3.out.size))
      have HI : (fun W' => W'.cell? ⟨w2.heap.size, 0, none⟩ = some (.slice none 0 0) ∧ W'.cell? ⟨w.heap.size, 0, none⟩ = some (.int .i64 0)) y1 := ⟨(Below.cell (p := ⟨w2.heap.size, 0, none⟩) hb7 LE.out).trans CE.out, (Below.cell (p := ⟨w.heap.size, 0, none⟩) hb7 LN.out).trans CN.out⟩
      have YS := Lib.hid hb7.size
      have hb7 := Lib.hid hb7
      refine ⟨_, _, rfl, HI, (by simp only [List.setIfInBounds_toArray, List.set_cons_succ, List.set_cons_zero]; exact rfl), ?_⟩
      refine regj_take E 5 48 (v := ?_) (T' := ?_) HI (by kernel_rfl) (by kernel_rfl) (by kernel_rfl) (by kernel_rfl) (by kernel_rfl) (fun _ _ _ h => by cases h.1) (fun o ho => ?_) ?_ ?_
      rotate_left 2
      · cases ho
        refine ⟨rfl, rfl, fun W hW => ?_⟩
        obtain ⟨i1, i2⟩ := hW
        go_simp; (try with_reducible rfl)
      · simp only [List.setIfInBounds_toArray, List.set_cons_succ, List.set_cons_zero]; exact rfl
      refine regj_call E (I' := (fun W' => W'.cell? ⟨w2.heap.size, 0, none⟩ = some (.slice none 0 0) ∧ W'.cell? ⟨w.heap.size, 0, none⟩ = some (.int .i64 0))) (fun _ h => h) 6 49 (by kernel_rfl) (by kernel_rfl) 15 #[] (fun o ho => by cases ho; exact ⟨rfl, rfl, fun W => by go_simp⟩) ?_
      refine (LV.out _).mono ?_
      rintro z y2 ⟨rfl, hb8⟩
      have H3 := Lib.hid (H3.out.trans (hb8.mono H3.out.size))
      have HI : (fun W' => W'.cell? ⟨w2.heap.size, 0, none⟩ = some (.slice none 0 0) ∧ W'.cell? ⟨w.heap.size, 0, none⟩ = some (.int .i64 0)) y2 := ⟨(Below.cell (p := ⟨w2.heap.size, 0, none⟩) hb8 (Nat.lt_of_lt_of_le LE.out YS.out)).trans HI.1, (Below.cell (p := ⟨w.heap.size, 0, none⟩) hb8 (Nat.lt_of_lt_of_le LN.out YS.out)).trans HI.2⟩
      have hb8 := Lib.hid hb8
      refine ⟨_, _, rfl, HI, (by simp only [List.setIfInBounds_toArray, List.set_cons_succ, List.set_cons_zero]; exact rfl), ?_⟩
      refine regj_take E 7 50 (v := ?_) (T' := ?_) HI (by kernel_rfl) (by kernel_rfl) (by kernel_rfl) (by kernel_rfl) (by kernel_rfl) (fun _ _ _ h => by cases h.1) (fun o ho => ?_) ?_ ?_
      rotate_left 2
      · cases ho
        refine ⟨rfl, rfl, fun W hW => ?_⟩
        obtain ⟨i1, i2⟩ := hW
        go_simp; (try with_reducible rfl)
      · simp only [List.setIfInBounds_toArray, List.set_cons_succ, List.set_cons_zero]; exact rfl
      refine regj_take E 8 4 (v := ?_) (T' := ?_) HI (by kernel_rfl) (by kernel_rfl) (by kernel_rfl) (by kernel_rfl) (by kernel_rfl) (fun _ _ _ h => by cases h.1) (fun o ho => ?_) ?_ ?_
      rotate_left 2
      · cases ho
        refine ⟨rfl, rfl, fun W hW => ?_⟩
        obtain ⟨i1, i2⟩ := hW
        go_simp; (try with_reducible rfl)
      · simp only [List.setIfInBounds_toArray, List.set_cons_succ, List.set_cons_zero]; exact rfl
      refine regj_done (by kernel_rfl) ⟨rfl, ?_⟩
      gi_wp2_with fail
      exact ⟨_, results_tmp rfl _ _ _, rfl, H3.out⟩
    · have zq : decide (0 < (q : Int)) = true := by simp; omega
      have zqn : decide (0 < q) = true := by simp; omega
      have HQ0 := Lib.hid (show 0 < q from by omega)
      clear hq0
      gi_wp2_with fail
      clear hqf cn6 zq zqn
      have hz5 := Z5.out
      have hm1 := M1.out
      have hm2 := M2.out
      have hnl := NL.out
      refine wpIn_rangeTell2 (P := Try.prog) (Z := True) (T := TAV) (Kp := fun k => W5.heap.size ≤ k ∧ k < m) (gf := 34) rfl (enters_of Try.func34 (by kernel_rfl) rfl) TL.out G6.out.size (fun k h => by omega) (Below.refl _ _) (fun _ => rfl)
        (fun pre X => ((∃ u, Boxed X w2.heap.size 24 u ∧ OwnVr X m u pre) ∧ OwnVr X (w.heap.size + 1) (.slice A2 XS.length c2) XS ∧ Boxed X w.heap.size 3 (.int .i64 (q : Int)) ∧ Below w.heap.size w X ∧ m ≤ X.heap.size) ∧ pre.length < q)
        (fun c pre X => ((∃ u, Boxed X w2.heap.size 24 u ∧ OwnVr X m u pre) ∧ OwnVr X (w.heap.size + 1) (.slice A2 XS.length c2) XS ∧ Boxed X w.heap.size 3 (.int .i64 (q : Int)) ∧ Below w.heap.size w X ∧ m ≤ X.heap.size) ∧ pre.length = q ∧ c = .exit 0)
        (fun s X Y hs htw => by
          obtain ⟨⟨⟨v, h1, h2⟩, h5, h6, h3, h4⟩, h7⟩ := hs
          exact ⟨⟨⟨v, htw.cells _ _ _ _ h1 (by decide), htw.own h2 (by decide)⟩, htw.own h5 (by decide), (htw.low _ h6.lt (by omega)).trans h6, h3.trans (htw.below (by omega) (by omega)), Nat.le_trans h4 htw.size⟩, h7⟩)
        (fun c s X Y hs htw => by
          obtain ⟨⟨⟨v, h1, h2⟩, h5, h6, h3, h4⟩, h7⟩ := hs
          exact ⟨⟨⟨v, htw.cells _ _ _ _ h1 (by decide), htw.own h2 (by decide)⟩, htw.own h5 (by decide), (htw.low _ h6.lt (by omega)).trans h6, h3.trans (htw.below (by omega) (by omega)), Nat.le_trans h4 htw.size⟩, h7⟩)
        ⟨⟨⟨_, B6.out, OwnX.nil _ _⟩, O2.out, N6.out, G6.out, by omega⟩, HQ0.out⟩
        (fun x a' X => ∃ Bx, w2.heap.size < Bx ∧ Box X Bx (verL.enc x).toArray 33 ∧ a' = { tmps := #[.slice A ls.length ca, .int .i64 (-((p : Int) + 1)), undef, .pointer (some ⟨w.heap.size, 0, none⟩), .bool false, .slice A1 LS.length c1, .slice A2 XS.length c2, .pointer (some ⟨w2.heap.size, 0, none⟩), .func (.func 34) #[] #[.pointer (some ⟨s1, 0, none⟩), .pointer (some ⟨s2, 0, none⟩)], .pointer (some ⟨Bx, 0, none⟩), .slice A ls.length ca, .slice A1 LS.length c1, .slice A1 LS.length c1, .slice A2 XS.length c2, .int .i64 (-((p : Int) + 1)), .bool true, .int .i64 (-((p : Int) + 1)), .int .i64 (-((p : Int) + 1) + 1), .int .i64 (p : Int), .int .i64 (p : Int), .int .i64 (q : Int), .slice A1 LS.length c1, .func (.func 34) #[] #[.pointer (some ⟨s1, 0, none⟩), .pointer (some ⟨s2, 0, none⟩)], .func (.func 34) #[] #[.pointer (some ⟨s1, 0, none⟩), .pointer (some ⟨s2, 0, none⟩)], .bool false, .int .i64 (q : Int), .bool true, .func (.func 34) #[] #[.pointer (some ⟨s1, 0, none⟩), .pointer (some ⟨s2, 0, none⟩)], verV x, undef, undef, undef, undef, undef, undef, undef, undef, undef, undef, undef, undef, undef, undef, undef, undef, undef, undef, undef, undef, undef, undef], defers := [] })
        (fun x a' _ X Y hs htw => by obtain ⟨Bx, h1, h2, h3⟩ := hs; exact ⟨Bx, h1, htw.cells _ _ _ _ h2 (by decide), h3⟩)
        ?assign ?body ?done ?stop
      case assign =>
        rintro l2 pre x X K hlt ⟨⟨⟨u, h1, h2⟩, h5, h6, h3, h4⟩, h7⟩ hK
        obtain ⟨kk, bb, ee, ss, ⟨xx, yy⟩, uu, gg⟩ := x
        unfold verV
        clear hz5 hm1 hm2 hnl
        have H7 := Lib.hid h7
        clear h7
        gi_wp2_with fail
        exact hK _ _ ((Kr.refl _ _ _ _ X).alloc h3.size _) ⟨⟨⟨u, h1.alloc _, h2.on (alloc_below X _)⟩, h5.on (alloc_below X _), h6.alloc _, h3.alloc h3.size _, Nat.le_trans h4 (alloc_below X _).size⟩, H7.out⟩ ⟨X.heap.size, h1.lt, Box.new X _ _ _ rfl, rfl⟩
      case body =>
        rintro l2 pre x a' X hX ⟨⟨⟨u, h1, h2⟩, h5, h6, h3, h4⟩, h7⟩ ⟨Bx, hBx, hbx, rfl⟩ hlen
        have V := Lib.hid h1
        have O := Lib.hid h2
        have Q := Lib.hid h5
        have NX := Lib.hid h6
        have G := Lib.hid h3
        have HM := Lib.hid h4
        have H7 := Lib.hid h7
        have c0 := h1.cell
        obtain ⟨kk, bb, ee, ss, ⟨xx, yy⟩, uu, gg⟩ := x
        have hbx : Box X Bx #[.string kk, .int .i64 bb, .int .i64 ee, .int .i64 ss, .int .i64 xx, .int .i64 yy, .string uu, .bool gg] 33 := hbx
        have e0 := hbx.cell 0 _ rfl
        have e1 := hbx.cell 1 _ rfl
        have e2 := hbx.cell 2 _ rfl
        have e3 := hbx.cell 3 _ rfl
        have e4 := hbx.cell 4 _ rfl
        have e5 := hbx.cell 5 _ rfl
        have e6 := hbx.cell 6 _ rfl
        have e7 := hbx.cell 7 _ rfl
        obtain ⟨A0, c0', ev, -⟩ := h2.rd
        subst ev
        unfold verV
        have HNM := Lib.hid (show w2.heap.size < m from by omega)
        have HWM := Lib.hid (show w.heap.size < w2.heap.size from hnl)
        have HBX := Lib.hid hBx
        have key : ∀ (v5 : Value) (w5 : World), OwnX verL 33 w5 m v5 (pre ++ [(⟨kk, bb, ee, ss, (xx, yy), uu, gg⟩ : Ver)]) → Grew (X.alloc (.cells #[.string kk, .int .i64 bb, .int .i64 ee, .int .i64 ss, .int .i64 xx, .int .i64 yy, .string uu, .bool gg] 33)) w5 (.slice A0 pre.length c0') v5 →
            Boxed w5 w2.heap.size 24 (.slice A0 pre.length c0') →
            Kr TAV (fun k => W5.heap.size ≤ k ∧ k < m) w.heap.size W6.heap.size X (w5.setCell ⟨w2.heap.size, 0, none⟩ v5) ∧
            ((∃ u, Boxed (w5.setCell ⟨w2.heap.size, 0, none⟩ v5) w2.heap.size 24 u ∧ OwnVr (w5.setCell ⟨w2.heap.size, 0, none⟩ v5) m u (pre ++ [(⟨kk, bb, ee, ss, (xx, yy), uu, gg⟩ : Ver)])) ∧ OwnVr (w5.setCell ⟨w2.heap.size, 0, none⟩ v5) (w.heap.size + 1) (.slice A2 XS.length c2) XS ∧ Boxed (w5.setCell ⟨w2.heap.size, 0, none⟩ v5) w.heap.size 3 (.int .i64 (q : Int)) ∧ Below w.heap.size w (w5.setCell ⟨w2.heap.size, 0, none⟩ v5) ∧ m ≤ (w5.setCell ⟨w2.heap.size, 0, none⟩ v5).heap.size) := by
          intro v5 w5 ho5 hg5 hv5
          have hgx := G.out.size
          have hb1 : Below w.heap.size X (X.alloc (.cells #[.string kk, .int .i64 bb, .int .i64 ee, .int .i64 ss, .int .i64 xx, .int .i64 yy, .string uu, .bool gg] 33)) := (Below.refl _ X).alloc G.out.size _
          have OA := Lib.hid (O.out.on (alloc_below X (.cells #[.string kk, .int .i64 bb, .int .i64 ee, .int .i64 ss, .int .i64 xx, .int .i64 yy, .string uu, .bool gg] 33)))
          have QA := Lib.hid (Q.out.on (alloc_below X (.cells #[.string kk, .int .i64 bb, .int .i64 ee, .int .i64 ss, .int .i64 xx, .int .i64 yy, .string uu, .bool gg] 33)))
          have NA := Lib.hid (NX.out.alloc (.cells #[.string kk, .int .i64 bb, .int .i64 ee, .int .i64 ss, .int .i64 xx, .int .i64 yy, .string uu, .bool gg] 33))
          have hb5 := hg5.below (base := w.heap.size) (by simp; omega) (fun k hk => by have := O.out.base k hk; omega)
          have hb6 := (hb1.trans hb5).setCell (p := ⟨w2.heap.size, 0, none⟩) (by simp only; omega) v5
          have Q5 := QA.out.keep hg5.grown (by
            cases hq : (Value.slice A2 XS.length c2).ownBlock with
            | none => exact .inl rfl
            | some k =>
              refine .inr fun e => ?_
              have h6 := HV.out k hq
              have h7 := O.out.base k e.symm
              omega)
          have N5 := NA.out.kept hg5.grown (fun e => by have := O.out.base w.heap.size e.symm; omega)
          have K1 : Kr TAV (fun k => W5.heap.size ≤ k ∧ k < m) w.heap.size W6.heap.size X (X.alloc (.cells #[.string kk, .int .i64 bb, .int .i64 ee, .int .i64 ss, .int .i64 xx, .int .i64 yy, .string uu, .bool gg] 33)) := (Kr.refl _ _ _ _ X).alloc hgx _
          have K2 : Kr TAV (fun k => W5.heap.size ≤ k ∧ k < m) w.heap.size W6.heap.size (X.alloc (.cells #[.string kk, .int .i64 bb, .int .i64 ee, .int .i64 ss, .int .i64 xx, .int .i64 yy, .string uu, .bool gg] 33)) w5 := kr_row OA.out (by decide) (by omega) (fun k h => by omega) (by simp; omega) hg5.grown
          have K3 : Kr TAV (fun k => W5.heap.size ≤ k ∧ k < m) w.heap.size W6.heap.size w5 (w5.setCell ⟨w2.heap.size, 0, none⟩ v5) := Kr.of_grown (grownBy_setCell' w5 _ _) (by have := hv5.lt; omega) (fun j hj => ⟨by cases hj; omega, fun hk => by cases hj; have hk : W5.heap.size ≤ w2.heap.size ∧ w2.heap.size < m := hk; omega, fun o ho => by
            cases hj
            rw [show w5.heap[w2.heap.size]? = _ from hv5] at ho
            cases ho
            exact ⟨_, _, _, rfl, by decide⟩⟩)
          refine ⟨(K1.trans K2).trans K3, ⟨_, hv5.set _, OwnX.apart ho5 (fun i hi _ => Below.heap_setCell w5 _ _ i hi) (fun e => by have := ho5.base w2.heap.size e; omega)⟩, OwnX.apart Q5 (fun i hi _ => Below.heap_setCell w5 _ _ i hi) (fun e => by have := HV.out w2.heap.size e; omega), (Below.heap_setCell w5 ⟨w2.heap.size, 0, none⟩ _ w.heap.size (by simp only; omega)).trans N5, G.out.trans hb6, ?_⟩
          have h8 := ((K1.trans K2).trans K3).size
          have h9 := HM.out
          omega
        have KEY := Lib.hid key
        clear key h1 h2 h3 h4 h5 h6 h7 hbx hz5 hm1 hm2 hnl hBx
        by_cases hlq : pre.length + 1 = q
        · have zl : ((pre.length : Int) + 1 == (q : Int)) = true := by rw [beq_iff_eq]; omega
          have zln : (pre.length + 1 == q) = true := by rw [beq_iff_eq]; omega
          have HLQ := Lib.hid hlq
          clear hlq
          gi_wp2_with (gi_at_builtin; refine wpiX_app (L := verL) rfl (.tmp 29) (.tmp 31) rfl Try.underlying24 ver_info rfl m _ pre [(⟨kk, bb, ee, ss, (xx, yy), uu, gg⟩ : Ver)] _ _ _ rfl rfl rfl rfl O.out HM.out (by rw [List.length_singleton]; omega) (by decide) ?_; intro v5 w5 ho5 hg5; obtain ⟨A5, c5, e5', -⟩ := ho5.rd; rw [List.length_append, List.length_singleton] at e5'; subst e5'; have hv5 := (V.out.alloc (.cells #[.string kk, .int .i64 bb, .int .i64 ee, .int .i64 ss, .int .i64 xx, .int .i64 yy, .string uu, .bool gg] 33)).kept hg5.grown (fun e => by have := O.out.base w2.heap.size e.symm; have := HNM.out; omega); have KY := Lib.hid (KEY.out _ w5 ho5 hg5 hv5); have hc5 := hv5.cell; have hf5 := hv5.frozen; have cy := KY.out.2.2.2.1.cell)
          gi_wp2_with fail
          have h8 := KY.out
          exact ⟨trivial, h8.1, h8.2, by rw [List.length_append, List.length_singleton]; exact HLQ.out, rfl⟩
        · have zl : ((pre.length : Int) + 1 == (q : Int)) = false := by rw [beq_eq_false_iff_ne]; omega
          have zln : (pre.length + 1 == q) = false := by rw [beq_eq_false_iff_ne]; omega
          have HLQ := Lib.hid (show pre.length + 1 < q from by have := H7.out; omega)
          clear hlq
          gi_wp2_with (gi_at_builtin; refine wpiX_app (L := verL) rfl (.tmp 29) (.tmp 31) rfl Try.underlying24 ver_info rfl m _ pre [(⟨kk, bb, ee, ss, (xx, yy), uu, gg⟩ : Ver)] _ _ _ rfl rfl rfl rfl O.out HM.out (by rw [List.length_singleton]; omega) (by decide) ?_; intro v5 w5 ho5 hg5; obtain ⟨A5, c5, e5', -⟩ := ho5.rd; rw [List.length_append, List.length_singleton] at e5'; subst e5'; have hv5 := (V.out.alloc (.cells #[.string kk, .int .i64 bb, .int .i64 ee, .int .i64 ss, .int .i64 xx, .int .i64 yy, .string uu, .bool gg] 33)).kept hg5.grown (fun e => by have := O.out.base w2.heap.size e.symm; have := HNM.out; omega); have KY := Lib.hid (KEY.out _ w5 ho5 hg5 hv5); have hc5 := hv5.cell; have hf5 := hv5.frozen; have cy := KY.out.2.2.2.1.cell)
          gi_wp2_with fail
          have h8 := KY.out
          exact ⟨h8.1, h8.2, by rw [List.length_append, List.length_singleton]; exact HLQ.out⟩
      case done =>
        rintro D ys Y hD hys ⟨⟨⟨u, h1, h2⟩, h5, h6, h3, h4⟩, h7⟩ hK
        have hy := hys.trans HXS.out
        rw [hy] at h2 h7
        have zx : decide (XS.length < q) = true := by simp; omega
        have zxi : decide ((XS.length : Int) < (q : Int)) = true := by simp; omega
        obtain ⟨A0, c0', ev, -⟩ := h2.rd
        subst ev
        have hblk : ∀ k, k ≠ w.heap.size → (Y.setCell ⟨w.heap.size, 0, none⟩ (.int .i64 (XS.length : Int))).heap[k]? = Y.heap[k]? := fun k hk => Below.heap_setCell Y ⟨w.heap.size, 0, none⟩ _ k hk
        have HE := Lib.hid (show Boxed (Y.setCell ⟨w.heap.size, 0, none⟩ (.int .i64 (XS.length : Int))) w2.heap.size 24 _ from (hblk _ (by omega)).trans h1)
        have HN2 := Lib.hid (h6.set (.int .i64 (XS.length : Int)))
        have HQX := Lib.hid (h5.apart (n := w.heap.size) (fun i hi _ => hblk i hi) (fun e => by have := h5.base w.heap.size e; omega))
        have H2X := Lib.hid (h2.apart (n := w.heap.size) (fun i hi _ => hblk i hi) (fun e => by have := h2.base w.heap.size e; omega))
        have H3 := Lib.hid (h3.setCell (p := ⟨w.heap.size, 0, none⟩) (Nat.le_refl _) (.int .i64 (XS.length : Int)))
        have HD := Lib.hid (show w.heap.size ≤ D from by have := G6.out.size; omega)
        have HK := Lib.hid ((hblk D (by have := h6.lt; have := N6.out.lt; omega)).trans hK)
        have cn := h6.cell
        have fn := h6.frozen
        have cE := h1.cell
        clear h1 h2 h3 h4 h5 h6 h7 hK hD hys hy hblk hz5 hm1 hm2 hnl
        gi_wp2_with fail
        clear cn fn cE zx zxi
        generalize Y.setCell ⟨w.heap.size, 0, none⟩ (.int .i64 (XS.length : Int)) = X at *
        obtain ⟨A8, c8, hcut, hrc⟩ := slX_head HQX.out.rd Try.underlying24 ver_size XS.length (XS.length : Int) rfl (Nat.le_refl _)
        have HC := Lib.hid hrc
        have H2 := Lib.hid H2X.out.rd
        have PE := Lib.hid (show XS = XS.take XS.length from by rw [List.take_length])
        have CE := Lib.hid HE.out.cell
        have CN := Lib.hid HN2.out.cell
        have LE := Lib.hid HE.out.lt
        have LN := Lib.hid HN2.out.lt
        clear hrc
        have HI : (fun W' => W'.cell? ⟨w2.heap.size, 0, none⟩ = some (.slice A0 XS.length c0') ∧ W'.cell? ⟨w.heap.size, 0, none⟩ = some (.int .i64 (XS.length : Int))) X.drew := ⟨CE.out, CN.out⟩
        have E := easy_wide 4 Try.prog
        refine region_normal ?_
        refine regj_start [] (fun W' => W'.cell? ⟨w2.heap.size, 0, none⟩ = some (.slice A0 XS.length c0') ∧ W'.cell? ⟨w.heap.size, 0, none⟩ = some (.int .i64 (XS.length : Int))) (by kernel_rfl) ?_
        refine regj_take E 0 43 (v := ?_) (T' := ?_) HI (by kernel_rfl) (by kernel_rfl) (by kernel_rfl) (by kernel_rfl) (by kernel_rfl) (fun _ _ _ h => by cases h.1) (fun o ho => ?_) ?_ ?_
        rotate_left 2
        · cases ho
          refine ⟨rfl, rfl, fun W hW => ?_⟩
          obtain ⟨i1, i2⟩ := hW
          go_simp; (try with_reducible rfl)
        · simp only [List.setIfInBounds_toArray, List.set_cons_succ, List.set_cons_zero]; exact rfl
        refine regj_take E 1 44 (v := ?_) (T' := ?_) HI (by kernel_rfl) (by kernel_rfl) (by kernel_rfl) (by kernel_rfl) (by kernel_rfl) (fun _ _ _ h => by cases h.1) (fun o ho => ?_) ?_ ?_
        rotate_left 2
        · cases ho
          refine ⟨rfl, rfl, fun W hW => ?_⟩
          obtain ⟨i1, i2⟩ := hW
          go_simp; (try with_reducible rfl)
        · simp only [List.setIfInBounds_toArray, List.set_cons_succ, List.set_cons_zero]; exact rfl
        refine regj_take E 2 45 (v := ?_) (T' := ?_) HI (by kernel_rfl) (by kernel_rfl) (by kernel_rfl) (by kernel_rfl) (by kernel_rfl) (fun _ _ _ h => by cases h.1) (fun o ho => ?_) ?_ ?_
        rotate_left 2
        · cases ho
          refine ⟨rfl, rfl, fun W hW => ?_⟩
          obtain ⟨i1, i2⟩ := hW
          go_simp; (try with_reducible rfl)
        · simp only [List.setIfInBounds_toArray, List.set_cons_succ, List.set_cons_zero]; exact rfl
        refine regj_take E 3 46 (v := ?_) (T' := ?_) HI (by kernel_rfl) (by kernel_rfl) (by kernel_rfl) (by kernel_rfl) (by kernel_rfl) (fun _ _ _ h => by cases h.1) (fun o ho => ?_) ?_ ?_
        rotate_left 2
        · cases ho
          refine ⟨rfl, rfl, fun W hW => ?_⟩
          obtain ⟨i1, i2⟩ := hW
          go_simp; (try with_reducible rfl)
        · simp only [List.setIfInBounds_toArray, List.set_cons_succ, List.set_cons_zero]; exact rfl
        refine regj_call E (I' := (fun W' => W'.cell? ⟨w2.heap.size, 0, none⟩ = some (.slice A0 XS.length c0') ∧ W'.cell? ⟨w.heap.size, 0, none⟩ = some (.int .i64 (XS.length : Int)))) (fun _ h => h) 4 47 (by kernel_rfl) (by kernel_rfl) 11 #[.slice A0 XS.length c0', .slice A8 XS.length c8] (fun o ho => by cases ho; exact ⟨rfl, rfl, fun W => by go_simp⟩) ?_
        refine (SM.out _ _ _ _ X.drew (RdX.drew H2.out) (RdX.drew HC.out)).mono ?_
        rintro z y1 ⟨r, rfl, hr, hb7⟩
        obtain rfl : r = true := hr.2 PE.out
        have H3 := Lib.hid ((H3.out.drewN 1).trans (hb7.mono H3.out.size))
        have HK := Lib.hid ((hb7.block D (Array.getElem?_eq_some_iff.1 HK.out).1).trans HK.out)
        have HI : (fun W' => W'.cell? ⟨w2.heap.size, 0, none⟩ = some (.slice A0 XS.length c0') ∧ W'.cell? ⟨w.heap.size, 0, none⟩ = some (.int .i64 (XS.length : Int))) y1 := ⟨(Below.cell (p := ⟨w2.heap.size, 0, none⟩) hb7 LE.out).trans CE.out, (Below.cell (p := ⟨w.heap.size, 0, none⟩) hb7 LN.out).trans CN.out⟩
        have YS := Lib.hid hb7.size
        have hb7 := Lib.hid hb7
        refine ⟨_, _, rfl, HI, (by simp only [List.setIfInBounds_toArray, List.set_cons_succ, List.set_cons_zero]; exact rfl), ?_⟩
        refine regj_take E 5 48 (v := ?_) (T' := ?_) HI (by kernel_rfl) (by kernel_rfl) (by kernel_rfl) (by kernel_rfl) (by kernel_rfl) (fun _ _ _ h => by cases h.1) (fun o ho => ?_) ?_ ?_
        rotate_left 2
        · cases ho
          refine ⟨rfl, rfl, fun W hW => ?_⟩
          obtain ⟨i1, i2⟩ := hW
          go_simp; (try with_reducible rfl)
        · simp only [List.setIfInBounds_toArray, List.set_cons_succ, List.set_cons_zero]; exact rfl
        refine regj_call E (I' := (fun W' => W'.cell? ⟨w2.heap.size, 0, none⟩ = some (.slice A0 XS.length c0') ∧ W'.cell? ⟨w.heap.size, 0, none⟩ = some (.int .i64 (XS.length : Int)))) (fun _ h => h) 6 49 (by kernel_rfl) (by kernel_rfl) 15 #[] (fun o ho => by cases ho; exact ⟨rfl, rfl, fun W => by go_simp⟩) ?_
        refine (LV.out _).mono ?_
        rintro z y2 ⟨rfl, hb8⟩
        have H3 := Lib.hid (H3.out.trans (hb8.mono H3.out.size))
        have HK := Lib.hid ((hb8.block D (Array.getElem?_eq_some_iff.1 HK.out).1).trans HK.out)
        have HI : (fun W' => W'.cell? ⟨w2.heap.size, 0, none⟩ = some (.slice A0 XS.length c0') ∧ W'.cell? ⟨w.heap.size, 0, none⟩ = some (.int .i64 (XS.length : Int))) y2 := ⟨(Below.cell (p := ⟨w2.heap.size, 0, none⟩) hb8 (Nat.lt_of_lt_of_le LE.out YS.out)).trans HI.1, (Below.cell (p := ⟨w.heap.size, 0, none⟩) hb8 (Nat.lt_of_lt_of_le LN.out YS.out)).trans HI.2⟩
        have hb8 := Lib.hid hb8
        refine ⟨_, _, rfl, HI, (by simp only [List.setIfInBounds_toArray, List.set_cons_succ, List.set_cons_zero]; exact rfl), ?_⟩
        refine regj_take E 7 50 (v := ?_) (T' := ?_) HI (by kernel_rfl) (by kernel_rfl) (by kernel_rfl) (by kernel_rfl) (by kernel_rfl) (fun _ _ _ h => by cases h.1) (fun o ho => ?_) ?_ ?_
        rotate_left 2
        · cases ho
          refine ⟨rfl, rfl, fun W hW => ?_⟩
          obtain ⟨i1, i2⟩ := hW
          go_simp; (try with_reducible rfl)
        · simp only [List.setIfInBounds_toArray, List.set_cons_succ, List.set_cons_zero]; exact rfl
        refine regj_take E 8 4 (v := ?_) (T' := ?_) HI (by kernel_rfl) (by kernel_rfl) (by kernel_rfl) (by kernel_rfl) (by kernel_rfl) (fun _ _ _ h => by cases h.1) (fun o ho => ?_) ?_ ?_
        rotate_left 2
        · cases ho
          refine ⟨rfl, rfl, fun W hW => ?_⟩
          obtain ⟨i1, i2⟩ := hW
          go_simp; (try with_reducible rfl)
        · simp only [List.setIfInBounds_toArray, List.set_cons_succ, List.set_cons_zero]; exact rfl
        refine regj_done (by kernel_rfl) ⟨rfl, ?_⟩
        gi_wp2_with fail
        refine ⟨by simp, .inl ⟨_, _, rfl, run_takeDeferred (show y2.heap[D]? = _ from HK.out), ?_⟩⟩
        exact ⟨_, results_tmp rfl _ _ _, rfl, H3.out.trans (belowK_b (w := w) (Nat.le_refl _) y2 D _ _ HD.out HK.out rfl rfl)⟩
      case stop =>
        rintro D c pre Y hD ⟨post, hpp⟩ ⟨⟨⟨u, h1, h2⟩, h5, h6, h3, h4⟩, h7, rfl⟩ hK
        have hpx := hpp.trans HXS.out
        have hqx : q ≤ XS.length := by rw [← hpx, List.length_append]; omega
        have PE := Lib.hid (show pre = XS.take q from by rw [← hpx, List.take_left' h7])
        have zx : decide (XS.length < q) = false := by simp; omega
        have zxi : decide ((XS.length : Int) < (q : Int)) = false := by simp; omega
        obtain ⟨A0, c0', ev, -⟩ := h2.rd
        subst ev
        obtain ⟨A8, c8, hcut, hrc⟩ := slX_head h5.rd Try.underlying24 ver_size q (q : Int) rfl hqx
        have HC := Lib.hid hrc
        have H2 := Lib.hid h2.rd
        have H3 := Lib.hid h3
        have HD := Lib.hid (show w.heap.size ≤ D from by have := G6.out.size; omega)
        have HK := Lib.hid hK
        have CE := Lib.hid h1.cell
        have CN := Lib.hid h6.cell
        have LE := Lib.hid h1.lt
        have LN := Lib.hid h6.lt
        have cn := h6.cell
        have cE := h1.cell
        clear h1 h2 h3 h4 h5 h6 h7 hK hD hpp hpx hqx hrc hz5 hm1 hm2 hnl
        gi_wp2_with fail
        clear cn cE zx zxi
        generalize Y = X at *
        have HI : (fun W' => W'.cell? ⟨w2.heap.size, 0, none⟩ = some (.slice A0 pre.length c0') ∧ W'.cell? ⟨w.heap.size, 0, none⟩ = some (.int .i64 (q : Int))) X.drew := ⟨CE.out, CN.out⟩
        have E := easy_wide 4 Try.prog
        refine region_normal ?_
        refine regj_start [] (fun W' => W'.cell? ⟨w2.heap.size, 0, none⟩ = some (.slice A0 pre.length c0') ∧ W'.cell? ⟨w.heap.size, 0, none⟩ = some (.int .i64 (q : Int))) (by kernel_rfl) ?_
        refine regj_take E 0 43 (v := ?_) (T' := ?_) HI (by kernel_rfl) (by kernel_rfl) (by kernel_rfl) (by kernel_rfl) (by kernel_rfl) (fun _ _ _ h => by cases h.1) (fun o ho => ?_) ?_ ?_
        rotate_left 2
        · cases ho
          refine ⟨rfl, rfl, fun W hW => ?_⟩
          obtain ⟨i1, i2⟩ := hW
          go_simp; (try with_reducible rfl)
        · simp only [List.setIfInBounds_toArray, List.set_cons_succ, List.set_cons_zero]; exact rfl
        refine regj_take E 1 44 (v := ?_) (T' := ?_) HI (by kernel_rfl) (by kernel_rfl) (by kernel_rfl) (by kernel_rfl) (by kernel_rfl) (fun _ _ _ h => by cases h.1) (fun o ho => ?_) ?_ ?_
        rotate_left 2
        · cases ho
          refine ⟨rfl, rfl, fun W hW => ?_⟩
          obtain ⟨i1, i2⟩ := hW
          go_simp; (try with_reducible rfl)
        · simp only [List.setIfInBounds_toArray, List.set_cons_succ, List.set_cons_zero]; exact rfl
        refine regj_take E 2 45 (v := ?_) (T' := ?_) HI (by kernel_rfl) (by kernel_rfl) (by kernel_rfl) (by kernel_rfl) (by kernel_rfl) (fun _ _ _ h => by cases h.1) (fun o ho => ?_) ?_ ?_
        rotate_left 2
        · cases ho
          refine ⟨rfl, rfl, fun W hW => ?_⟩
          obtain ⟨i1, i2⟩ := hW
          go_simp; (try with_reducible rfl)
        · simp only [List.setIfInBounds_toArray, List.set_cons_succ, List.set_cons_zero]; exact rfl
        refine regj_take E 3 46 (v := ?_) (T' := ?_) HI (by kernel_rfl) (by kernel_rfl) (by kernel_rfl) (by kernel_rfl) (by kernel_rfl) (fun _ _ _ h => by cases h.1) (fun o ho => ?_) ?_ ?_
        rotate_left 2
        · cases ho
          refine ⟨rfl, rfl, fun W hW => ?_⟩
          obtain ⟨i1, i2⟩ := hW
          go_simp; (try with_reducible rfl)
        · simp only [List.setIfInBounds_toArray, List.set_cons_succ, List.set_cons_zero]; exact rfl
        refine regj_call E (I' := (fun W' => W'.cell? ⟨w2.heap.size, 0, none⟩ = some (.slice A0 pre.length c0') ∧ W'.cell? ⟨w.heap.size, 0, none⟩ = some (.int .i64 (q : Int)))) (fun _ h => h) 4 47 (by kernel_rfl) (by kernel_rfl) 11 #[.slice A0 pre.length c0', .slice A8 q c8] (fun o ho => by cases ho; exact ⟨rfl, rfl, fun W => by go_simp⟩) ?_
        refine (SM.out _ _ _ _ X.drew (RdX.drew H2.out) (RdX.drew HC.out)).mono ?_
        rintro z y1 ⟨r, rfl, hr, hb7⟩
        obtain rfl : r = true := hr.2 PE.out
        have H3 := Lib.hid ((H3.out.drewN 1).trans (hb7.mono H3.out.size))
        have HK := Lib.hid ((hb7.block D (Array.getElem?_eq_some_iff.1 HK.out).1).trans HK.out)
        have HI : (fun W' => W'.cell? ⟨w2.heap.size, 0, none⟩ = some (.slice A0 pre.length c0') ∧ W'.cell? ⟨w.heap.size, 0, none⟩ = some (.int .i64 (q : Int))) y1 := ⟨(Below.cell (p := ⟨w2.heap.size, 0, none⟩) hb7 LE.out).trans CE.out, (Below.cell (p := ⟨w.heap.size, 0, none⟩) hb7 LN.out).trans CN.out⟩
        have YS := Lib.hid hb7.size
        have hb7 := Lib.hid hb7
        refine ⟨_, _, rfl, HI, (by simp only [List.setIfInBounds_toArray, List.set_cons_succ, List.set_cons_zero]; exact rfl), ?_⟩
        refine regj_take E 5 48 (v := ?_) (T' := ?_) HI (by kernel_rfl) (by kernel_rfl) (by kernel_rfl) (by kernel_rfl) (by kernel_rfl) (fun _ _ _ h => by cases h.1) (fun o ho => ?_) ?_ ?_
        rotate_left 2
        · cases ho
          refine ⟨rfl, rfl, fun W hW => ?_⟩
          obtain ⟨i1, i2⟩ := hW
          go_simp; (try with_reducible rfl)
        · simp only [List.setIfInBounds_toArray, List.set_cons_succ, List.set_cons_zero]; exact rfl
        refine regj_call E (I' := (fun W' => W'.cell? ⟨w2.heap.size, 0, none⟩ = some (.slice A0 pre.length c0') ∧ W'.cell? ⟨w.heap.size, 0, none⟩ = some (.int .i64 (q : Int)))) (fun _ h => h) 6 49 (by kernel_rfl) (by kernel_rfl) 15 #[] (fun o ho => by cases ho; exact ⟨rfl, rfl, fun W => by go_simp⟩) ?_
        refine (LV.out _).mono ?_
        rintro z y2 ⟨rfl, hb8⟩
        have H3 := Lib.hid (H3.out.trans (hb8.mono H3.out.size))
        have HK := Lib.hid ((hb8.block D (Array.getElem?_eq_some_iff.1 HK.out).1).trans HK.out)
        have HI : (fun W' => W'.cell? ⟨w2.heap.size, 0, none⟩ = some (.slice A0 pre.length c0') ∧ W'.cell? ⟨w.heap.size, 0, none⟩ = some (.int .i64 (q : Int))) y2 := ⟨(Below.cell (p := ⟨w2.heap.size, 0, none⟩) hb8 (Nat.lt_of_lt_of_le LE.out YS.out)).trans HI.1, (Below.cell (p := ⟨w.heap.size, 0, none⟩) hb8 (Nat.lt_of_lt_of_le LN.out YS.out)).trans HI.2⟩
        have hb8 := Lib.hid hb8
        refine ⟨_, _, rfl, HI, (by simp only [List.setIfInBounds_toArray, List.set_cons_succ, List.set_cons_zero]; exact rfl), ?_⟩
        refine regj_take E 7 50 (v := ?_) (T' := ?_) HI (by kernel_rfl) (by kernel_rfl) (by kernel_rfl) (by kernel_rfl) (by kernel_rfl) (fun _ _ _ h => by cases h.1) (fun o ho => ?_) ?_ ?_
        rotate_left 2
        · cases ho
          refine ⟨rfl, rfl, fun W hW => ?_⟩
          obtain ⟨i1, i2⟩ := hW
          go_simp; (try with_reducible rfl)
        · simp only [List.setIfInBounds_toArray, List.set_cons_succ, List.set_cons_zero]; exact rfl
        refine regj_take E 8 4 (v := ?_) (T' := ?_) HI (by kernel_rfl) (by kernel_rfl) (by kernel_rfl) (by kernel_rfl) (by kernel_rfl) (fun _ _ _ h => by cases h.1) (fun o ho => ?_) ?_ ?_
        rotate_left 2
        · cases ho
          refine ⟨rfl, rfl, fun W hW => ?_⟩
          obtain ⟨i1, i2⟩ := hW
          go_simp; (try with_reducible rfl)
        · simp only [List.setIfInBounds_toArray, List.set_cons_succ, List.set_cons_zero]; exact rfl
        refine regj_done (by kernel_rfl) ⟨rfl, ?_⟩
        gi_wp2_with fail
        refine ⟨by simp, .inl ⟨_, _, rfl, run_takeDeferred (show y2.heap[D]? = _ from HK.out), ?_⟩⟩
        exact ⟨_, results_tmp rfl _ _ _, rfl, H3.out.trans (belowK_b (w := w) (Nat.le_refl _) y2 D _ _ HD.out HK.out rfl rfl)⟩
  · skip
    subst hp
    have zn : decide ((p : Int) < 0) = false := by simp only [decide_eq_false_iff_not]; omega
    have hg : w2.grownBy (w2.setCell ⟨w.heap.size, 0, none⟩ (.int .i64 (q : Int))) (some w.heap.size) := ⟨rfl, rfl, rfl, by simp [World.setCell], fun i hi hx => Below.heap_setCell _ ⟨w.heap.size, 0, none⟩ _ i (fun e => hx (by rw [e]))⟩
    have BQ := Lib.hid (BN.out.set (.int .i64 (q : Int)))
    have HG := Lib.hid hg
    clear hg hneg
    gi_wp2_with fail
    have SM := Lib.hid ref6_same
    have OX := Lib.hid (O1.out.keep HG.out (fun j hj cs t f hb => by
      cases hj
      rw [show w2.heap[w.heap.size]? = _ from BN.out] at hb
      cases hb
      exact ⟨by decide, by decide⟩))
    have QX := Lib.hid (O2.out.keep HG.out (by
      cases hq : (Value.slice A2 XS.length c2).ownBlock with
      | none => exact .inl rfl
      | some k => exact .inr fun e => HNE.out k hq (by cases e; rfl)))
    have GX := Lib.hid ((Below.refl w.heap.size w).trans (G.out.grown HG.out G.out.size (fun k hk => by cases hk; exact Nat.le_refl _)))
    have hsz : ((w2.setCell ⟨w.heap.size, 0, none⟩ (.int .i64 (q : Int)))).heap.size = w2.heap.size := by simp [World.setCell]
    generalize (w2.setCell ⟨w.heap.size, 0, none⟩ (.int .i64 (q : Int))) = W3 at *
    have HW3 := Lib.hid hsz
    clear hsz cn fn HG O1 O2 G BN
    have hb5 := alloc_below W3 (.cells #[.slice none 0 0] 24)
    have B5 := Lib.hid (show Boxed (W3.alloc (.cells #[.slice none 0 0] 24)) w2.heap.size 24 (.slice none 0 0) from by rw [← HW3.out]; exact Boxed.new W3 _ _)
    have R5 := Lib.hid (OX.out.rd.on hb5)
    have Q5 := Lib.hid (QX.out.on hb5)
    have HV := Lib.hid (show ∀ k, (Value.slice A2 XS.length c2).ownBlock = some k → k < w2.heap.size from fun k hk => by have := (QX.out.lt k hk).2; have := HW3.out; omega)
    have N5 := Lib.hid (BQ.out.alloc (.cells #[.slice none 0 0] 24))
    have NL := Lib.hid (show w.heap.size < w2.heap.size from by have := BQ.out.lt; have := HW3.out; omega)
    have G5 := Lib.hid (GX.out.trans (hb5.mono GX.out.size))
    have Z5 := Lib.hid (show (W3.alloc (.cells #[.slice none 0 0] 24)).heap.size = w2.heap.size + 1 from by rw [← HW3.out]; simp)
    generalize W3.alloc (.cells #[.slice none 0 0] 24) = W5 at *
    clear hb5 OX QX BQ GX HW3
    refine ⟨trivial, (callsIn_wide.2 (each_k _ LS _ R5.out ASC.out FLN.out HL5.out)).mono ?_⟩
    rintro z W6 ⟨s1, s2, m, rfl, hb6, hm1, hm2, hT⟩
    have TL := Lib.hid (hT TAV True w.heap.size ta_freeV (by decide))
    have O2 := Lib.hid (Q5.out.on hb6)
    have B6 := Lib.hid (show Boxed W6 w2.heap.size 24 (.slice none 0 0) from (hb6.block _ B5.out.lt).trans B5.out)
    have N6 := Lib.hid (show Boxed W6 w.heap.size 3 (.int .i64 (q : Int)) from (hb6.block _ N5.out.lt).trans N5.out)
    have G6 := Lib.hid (G5.out.trans (hb6.mono G5.out.size))
    have M1 := Lib.hid hm1
    have M2 := Lib.hid hm2
    clear hb6 hm1 hm2 hT R5 B5 N5 Q5
    have hqf := fun (W : World) => run_eql_func_nil (P := Try.prog) W Try.underlying36 ⟨_, _, _, rfl⟩ (.func 34) #[] #[.pointer (some ⟨s1, 0, none⟩), .pointer (some ⟨s2, 0, none⟩)]
    have cn6 := N6.out.cell
    by_cases hq0 : q = 0
    · subst hq0
      have hb6c := B6.out.cell
      have zx : decide (XS.length < 0) = false := by simp
      obtain ⟨A8, c8, hcut, hrc⟩ := slX_head O2.out.rd Try.underlying24 ver_size 0 (0 : Int) rfl (Nat.zero_le _)
      have HC := Lib.hid hrc
      have H2 := Lib.hid (RdX.nil (L := verL) W6 W6.heap.size)
      have PE := Lib.hid (show ([] : List Ver) = XS.take 0 from rfl)
      have H3 := Lib.hid G6.out
      have CE := Lib.hid hb6c
      have CN := Lib.hid cn6
      have LE := Lib.hid B6.out.lt
      have LN := Lib.hid N6.out.lt
      generalize W6 = X at *
      clear hrc
      gi_wp2_with fail
      clear cn6 hb6c
      have HI : (fun W' => W'.cell? ⟨w2.heap.size, 0, none⟩ = some (.slice none 0 0) ∧ W'.cell? ⟨w.heap.size, 0, none⟩ = some (.int .i64 0)) X.drew := ⟨CE.out, CN.out⟩
      have E := easy_wide 4 Try.prog
      refine region_normal ?_
      refine regj_start [] (fun W' => W'.cell? ⟨w2.heap.size, 0, none⟩ = some (.slice none 0 0) ∧ W'.cell? ⟨w.heap.size, 0, none⟩ = some (.int .i64 0)) (by kernel_rfl) ?_
      refine regj_take E 0 43 (v := ?_) (T' := ?_) HI (by kernel_rfl) (by kernel_rfl) (by kernel_rfl) (by kernel_rfl) (by kernel_rfl) (fun _ _ _ h => by cases h.1) (fun o ho => ?_) ?_ ?_
      rotate_left 2
      · cases ho
        refine ⟨rfl, rfl, fun W hW => ?_⟩
        obtain ⟨i1, i2⟩ := hW
        go_simp; (try with_reducible rfl)
      · simp only [List.setIfInBounds_toArray, List.set_cons_succ, List.set_cons_zero]; exact rfl
      refine regj_take E 1 44 (v := ?_) (T' := ?_) HI (by kernel_rfl) (by kernel_rfl) (by kernel_rfl) (by kernel_rfl) (by kernel_rfl) (fun _ _ _ h => by cases h.1) (fun o ho => ?_) ?_ ?_
      rotate_left 2
      · cases ho
        refine ⟨rfl, rfl, fun W hW => ?_⟩
        obtain ⟨i1, i2⟩ := hW
        go_simp; (try with_reducible rfl)
      · simp only [List.setIfInBounds_toArray, List.set_cons_succ, List.set_cons_zero]; exact rfl
      refine regj_take E 2 45 (v := ?_) (T' := ?_) HI (by kernel_rfl) (by kernel_rfl) (by kernel_rfl) (by kernel_rfl) (by kernel_rfl) (fun _ _ _ h => by cases h.1) (fun o ho => ?_) ?_ ?_
      rotate_left 2
      · cases ho
        refine ⟨rfl, rfl, fun W hW => ?_⟩
        obtain ⟨i1, i2⟩ := hW
        go_simp; (try with_reducible rfl)
      · simp only [List.setIfInBounds_toArray, List.set_cons_succ, List.set_cons_zero]; exact rfl
      refine regj_take E 3 46 (v := ?_) (T' := ?_) HI (by kernel_rfl) (by kernel_rfl) (by kernel_rfl) (by kernel_rfl) (by kernel_rfl) (fun _ _ _ h => by cases h.1) (fun o ho => ?_) ?_ ?_
      rotate_left 2
      · cases ho
        refine ⟨rfl, rfl, fun W hW => ?_⟩
        obtain ⟨i1, i2⟩ := hW
        go_simp; (try with_reducible rfl)
      · simp only [List.setIfInBounds_toArray, List.set_cons_succ, List.set_cons_zero]; exact rfl
      refine regj_call E (I' := (fun W' => W'.cell? ⟨w2.heap.size, 0, none⟩ = some (.slice none 0 0) ∧ W'.cell? ⟨w.heap.size, 0, none⟩ = some (.int .i64 0))) (fun _ h => h) 4 47 (by kernel_rfl) (by kernel_rfl) 11 #[.slice none 0 0, .slice A8 0 c8] (fun o ho => by cases ho; exact ⟨rfl, rfl, fun W => by go_simp⟩) ?_
      refine (SM.out _ _ _ _ X.drew (RdX.drew H2.out) (RdX.drew HC.out)).mono ?_
      rintro z y1 ⟨r, rfl, hr, hb7⟩
      obtain rfl : r = true := hr.2 PE.out
      have H3 := Lib.hid ((H3.out.drewN 1).trans (hb7.mono H3.out.size))
      have HI : (fun W' => W'.cell? ⟨w2.heap.size, 0, none⟩ = some (.slice none 0 0) ∧ W'.cell? ⟨w.heap.size, 0, none⟩ = some (.int .i64 0)) y1 := ⟨(Below.cell (p := ⟨w2.heap.size, 0, none⟩) hb7 LE.out).trans CE.out, (Below.cell (p := ⟨w.heap.size, 0, none⟩) hb7 LN.out).trans CN.out⟩
      have YS := Lib.hid hb7.size
      have hb7 := Lib.hid hb7
      refine ⟨_, _, rfl, HI, (by simp only [List.setIfInBounds_toArray, List.set_cons_succ, List.set_cons_zero]; exact rfl), ?_⟩
      refine regj_take E 5 48 (v := ?_) (T' := ?_) HI (by kernel_rfl) (by kernel_rfl) (by kernel_rfl) (by kernel_rfl) (by kernel_rfl) (fun _ _ _ h => by cases h.1) (fun o ho => ?_) ?_ ?_
      rotate_left 2
      · cases ho
        refine ⟨rfl, rfl, fun W hW => ?_⟩
        obtain ⟨i1, i2⟩ := hW
        go_simp; (try with_reducible rfl)
      · simp only [List.setIfInBounds_toArray, List.set_cons_succ, List.set_cons_zero]; exact rfl
      refine regj_call E (I' := (fun W' => W'.cell? ⟨w2.heap.size, 0, none⟩ = some (.slice none 0 0) ∧ W'.cell? ⟨w.heap.size, 0, none⟩ = some (.int .i64 0))) (fun _ h => h) 6 49 (by kernel_rfl) (by kernel_rfl) 15 #[] (fun o ho => by cases ho; exact ⟨rfl, rfl, fun W => by go_simp⟩) ?_
      refine (LV.out _).mono ?_
      rintro z y2 ⟨rfl, hb8⟩
      have H3 := Lib.hid (H3.out.trans (hb8.mono H3.out.size))
      have HI : (fun W' => W'.cell? ⟨w2.heap.size, 0, none⟩ = some (.slice none 0 0) ∧ W'.cell? ⟨w.heap.size, 0, none⟩ = some (.int .i64 0)) y2 := ⟨(Below.cell (p := ⟨w2.heap.size, 0, none⟩) hb8 (Nat.lt_of_lt_of_le LE.out YS.out)).trans HI.1, (Below.cell (p := ⟨w.heap.size, 0, none⟩) hb8 (Nat.lt_of_lt_of_le LN.out YS.out)).trans HI.2⟩
      have hb8 := Lib.hid hb8
      refine ⟨_, _, rfl, HI, (by simp only [List.setIfInBounds_toArray, List.set_cons_succ, List.set_cons_zero]; exact rfl), ?_⟩
      refine regj_take E 7 50 (v := ?_) (T' := ?_) HI (by kernel_rfl) (by kernel_rfl) (by kernel_rfl) (by kernel_rfl) (by kernel_rfl) (fun _ _ _ h => by cases h.1) (fun o ho => ?_) ?_ ?_
      rotate_left 2
      · cases ho
        refine ⟨rfl, rfl, fun W hW => ?_⟩
        obtain ⟨i1, i2⟩ := hW
        go_simp; (try with_reducible rfl)
      · simp only [List.setIfInBounds_toArray, List.set_cons_succ, List.set_cons_zero]; exact rfl
      refine regj_take E 8 4 (v := ?_) (T' := ?_) HI (by kernel_rfl) (by kernel_rfl) (by kernel_rfl) (by kernel_rfl) (by kernel_rfl) (fun _ _ _ h => by cases h.1) (fun o ho => ?_) ?_ ?_
      rotate_left 2
      · cases ho
        refine ⟨rfl, rfl, fun W hW => ?_⟩
        obtain ⟨i1, i2⟩ := hW
        go_simp; (try with_reducible rfl)
      · simp only [List.setIfInBounds_toArray, List.set_cons_succ, List.set_cons_zero]; exact rfl
      refine regj_done (by kernel_rfl) ⟨rfl, ?_⟩
      gi_wp2_with fail
      exact ⟨_, results_tmp rfl _ _ _, rfl, H3.out⟩
    · have zq : decide (0 < (q : Int)) = true := by simp; omega
      have zqn : decide (0 < q) = true := by simp; omega
      have HQ0 := Lib.hid (show 0 < q from by omega)
      clear hq0
      gi_wp2_with fail
      clear hqf cn6 zq zqn
      have hz5 := Z5.out
      have hm1 := M1.out
      have hm2 := M2.out
      have hnl := NL.out
      refine wpIn_rangeTell2 (P := Try.prog) (Z := True) (T := TAV) (Kp := fun k => W5.heap.size ≤ k ∧ k < m) (gf := 34) rfl (enters_of Try.func34 (by kernel_rfl) rfl) TL.out G6.out.size (fun k h => by omega) (Below.refl _ _) (fun _ => rfl)
        (fun pre X => ((∃ u, Boxed X w2.heap.size 24 u ∧ OwnVr X m u pre) ∧ OwnVr X (w.heap.size + 1) (.slice A2 XS.length c2) XS ∧ Boxed X w.heap.size 3 (.int .i64 (q : Int)) ∧ Below w.heap.size w X ∧ m ≤ X.heap.size) ∧ pre.length < q)
        (fun c pre X => ((∃ u, Boxed X w2.heap.size 24 u ∧ OwnVr X m u pre) ∧ OwnVr X (w.heap.size + 1) (.slice A2 XS.length c2) XS ∧ Boxed X w.heap.size 3 (.int .i64 (q : Int)) ∧ Below w.heap.size w X ∧ m ≤ X.heap.size) ∧ pre.length = q ∧ c = .exit 0)
        (fun s X Y hs htw => by
          obtain ⟨⟨⟨v, h1, h2⟩, h5, h6, h3, h4⟩, h7⟩ := hs
          exact ⟨⟨⟨v, htw.cells _ _ _ _ h1 (by decide), htw.own h2 (by decide)⟩, htw.own h5 (by decide), (htw.low _ h6.lt (by omega)).trans h6, h3.trans (htw.below (by omega) (by omega)), Nat.le_trans h4 htw.size⟩, h7⟩)
        (fun c s X Y hs htw => by
          obtain ⟨⟨⟨v, h1, h2⟩, h5, h6, h3, h4⟩, h7⟩ := hs
          exact ⟨⟨⟨v, htw.cells _ _ _ _ h1 (by decide), htw.own h2 (by decide)⟩, htw.own h5 (by decide), (htw.low _ h6.lt (by omega)).trans h6, h3.trans (htw.below (by omega) (by omega)), Nat.le_trans h4 htw.size⟩, h7⟩)
        ⟨⟨⟨_, B6.out, OwnX.nil _ _⟩, O2.out, N6.out, G6.out, by omega⟩, HQ0.out⟩
        (fun x a' X => ∃ Bx, w2.heap.size < Bx ∧ Box X Bx (verL.enc x).toArray 33 ∧ a' = { tmps := #[.slice A ls.length ca, .int .i64 (p : Int), undef, .pointer (some ⟨w.heap.size, 0, none⟩), .bool false, .slice A1 LS.length c1, .slice A2 XS.length c2, .pointer (some ⟨w2.heap.size, 0, none⟩), .func (.func 34) #[] #[.pointer (some ⟨s1, 0, none⟩), .pointer (some ⟨s2, 0, none⟩)], .pointer (some ⟨Bx, 0, none⟩), .slice A ls.length ca, .slice A1 LS.length c1, .slice A1 LS.length c1, .slice A2 XS.length c2, .int .i64 (p : Int), .bool false, undef, undef, undef, .int .i64 (p : Int), .int .i64 (q : Int), .slice A1 LS.length c1, .func (.func 34) #[] #[.pointer (some ⟨s1, 0, none⟩), .pointer (some ⟨s2, 0, none⟩)], .func (.func 34) #[] #[.pointer (some ⟨s1, 0, none⟩), .pointer (some ⟨s2, 0, none⟩)], .bool false, .int .i64 (q : Int), .bool true, .func (.func 34) #[] #[.pointer (some ⟨s1, 0, none⟩), .pointer (some ⟨s2, 0, none⟩)], verV x, undef, undef, undef, undef, undef, undef, undef, undef, undef, undef, undef, undef, undef, undef, undef, undef, undef, undef, undef, undef, undef, undef], defers := [] })
        (fun x a' _ X Y hs htw => by obtain ⟨Bx, h1, h2, h3⟩ := hs; exact ⟨Bx, h1, htw.cells _ _ _ _ h2 (by decide), h3⟩)
        ?assign ?body ?done ?stop
      case assign =>
        rintro l2 pre x X K hlt ⟨⟨⟨u, h1, h2⟩, h5, h6, h3, h4⟩, h7⟩ hK
        obtain ⟨kk, bb, ee, ss, ⟨xx, yy⟩, uu, gg⟩ := x
        unfold verV
        clear hz5 hm1 hm2 hnl
        have H7 := Lib.hid h7
        clear h7
        gi_wp2_with fail
        exact hK _ _ ((Kr.refl _ _ _ _ X).alloc h3.size _) ⟨⟨⟨u, h1.alloc _, h2.on (alloc_below X _)⟩, h5.on (alloc_below X _), h6.alloc _, h3.alloc h3.size _, Nat.le_trans h4 (alloc_below X _).size⟩, H7.out⟩ ⟨X.heap.size, h1.lt, Box.new X _ _ _ rfl, rfl⟩
      case body =>
        rintro l2 pre x a' X hX ⟨⟨⟨u, h1, h2⟩, h5, h6, h3, h4⟩, h7⟩ ⟨Bx, hBx, hbx, rfl⟩ hlen
        have V := Lib.hid h1
        have O := Lib.hid h2
        have Q := Lib.hid h5
        have NX := Lib.hid h6
        have G := Lib.hid h3
        have HM := Lib.hid h4
        have H7 := Lib.hid h7
        have c0 := h1.cell
        obtain ⟨kk, bb, ee, ss, ⟨xx, yy⟩, uu, gg⟩ := x
        have hbx : Box X Bx #[.string kk, .int .i64 bb, .int .i64 ee, .int .i64 ss, .int .i64 xx, .int .i64 yy, .string uu, .bool gg] 33 := hbx
        have e0 := hbx.cell 0 _ rfl
        have e1 := hbx.cell 1 _ rfl
        have e2 := hbx.cell 2 _ rfl
        have e3 := hbx.cell 3 _ rfl
        have e4 := hbx.cell 4 _ rfl
        have e5 := hbx.cell 5 _ rfl
        have e6 := hbx.cell 6 _ rfl
        have e7 := hbx.cell 7 _ rfl
        obtain ⟨A0, c0', ev, -⟩ := h2.rd
        subst ev
        unfold verV
        have HNM := Lib.hid (show w2.heap.size < m from by omega)
        have HWM := Lib.hid (show w.heap.size < w2.heap.size from hnl)
        have HBX := Lib.hid hBx
        have key : ∀ (v5 : Value) (w5 : World), OwnX verL 33 w5 m v5 (pre ++ [(⟨kk, bb, ee, ss, (xx, yy), uu, gg⟩ : Ver)]) → Grew (X.alloc (.cells #[.string kk, .int .i64 bb, .int .i64 ee, .int .i64 ss, .int .i64 xx, .int .i64 yy, .string uu, .bool gg] 33)) w5 (.slice A0 pre.length c0') v5 →
            Boxed w5 w2.heap.size 24 (.slice A0 pre.length c0') →
            Kr TAV (fun k => W5.heap.size ≤ k ∧ k < m) w.heap.size W6.heap.size X (w5.setCell ⟨w2.heap.size, 0, none⟩ v5) ∧
            ((∃ u, Boxed (w5.setCell ⟨w2.heap.size, 0, none⟩ v5) w2.heap.size 24 u ∧ OwnVr (w5.setCell ⟨w2.heap.size, 0, none⟩ v5) m u (pre ++ [(⟨kk, bb, ee, ss, (xx, yy), uu, gg⟩ : Ver)])) ∧ OwnVr (w5.setCell ⟨w2.heap.size, 0, none⟩ v5) (w.heap.size + 1) (.slice A2 XS.length c2) XS ∧ Boxed (w5.setCell ⟨w2.heap.size, 0, none⟩ v5) w.heap.size 3 (.int .i64 (q : Int)) ∧ Below w.heap.size w (w5.setCell ⟨w2.heap.size, 0, none⟩ v5) ∧ m ≤ (w5.setCell ⟨w2.heap.size, 0, none⟩ v5).heap.size) := by
          intro v5 w5 ho5 hg5 hv5
          have hgx := G.out.size
          have hb1 : Below w.heap.size X (X.alloc (.cells #[.string kk, .int .i64 bb, .int .i64 ee, .int .i64 ss, .int .i64 xx, .int .i64 yy, .string uu, .bool gg] 33)) := (Below.refl _ X).alloc G.out.size _
          have OA := Lib.hid (O.out.on (alloc_below X (.cells #[.string kk, .int .i64 bb, .int .i64 ee, .int .i64 ss, .int .i64 xx, .int .i64 yy, .string uu, .bool gg] 33)))
          have QA := Lib.hid (Q.out.on (alloc_below X (.cells #[.string kk, .int .i64 bb, .int .i64 ee, .int .i64 ss, .int .i64 xx, .int .i64 yy, .string uu, .bool gg] 33)))
          have NA := Lib.hid (NX.out.alloc (.cells #[.string kk, .int .i64 bb, .int .i64 ee, .int .i64 ss, .int .i64 xx, .int .i64 yy, .string uu, .bool gg] 33))
          have hb5 := hg5.below (base := w.heap.size) (by simp; omega) (fun k hk => by have := O.out.base k hk; omega)
          have hb6 := (hb1.trans hb5).setCell (p := ⟨w2.heap.size, 0, none⟩) (by simp only; omega) v5
          have Q5 := QA.out.keep hg5.grown (by
            cases hq : (Value.slice A2 XS.length c2).ownBlock with
            | none => exact .inl rfl
            | some k =>
              refine .inr fun e => ?_
              have h6 := HV.out k hq
              have h7 := O.out.base k e.symm
              omega)
          have N5 := NA.out.kept hg5.grown (fun e => by have := O.out.base w.heap.size e.symm; omega)
          have K1 : Kr TAV (fun k => W5.heap.size ≤ k ∧ k < m) w.heap.size W6.heap.size X (X.alloc (.cells #[.string kk, .int .i64 bb, .int .i64 ee, .int .i64 ss, .int .i64 xx, .int .i64 yy, .string uu, .bool gg] 33)) := (Kr.refl _ _ _ _ X).alloc hgx _
          have K2 : Kr TAV (fun k => W5.heap.size ≤ k ∧ k < m) w.heap.size W6.heap.size (X.alloc (.cells #[.string kk, .int .i64 bb, .int .i64 ee, .int .i64 ss, .int .i64 xx, .int .i64 yy, .string uu, .bool gg] 33)) w5 := kr_row OA.out (by decide) (by omega) (fun k h => by omega) (by simp; omega) hg5.grown
          have K3 : Kr TAV (fun k => W5.heap.size ≤ k ∧ k < m) w.heap.size W6.heap.size w5 (w5.setCell ⟨w2.heap.size, 0, none⟩ v5) := Kr.of_grown (grownBy_setCell' w5 _ _) (by have := hv5.lt; omega) (fun j hj => ⟨by cases hj; omega, fun hk => by cases hj; have hk : W5.heap.size ≤ w2.heap.size ∧ w2.heap.size < m := hk; omega, fun o ho => by
            cases hj
            rw [show w5.heap[w2.heap.size]? = _ from hv5] at ho
            cases ho
            exact ⟨_, _, _, rfl, by decide⟩⟩)
          refine ⟨(K1.trans K2).trans K3, ⟨_, hv5.set _, OwnX.apart ho5 (fun i hi _ => Below.heap_setCell w5 _ _ i hi) (fun e => by have := ho5.base w2.heap.size e; omega)⟩, OwnX.apart Q5 (fun i hi _ => Below.heap_setCell w5 _ _ i hi) (fun e => by have := HV.out w2.heap.size e; omega), (Below.heap_setCell w5 ⟨w2.heap.size, 0, none⟩ _ w.heap.size (by simp only; omega)).trans N5, G.out.trans hb6, ?_⟩
          have h8 := ((K1.trans K2).trans K3).size
          have h9 := HM.out
          omega
        have KEY := Lib.hid key
        clear key h1 h2 h3 h4 h5 h6 h7 hbx hz5 hm1 hm2 hnl hBx
        by_cases hlq : pre.length + 1 = q
        · have zl : ((pre.length : Int) + 1 == (q : Int)) = true := by rw [beq_iff_eq]; omega
          have zln : (pre.length + 1 == q) = true := by rw [beq_iff_eq]; omega
          have HLQ := Lib.hid hlq
          clear hlq
          gi_wp2_with (gi_at_builtin; refine wpiX_app (L := verL) rfl (.tmp 29) (.tmp 31) rfl Try.underlying24 ver_info rfl m _ pre [(⟨kk, bb, ee, ss, (xx, yy), uu, gg⟩ : Ver)] _ _ _ rfl rfl rfl rfl O.out HM.out (by rw [List.length_singleton]; omega) (by decide) ?_; intro v5 w5 ho5 hg5; obtain ⟨A5, c5, e5', -⟩ := ho5.rd; rw [List.length_append, List.length_singleton] at e5'; subst e5'; have hv5 := (V.out.alloc (.cells #[.string kk, .int .i64 bb, .int .i64 ee, .int .i64 ss, .int .i64 xx, .int .i64 yy, .string uu, .bool gg] 33)).kept hg5.grown (fun e => by have := O.out.base w2.heap.size e.symm; have := HNM.out; omega); have KY := Lib.hid (KEY.out _ w5 ho5 hg5 hv5); have hc5 := hv5.cell; have hf5 := hv5.frozen; have cy := KY.out.2.2.2.1.cell)
          gi_wp2_with fail
          have h8 := KY.out
          exact ⟨trivial, h8.1, h8.2, by rw [List.length_append, List.length_singleton]; exact HLQ.out, rfl⟩
        · have zl : ((pre.length : Int) + 1 == (q : Int)) = false := by rw [beq_eq_false_iff_ne]; omega
          have zln : (pre.length + 1 == q) = false := by rw [beq_eq_false_iff_ne]; omega
          have HLQ := Lib.hid (show pre.length + 1 < q from by have := H7.out; omega)
          clear hlq
          gi_wp2_with (gi_at_builtin; refine wpiX_app (L := verL) rfl (.tmp 29) (.tmp 31) rfl Try.underlying24 ver_info rfl m _ pre [(⟨kk, bb, ee, ss, (xx, yy), uu, gg⟩ : Ver)] _ _ _ rfl rfl rfl rfl O.out HM.out (by rw [List.length_singleton]; omega) (by decide) ?_; intro v5 w5 ho5 hg5; obtain ⟨A5, c5, e5', -⟩ := ho5.rd; rw [List.length_append, List.length_singleton] at e5'; subst e5'; have hv5 := (V.out.alloc (.cells #[.string kk, .int .i64 bb, .int .i64 ee, .int .i64 ss, .int .i64 xx, .int .i64 yy, .string uu, .bool gg] 33)).kept hg5.grown (fun e => by have := O.out.base w2.heap.size e.symm; have := HNM.out; omega); have KY := Lib.hid (KEY.out _ w5 ho5 hg5 hv5); have hc5 := hv5.cell; have hf5 := hv5.frozen; have cy := KY.out.2.2.2.1.cell)
          gi_wp2_with fail
          have h8 := KY.out
          exact ⟨h8.1, h8.2, by rw [List.length_append, List.length_singleton]; exact HLQ.out⟩
      case done =>
        rintro D ys Y hD hys ⟨⟨⟨u, h1, h2⟩, h5, h6, h3, h4⟩, h7⟩ hK
        have hy := hys.trans HXS.out
        rw [hy] at h2 h7
        have zx : decide (XS.length < q) = true := by simp; omega
        have zxi : decide ((XS.length : Int) < (q : Int)) = true := by simp; omega
        obtain ⟨A0, c0', ev, -⟩ := h2.rd
        subst ev
        have hblk : ∀ k, k ≠ w.heap.size → (Y.setCell ⟨w.heap.size, 0, none⟩ (.int .i64 (XS.length : Int))).heap[k]? = Y.heap[k]? := fun k hk => Below.heap_setCell Y ⟨w.heap.size, 0, none⟩ _ k hk
        have HE := Lib.hid (show Boxed (Y.setCell ⟨w.heap.size, 0, none⟩ (.int .i64 (XS.length : Int))) w2.heap.size 24 _ from (hblk _ (by omega)).trans h1)
        have HN2 := Lib.hid (h6.set (.int .i64 (XS.length : Int)))
        have HQX := Lib.hid (h5.apart (n := w.heap.size) (fun i hi _ => hblk i hi) (fun e => by have := h5.base w.heap.size e; omega))
        have H2X := Lib.hid (h2.apart (n := w.heap.size) (fun i hi _ => hblk i hi) (fun e => by have := h2.base w.heap.size e; omega))
        have H3 := Lib.hid (h3.setCell (p := ⟨w.heap.size, 0, none⟩) (Nat.le_refl _) (.int .i64 (XS.length : Int)))
        have HD := Lib.hid (show w.heap.size ≤ D from by have := G6.out.size; omega)
        have HK := Lib.hid ((hblk D (by have := h6.lt; have := N6.out.lt; omega)).trans hK)
        have cn := h6.cell
        have fn := h6.frozen
        have cE := h1.cell
        clear h1 h2 h3 h4 h5 h6 h7 hK hD hys hy hblk hz5 hm1 hm2 hnl
        gi_wp2_with fail
        clear cn fn cE zx zxi
        generalize Y.setCell ⟨w.heap.size, 0, none⟩ (.int .i64 (XS.length : Int)) = X at *
        obtain ⟨A8, c8, hcut, hrc⟩ := slX_head HQX.out.rd Try.underlying24 ver_size XS.length (XS.length : Int) rfl (Nat.le_refl _)
        have HC := Lib.hid hrc
        have H2 := Lib.hid H2X.out.rd
        have PE := Lib.hid (show XS = XS.take XS.length from by rw [List.take_length])
        have CE := Lib.hid HE.out.cell
        have CN := Lib.hid HN2.out.cell
        have LE := Lib.hid HE.out.lt
        have LN := Lib.hid HN2.out.lt
        clear hrc
        have HI : (fun W' => W'.cell? ⟨w2.heap.size, 0, none⟩ = some (.slice A0 XS.length c0') ∧ W'.cell? ⟨w.heap.size, 0, none⟩ = some (.int .i64 (XS.length : Int))) X.drew := ⟨CE.out, CN.out⟩
        have E := easy_wide 4 Try.prog
        refine region_normal ?_
        refine regj_start [] (fun W' => W'.cell? ⟨w2.heap.size, 0, none⟩ = some (.slice A0 XS.length c0') ∧ W'.cell? ⟨w.heap.size, 0, none⟩ = some (.int .i64 (XS.length : Int))) (by kernel_rfl) ?_
        refine regj_take E 0 43 (v := ?_) (T' := ?_) HI (by kernel_rfl) (by kernel_rfl) (by kernel_rfl) (by kernel_rfl) (by kernel_rfl) (fun _ _ _ h => by cases h.1) (fun o ho => ?_) ?_ ?_
        rotate_left 2
        · cases ho
          refine ⟨rfl, rfl, fun W hW => ?_⟩
          obtain ⟨i1, i2⟩ := hW
          go_simp; (try with_reducible rfl)
        · simp only [List.setIfInBounds_toArray, List.set_cons_succ, List.set_cons_zero]; exact rfl
        refine regj_take E 1 44 (v := ?_) (T' := ?_) HI (by kernel_rfl) (by kernel_rfl) (by kernel_rfl) (by kernel_rfl) (by kernel_rfl) (fun _ _ _ h => by cases h.1) (fun o ho => ?_) ?_ ?_
        rotate_left 2
        · cases ho
          refine ⟨rfl, rfl, fun W hW => ?_⟩
          obtain ⟨i1, i2⟩ := hW
          go_simp; (try with_reducible rfl)
        · simp only [List.setIfInBounds_toArray, List.set_cons_succ, List.set_cons_zero]; exact rfl
        refine regj_take E 2 45 (v := ?_) (T' := ?_) HI (by kernel_rfl) (by kernel_rfl) (by kernel_rfl) (by kernel_rfl) (by kernel_rfl) (fun _ _ _ h => by cases h.1) (fun o ho => ?_) ?_ ?_
        rotate_left 2
        · cases ho
          refine ⟨rfl, rfl, fun W hW => ?_⟩
          obtain ⟨i1, i2⟩ := hW
          go_simp; (try with_reducible rfl)
        · simp only [List.setIfInBounds_toArray, List.set_cons_succ, List.set_cons_zero]; exact rfl
        refine regj_take E 3 46 (v := ?_) (T' := ?_) HI (by kernel_rfl) (by kernel_rfl) (by kernel_rfl) (by kernel_rfl) (by kernel_rfl) (fun _ _ _ h => by cases h.1) (fun o ho => ?_) ?_ ?_
        rotate_left 2
        · cases ho
          refine ⟨rfl, rfl, fun W hW => ?_⟩
          obtain ⟨i1, i2⟩ := hW
          go_simp; (try with_reducible rfl)
        · simp only [List.setIfInBounds_toArray, List.set_cons_succ, List.set_cons_zero]; exact rfl
        refine regj_call E (I' := (fun W' => W'.cell? ⟨w2.heap.size, 0, none⟩ = some (.slice A0 XS.length c0') ∧ W'.cell? ⟨w.heap.size, 0, none⟩ = some (.int .i64 (XS.length : Int)))) (fun _ h => h) 4 47 (by kernel_rfl) (by kernel_rfl) 11 #[.slice A0 XS.length c0', .slice A8 XS.length c8] (fun o ho => by cases ho; exact ⟨rfl, rfl, fun W => by go_simp⟩) ?_
        refine (SM.out _ _ _ _ X.drew (RdX.drew H2.out) (RdX.drew HC.out)).mono ?_
        rintro z y1 ⟨r, rfl, hr, hb7⟩
        obtain rfl : r = true := hr.2 PE.out
        have H3 := Lib.hid ((H3.out.drewN 1).trans (hb7.mono H3.out.size))
        have HK := Lib.hid ((hb7.block D (Array.getElem?_eq_some_iff.1 HK.out).1).trans HK.out)
        have HI : (fun W' => W'.cell? ⟨w2.heap.size, 0, none⟩ = some (.slice A0 XS.length c0') ∧ W'.cell? ⟨w.heap.size, 0, none⟩ = some (.int .i64 (XS.length : Int))) y1 := ⟨(Below.cell (p := ⟨w2.heap.size, 0, none⟩) hb7 LE.out).trans CE.out, (Below.cell (p := ⟨w.heap.size, 0, none⟩) hb7 LN.out).trans CN.out⟩
        have YS := Lib.hid hb7.size
        have hb7 := Lib.hid hb7
        refine ⟨_, _, rfl, HI, (by simp only [List.setIfInBounds_toArray, List.set_cons_succ, List.set_cons_zero]; exact rfl), ?_⟩
        refine regj_take E 5 48 (v := ?_) (T' := ?_) HI (by kernel_rfl) (by kernel_rfl) (by kernel_rfl) (by kernel_rfl) (by kernel_rfl) (fun _ _ _ h => by cases h.1) (fun o ho => ?_) ?_ ?_
        rotate_left 2
        · cases ho
          refine ⟨rfl, rfl, fun W hW => ?_⟩
          obtain ⟨i1, i2⟩ := hW
          go_simp; (try with_reducible rfl)
        · simp only [List.setIfInBounds_toArray, List.set_cons_succ, List.set_cons_zero]; exact rfl
        refine regj_call E (I' := (fun W' => W'.cell? ⟨w2.heap.size, 0, none⟩ = some (.slice A0 XS.length c0') ∧ W'.cell? ⟨w.heap.size, 0, none⟩ = some (.int .i64 (XS.length : Int)))) (fun _ h => h) 6 49 (by kernel_rfl) (by kernel_rfl) 15 #[] (fun o ho => by cases ho; exact ⟨rfl, rfl, fun W => by go_simp⟩) ?_
        refine (LV.out _).mono ?_
        rintro z y2 ⟨rfl, hb8⟩
        have H3 := Lib.hid (H3.out.trans (hb8.mono H3.out.size))
        have HK := Lib.hid ((hb8.block D (Array.getElem?_eq_some_iff.1 HK.out).1).trans HK.out)
        have HI : (fun W' => W'.cell? ⟨w2.heap.size, 0, none⟩ = some (.slice A0 XS.length c0') ∧ W'.cell? ⟨w.heap.size, 0, none⟩ = some (.int .i64 (XS.length : Int))) y2 := ⟨(Below.cell (p := ⟨w2.heap.size, 0, none⟩) hb8 (Nat.lt_of_lt_of_le LE.out YS.out)).trans HI.1, (Below.cell (p := ⟨w.heap.size, 0, none⟩) hb8 (Nat.lt_of_lt_of_le LN.out YS.out)).trans HI.2⟩
        have hb8 := Lib.hid hb8
        refine ⟨_, _, rfl, HI, (by simp only [List.setIfInBounds_toArray, List.set_cons_succ, List.set_cons_zero]; exact rfl), ?_⟩
        refine regj_take E 7 50 (v := ?_) (T' := ?_) HI (by kernel_rfl) (by kernel_rfl) (by kernel_rfl) (by kernel_rfl) (by kernel_rfl) (fun _ _ _ h => by cases h.1) (fun o ho => ?_) ?_ ?_
        rotate_left 2
        · cases ho
          refine ⟨rfl, rfl, fun W hW => ?_⟩
          obtain ⟨i1, i2⟩ := hW
          go_simp; (try with_reducible rfl)
        · simp only [List.setIfInBounds_toArray, List.set_cons_succ, List.set_cons_zero]; exact rfl
        refine regj_take E 8 4 (v := ?_) (T' := ?_) HI (by kernel_rfl) (by kernel_rfl) (by kernel_rfl) (by kernel_rfl) (by kernel_rfl) (fun _ _ _ h => by cases h.1) (fun o ho => ?_) ?_ ?_
        rotate_left 2
        · cases ho
          refine ⟨rfl, rfl, fun W hW => ?_⟩
          obtain ⟨i1, i2⟩ := hW
          go_simp; (try with_reducible rfl)
        · simp only [List.setIfInBounds_toArray, List.set_cons_succ, List.set_cons_zero]; exact rfl
        refine regj_done (by kernel_rfl) ⟨rfl, ?_⟩
        gi_wp2_with fail
        refine ⟨by simp, .inl ⟨_, _, rfl, run_takeDeferred (show y2.heap[D]? = _ from HK.out), ?_⟩⟩
        exact ⟨_, results_tmp rfl _ _ _, rfl, H3.out.trans (belowK_b (w := w) (Nat.le_refl _) y2 D _ _ HD.out HK.out rfl rfl)⟩
      case stop =>
        rintro D c pre Y hD ⟨post, hpp⟩ ⟨⟨⟨u, h1, h2⟩, h5, h6, h3, h4⟩, h7, rfl⟩ hK
        have hpx := hpp.trans HXS.out
        have hqx : q ≤ XS.length := by rw [← hpx, List.length_append]; omega
        have PE := Lib.hid (show pre = XS.take q from by rw [← hpx, List.take_left' h7])
        have zx : decide (XS.length < q) = false := by simp; omega
        have zxi : decide ((XS.length : Int) < (q : Int)) = false := by simp; omega
        obtain ⟨A0, c0', ev, -⟩ := h2.rd
        subst ev
        obtain ⟨A8, c8, hcut, hrc⟩ := slX_head h5.rd Try.underlying24 ver_size q (q : Int) rfl hqx
        have HC := Lib.hid hrc
        have H2 := Lib.hid h2.rd
        have H3 := Lib.hid h3
        have HD := Lib.hid (show w.heap.size ≤ D from by have := G6.out.size; omega)
        have HK := Lib.hid hK
        have CE := Lib.hid h1.cell
        have CN := Lib.hid h6.cell
        have LE := Lib.hid h1.lt
        have LN := Lib.hid h6.lt
        have cn := h6.cell
        have cE := h1.cell
        clear h1 h2 h3 h4 h5 h6 h7 hK hD hpp hpx hqx hrc hz5 hm1 hm2 hnl
        gi_wp2_with fail
        clear cn cE zx zxi
        generalize Y = X at *
        have HI : (fun W' => W'.cell? ⟨w2.heap.size, 0, none⟩ = some (.slice A0 pre.length c0') ∧ W'.cell? ⟨w.heap.size, 0, none⟩ = some (.int .i64 (q : Int))) X.drew := ⟨CE.out, CN.out⟩
        have E := easy_wide 4 Try.prog
        refine region_normal ?_
        refine regj_start [] (fun W' => W'.cell? ⟨w2.heap.size, 0, none⟩ = some (.slice A0 pre.length c0') ∧ W'.cell? ⟨w.heap.size, 0, none⟩ = some (.int .i64 (q : Int))) (by kernel_rfl) ?_
        refine regj_take E 0 43 (v := ?_) (T' := ?_) HI (by kernel_rfl) (by kernel_rfl) (by kernel_rfl) (by kernel_rfl) (by kernel_rfl) (fun _ _ _ h => by cases h.1) (fun o ho => ?_) ?_ ?_
        rotate_left 2
        · cases ho
          refine ⟨rfl, rfl, fun W hW => ?_⟩
          obtain ⟨i1, i2⟩ := hW
          go_simp; (try with_reducible rfl)
        · simp only [List.setIfInBounds_toArray, List.set_cons_succ, List.set_cons_zero]; exact rfl
        refine regj_take E 1 44 (v := ?_) (T' := ?_) HI (by kernel_rfl) (by kernel_rfl) (by kernel_rfl) (by kernel_rfl) (by kernel_rfl) (fun _ _ _ h => by cases h.1) (fun o ho => ?_) ?_ ?_
        rotate_left 2
        · cases ho
          refine ⟨rfl, rfl, fun W hW => ?_⟩
          obtain ⟨i1, i2⟩ := hW
          go_simp; (try with_reducible rfl)
        · simp only [List.setIfInBounds_toArray, List.set_cons_succ, List.set_cons_zero]; exact rfl
        refine regj_take E 2 45 (v := ?_) (T' := ?_) HI (by kernel_rfl) (by kernel_rfl) (by kernel_rfl) (by kernel_rfl) (by kernel_rfl) (fun _ _ _ h => by cases h.1) (fun o ho => ?_) ?_ ?_
        rotate_left 2
        · cases ho
          refine ⟨rfl, rfl, fun W hW => ?_⟩
          obtain ⟨i1, i2⟩ := hW
          go_simp; (try with_reducible rfl)
        · simp only [List.setIfInBounds_toArray, List.set_cons_succ, List.set_cons_zero]; exact rfl
        refine regj_take E 3 46 (v := ?_) (T' := ?_) HI (by kernel_rfl) (by kernel_rfl) (by kernel_rfl) (by kernel_rfl) (by kernel_rfl) (fun _ _ _ h => by cases h.1) (fun o ho => ?_) ?_ ?_
        rotate_left 2
        · cases ho
          refine ⟨rfl, rfl, fun W hW => ?_⟩
          obtain ⟨i1, i2⟩ := hW
          go_simp; (try with_reducible rfl)
        · simp only [List.setIfInBounds_toArray, List.set_cons_succ, List.set_cons_zero]; exact rfl
        refine regj_call E (I' := (fun W' => W'.cell? ⟨w2.heap.size, 0, none⟩ = some (.slice A0 pre.length c0') ∧ W'.cell? ⟨w.heap.size, 0, none⟩ = some (.int .i64 (q : Int)))) (fun _ h => h) 4 47 (by kernel_rfl) (by kernel_rfl) 11 #[.slice A0 pre.length c0', .slice A8 q c8] (fun o ho => by cases ho; exact ⟨rfl, rfl, fun W => by go_simp⟩) ?_
        refine (SM.out _ _ _ _ X.drew (RdX.drew H2.out) (RdX.drew HC.out)).mono ?_
        rintro z y1 ⟨r, rfl, hr, hb7⟩
        obtain rfl : r = true := hr.2 PE.out
        have H3 := Lib.hid ((H3.out.drewN 1).trans (hb7.mono H3.out.size))
        have HK := Lib.hid ((hb7.block D (Array.getElem?_eq_some_iff.1 HK.out).1).trans HK.out)
        have HI : (fun W' => W'.cell? ⟨w2.heap.size, 0, none⟩ = some (.slice A0 pre.length c0') ∧ W'.cell? ⟨w.heap.size, 0, none⟩ = some (.int .i64 (q : Int))) y1 := ⟨(Below.cell (p := ⟨w2.heap.size, 0, none⟩) hb7 LE.out).trans CE.out, (Below.cell (p := ⟨w.heap.size, 0, none⟩) hb7 LN.out).trans CN.out⟩
        have YS := Lib.hid hb7.size
        have hb7 := Lib.hid hb7
        refine ⟨_, _, rfl, HI, (by simp only [List.setIfInBounds_toArray, List.set_cons_succ, List.set_cons_zero]; exact rfl), ?_⟩
        refine regj_take E 5 48 (v := ?_) (T' := ?_) HI (by kernel_rfl) (by kernel_rfl) (by kernel_rfl) (by kernel_rfl) (by kernel_rfl) (fun _ _ _ h => by cases h.1) (fun o ho => ?_) ?_ ?_
        rotate_left 2
        · cases ho
          refine ⟨rfl, rfl, fun W hW => ?_⟩
          obtain ⟨i1, i2⟩ := hW
          go_simp; (try with_reducible rfl)
        · simp only [List.setIfInBounds_toArray, List.set_cons_succ, List.set_cons_zero]; exact rfl
        refine regj_call E (I' := (fun W' => W'.cell? ⟨w2.heap.size, 0, none⟩ = some (.slice A0 pre.length c0') ∧ W'.cell? ⟨w.heap.size, 0, none⟩ = some (.int .i64 (q : Int)))) (fun _ h => h) 6 49 (by kernel_rfl) (by kernel_rfl) 15 #[] (fun o ho => by cases ho; exact ⟨rfl, rfl, fun W => by go_simp⟩) ?_
        refine (LV.out _).mono ?_
        rintro z y2 ⟨rfl, hb8⟩
        have H3 := Lib.hid (H3.out.trans (hb8.mono H3.out.size))
        have HK := Lib.hid ((hb8.block D (Array.getElem?_eq_some_iff.1 HK.out).1).trans HK.out)
        have HI : (fun W' => W'.cell? ⟨w2.heap.size, 0, none⟩ = some (.slice A0 pre.length c0') ∧ W'.cell? ⟨w.heap.size, 0, none⟩ = some (.int .i64 (q : Int))) y2 := ⟨(Below.cell (p := ⟨w2.heap.size, 0, none⟩) hb8 (Nat.lt_of_lt_of_le LE.out YS.out)).trans HI.1, (Below.cell (p := ⟨w.heap.size, 0, none⟩) hb8 (Nat.lt_of_lt_of_le LN.out YS.out)).trans HI.2⟩
        have hb8 := Lib.hid hb8
        refine ⟨_, _, rfl, HI, (by simp only [List.setIfInBounds_toArray, List.set_cons_succ, List.set_cons_zero]; exact rfl), ?_⟩
        refine regj_take E 7 50 (v := ?_) (T' := ?_) HI (by kernel_rfl) (by kernel_rfl) (by kernel_rfl) (by kernel_rfl) (by kernel_rfl) (fun _ _ _ h => by cases h.1) (fun o ho => ?_) ?_ ?_
        rotate_left 2
        · cases ho
          refine ⟨rfl, rfl, fun W hW => ?_⟩
          obtain ⟨i1, i2⟩ := hW
          go_simp; (try with_reducible rfl)
        · simp only [List.setIfInBounds_toArray, List.set_cons_succ, List.set_cons_zero]; exact rfl
        refine regj_take E 8 4 (v := ?_) (T' := ?_) HI (by kernel_rfl) (by kernel_rfl) (by kernel_rfl) (by kernel_rfl) (by kernel_rfl) (fun _ _ _ h => by cases h.1) (fun o ho => ?_) ?_ ?_
        rotate_left 2
        · cases ho
          refine ⟨rfl, rfl, fun W hW => ?_⟩
          obtain ⟨i1, i2⟩ := hW
          go_simp; (try with_reducible rfl)
        · simp only [List.setIfInBounds_toArray, List.set_cons_succ, List.set_cons_zero]; exact rfl
        refine regj_done (by kernel_rfl) ⟨rfl, ?_⟩
        gi_wp2_with fail
        refine ⟨by simp, .inl ⟨_, _, rfl, run_takeDeferred (show y2.heap[D]? = _ from HK.out), ?_⟩⟩
        exact ⟨_, results_tmp rfl _ _ _, rfl, H3.out.trans (belowK_b (w := w) (Nat.le_refl _) y2 D _ _ HD.out HK.out rfl rfl)⟩
-- END
set_option maxRecDepth 100000 in
theorem lifted (os : Os) (started : os.Started) (H : Type) (enc : TypeId × Value → H) :
    ReturnsInHanded {} Try.checked os 4 .any (Rows.mergeEndsSpec.pre6 enc Try.prog Try.f4 Rows.mergeEndsRow.domain false) (Rows.mergeEndsSpec.post enc Try.prog Try.f4 false true false false) := by
  refine returnsInHanded_of_change (C := Try.checked) Try.own started (by kernel_rfl) Try.func4
    (ChangeSpec.witness6 (enc := enc) (C := Try.checked) false ⟨#[], #[.slice none 0 0, .int .i64 0], []⟩ 8 (by kernel_rfl) (by kernel_rfl) (by kernel_rfl) (by kernel_rfl)) ?_
  intro W base args ds gs before hval0 hW _ _
  have hval : ∀ (j : Nat) t v, Try.f4.params[j]? = some t → args[j]? = some v → Value.okWide Try.prog W .any base t v := hval0
  have hW' := hW
  obtain ⟨p, q, hA0, hV, rfl, _, _⟩ := hW
  have hA : DataW.TrodAll enc Try.prog W 0 (fun _ => true) true Try.f4.params.toList args.toList ds p := hA0
  rw [Try.params4] at hA hval
  obtain ⟨v0, v1, d0, d1, p0, p1, rfl, rfl, rfl, h0, h1⟩ := trodAll_two hA
  obtain ⟨rfl, rfl⟩ := trodVars_none hV
  have hlt := fun x hx => hW'.lt x hx
  obtain ⟨a0, r0, b0⟩ := open_vvs (hval 0 _ v0 rfl rfl) h0 (fun x hx => by simpa using hlt x (by simp [hx]))
  obtain ⟨a1, rfl, rfl, rfl, w1⟩ := open_int Try.underlying3 (hval 1 _ v1 rfl rfl) h1
  have w1 := wf_int w1
  refine (walk v0 a0 a1 _ r0 w1).mono fun e W' ⟨he, hb⟩ => ⟨_, he, ?_⟩
  exact law_post Try.laidOut (by decide +kernel) rfl Try.underlying4 rfl hW' rfl hb

theorem holds : Rows.MergeEndsSaid :=
  OpenClaim.holds_of_wide 4 Try.f4 rfl rfl rfl rfl rfl rfl rfl ⟨rfl, rfl, rfl, rfl, rfl⟩ rfl rfl rfl rfl rfl (by kernel_rfl) Try.func4 (by kernel_rfl)
    (of_decide_eq_true (by kernel_rfl)) (by unfold Func.isWrapper; first | (rw [if_pos (by decide +kernel)]; kernel_rfl) | (rw [if_neg (by decide +kernel)]; exact ⟨rfl, rfl⟩))
    (fun os started H enc _ => lifted os started H enc)
end Go.Proofs.Ytnioiojafnkmhaa.L02
