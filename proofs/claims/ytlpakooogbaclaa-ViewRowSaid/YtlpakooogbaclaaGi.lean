/- Layer 14: State, by the document. -/
import Derived.Test.YtlpakooogbaclaaGh
import Derived.Test.YtlpakooogbaclaaSc
import Derived.Test.YtlpakooogbaclaaSi
namespace Go.Proofs.Ytlpakooogbaclaa
open Go.RowKit
set_option linter.unusedVariables false

theorem between_step {o : List Ver} {e : List Int} {i : Nat} {x y : Int} (h0 : e[i]? = some x) (h1 : e[i + 1]? = some y) : betweenV o (e.drop i) = (if (getV o x).2 = true then [((x, y), (getV o x).1)] else []) ++ betweenV o (e.drop (i + 1)) := by
  obtain ⟨a, b⟩ := List.getElem?_eq_some_iff.1 h0
  obtain ⟨c, d⟩ := List.getElem?_eq_some_iff.1 h1
  rw [List.drop_eq_getElem_cons a, List.drop_eq_getElem_cons c, b, d, betweenV]
theorem between_last {o : List Ver} {e : List Int} {i : Nat} (h : e.length ≤ i + 1) : betweenV o (e.drop i) = [] := by
  rcases he : e.drop i with _ | ⟨x, r⟩
  · rfl
  · have h1 := congrArg List.length he
    rw [List.length_drop, List.length_cons] at h1
    cases r with
    | nil => rfl
    | cons y s => rw [List.length_cons] at h1; omega
theorem sp_filter_step {o : List Ver} {k : Nat} (hk : k < o.length) : ((o.take (k + 1)).map Ver.sp).filter mayB = ((o.take k).map Ver.sp).filter mayB ++ (if mayB o[k].sp = true then [o[k].sp] else []) := by
  rw [List.take_succ_eq_append_getElem hk, List.map_append, List.filter_append]
  congr 1
  cases h : mayB o[k].sp <;> simp [h]
theorem sp_filter_len (o : List Ver) (k : Nat) : (((o.take k).map Ver.sp).filter mayB).length ≤ k := by
  refine Nat.le_trans (List.length_filter_le _ _) ?_
  rw [List.length_map, List.length_take]
  omega
set_option maxHeartbeats 8000000 in
set_option maxRecDepth 100000 in
theorem ref14_state (va vp : Value) (l : List Ver) (p : List (Int × Int)) (w : World) (B Bp : Nat) (ha : RdVr w B va l) (hB : B ≤ w.heap.size) (hp : RdX lgL w Bp vp p) (hBp : Bp ≤ w.heap.size) (hl : l.length ≤ 400) (hpl : p.length ≤ 1000) :
    Calls Try.prog 19 #[va, vp] w fun z w' => ∃ v', z = .returned v' ∧ OwnPc w' w.heap.size v' (stateV (orderV l p)) ∧ Below w.heap.size w w' := by
  have OR := Lib.hid (ref14_order va vp l p w B Bp ha hB hp hBp (by omega) hpl)
  have OL := Lib.hid (show (orderV l p).length ≤ 400 from Nat.le_trans (order_len l p) hl)
  have OA2 := Lib.hid (order_again l p)
  have HP := Lib.hid hp
  have HBP := Lib.hid hBp
  obtain ⟨A, ca, rfl, -⟩ := ha
  have HPF : ∃ Ap cp, vp = .slice Ap p.length cp := by obtain ⟨Ap, cp, rfl, -⟩ := hp; exact ⟨Ap, cp, rfl⟩
  obtain ⟨Ap, cp, rfl⟩ := HPF
  obtain ⟨o, ho⟩ : ∃ o, orderV l p = o := ⟨_, rfl⟩
  rw [ho] at OR OL OA2 ⊢
  have HPL := Lib.hid hpl
  have ST := Lib.hid (between_state o)
  clear hB hBp hl hpl ho hp
  go_enter Try.func19, Try.ntmps19
  go_wp2_with fail
  refine (OR.out).mono ?_
  rintro z w1 ⟨v1, rfl, ho1, hb1⟩
  have O1 := Lib.hid ho1
  have G1 := Lib.hid hb1
  obtain ⟨OA, oc, rfl, -⟩ := ho1.rd
  clear ho1 hb1 OR
  go_wp2_with fail
  go_loopw [6, 7] (fun x i wr => ∃ k : Nat, i = .int .i64 k ∧ k ≤ o.length ∧ OwnSp wr w1.heap.size x (((o.take k).map Ver.sp).filter mayB) ∧ Below w1.heap.size w1 wr) (fun _ i _ => o.length - (intOf i).toNat)
  case atStart => exact ⟨0, rfl, Nat.zero_le _, OwnX.nil _ _, Below.refl _ _⟩
  case round =>
    obtain ⟨k, rfl, hk, hon, hbw⟩ := hrel
    rename World => wo
    have OS := Lib.hid hon
    have G := Lib.hid hbw
    clear hon hbw
    by_cases hlt : k < o.length
    · have zl : decide ((k : Int) < (o.length : Int)) = true := by rw [decide_eq_true_eq]; omega
      have hki : (k : Int) < (o.length : Int) := by omega
      have hw64 : IntKind.i64.wrap ((k : Int) + 1) = (k : Int) + 1 := by rw [IntKind.wrap_i64]; have := OL.out; omega
      have SS := Lib.hid (sp_filter_step hlt)
      have SL := Lib.hid (sp_filter_len o k)
      obtain ⟨b, oo, rfl, hbb, d0, d1, d2, d3, d4, d5, d6, d7⟩ := RdVr.here (O1.out.on G.out).rd k hlt
      obtain ⟨q, hq⟩ : ∃ q, (o[k]'hlt).sp = q := ⟨_, rfl⟩
      rw [hq] at SS d4 d5
      obtain ⟨xx, yy⟩ := q
      have MY := Lib.hid (fun w => ref_may (xx, yy) w)
      unfold spV at MY
      simp only at MY d4 d5
      obtain ⟨mb, hmb⟩ : ∃ mb, mayB (xx, yy) = mb := ⟨_, rfl⟩
      rw [hmb] at MY SS
      obtain ⟨acc, hacc⟩ : ∃ acc, ((o.take k).map Ver.sp).filter mayB = acc := ⟨_, rfl⟩
      rw [hacc] at OS SS SL
      have K1 := Lib.hid hlt
      clear hq hbb hmb hacc d0 d1 d2 d3 d6 d7
      cases mb
      · have SN := Lib.hid (show ((o.take (k + 1)).map Ver.sp).filter mayB = acc from by rw [SS.out]; simp)
        go_wp2_with fail
        refine (MY.out _).mono ?_
        rintro z w3 ⟨rfl, hb3⟩
        have G3 := Lib.hid (G.out.trans (hb3.mono G.out.size))
        have O3 := Lib.hid (OS.out.on hb3)
        clear hb3 d4 d5
        go_wp2_with fail
        go_roundw
        case rel => exact ⟨k + 1, by go_num, K1.out, by rw [SN.out]; exact O3.out, G3.out⟩
        case measure => have := K1.out; simp [intOf]; omega
      · have SN := Lib.hid (show ((o.take (k + 1)).map Ver.sp).filter mayB = acc ++ [(xx, yy)] from by rw [SS.out]; simp)
        go_wp2_with fail
        refine (MY.out _).mono ?_
        rintro z w3 ⟨rfl, hb3⟩
        have G3 := Lib.hid (G.out.trans (hb3.mono G.out.size))
        have O3 := Lib.hid (OS.out.on hb3)
        have hlo : b < wo.heap.size := cell_lt d4
        have k4 := (hb3.cell (p := ⟨b, oo + k * 8 + 4, none⟩) hlo).trans d4
        have k5 := (hb3.cell (p := ⟨b, oo + k * 8 + 5, none⟩) hlo).trans d5
        clear hb3 d4 d5 hlo
        go_wp2_with (at_builtin; refine wpl_appX rfl (.tmp 30) (.tmp 36) rfl Try.underlying63 sp_info rfl w1.heap.size _ acc [((xx, yy) : Sp)] _ _ _ rfl rfl rfl rfl O3.out G3.out.size (by rw [List.length_singleton]; have := SL.out; have := K1.out; have := OL.out; omega) (by decide) ?_; intro v5 w5 ho5 hg5 hb5)
        go_roundw
        case rel => exact ⟨k + 1, by go_num, K1.out, by rw [SN.out]; exact ho5, G3.out.trans hb5⟩
        case measure => have := K1.out; simp [intOf]; omega
    · obtain rfl : k = o.length := by omega
      have zl : decide ((o.length : Int) < (o.length : Int)) = false := by simp
      have SL := Lib.hid (sp_filter_len o o.length)
      rw [List.take_length] at OS SL
      have EN := Lib.hid (ref_ends _ _ wo OS.out.rd (by have := SL.out; have := OL.out; omega))
      have EL := Lib.hid (show (endsV o).length ≤ 800 from Nat.le_trans (ends_len _) (by have := SL.out; have := OL.out; omega))
      clear hlt
      go_wp2_with fail
      refine (EN.out).mono ?_
      rintro z w2 ⟨v2, rfl, ho2, hb2⟩
      have OE := Lib.hid (show OwnI w2 wo.heap.size v2 (endsV o) from ho2)
      have G2 := Lib.hid (G1.out.trans ((G.out.trans (hb2.mono G.out.size)).mono G1.out.size))
      have OO := Lib.hid (O1.out.on (G.out.trans (hb2.mono G.out.size)))
      have LW := Lib.hid (show w.heap.size ≤ w2.heap.size from G2.out.size)
      obtain ⟨e, he⟩ : ∃ e, endsV o = e := ⟨_, rfl⟩
      rw [he] at OE EL ST
      obtain ⟨EA, ec, rfl, -⟩ := OE.out.rd
      clear ho2 hb2 he OS EN SL G
      go_wp2_with fail
      go_loopw [10, 11] (fun x i wr => ∃ (j : Nat) (out : List Pc), i = .int .i64 j ∧ (j = 0 ∨ j < e.length) ∧ out.length ≤ j ∧ betweenV o e = out ++ betweenV o (e.drop j) ∧ OwnPc wr w2.heap.size x out ∧ Below w2.heap.size w2 wr) (fun _ i _ => e.length - (intOf i).toNat)
      case atStart => exact ⟨0, [], rfl, .inl rfl, Nat.le_refl _, rfl, OwnX.nil _ _, Below.refl _ _⟩
      case round =>
        obtain ⟨j, out, rfl, hj, hol, hbe, hou, hbx⟩ := hrel
        rename World => w3
        have BE := Lib.hid hbe
        have O3 := Lib.hid hou
        have G3 := Lib.hid hbx
        have HOUT := Lib.hid hol
        have hw64 : IntKind.i64.wrap ((j : Int) + 1) = (j : Int) + 1 := by rw [IntKind.wrap_i64]; have := EL.out; omega
        clear hbe hou hbx hol
        by_cases hlt2 : j + 1 < e.length
        · have zl2 : decide ((j : Int) + 1 < (e.length : Int)) = true := by rw [decide_eq_true_eq]; omega
          have zn2 : decide (j + 1 < e.length) = true := by rw [decide_eq_true_eq]; exact hlt2
          have hji : (j : Int) < (e.length : Int) := by omega
          have hji1 : (j : Int) + 1 < (e.length : Int) := by omega
          have hjn : 0 ≤ (j : Int) + 1 := by omega
          have hjt : ((j : Int) + 1).toNat = j + 1 := by omega
          obtain ⟨x1, hx1⟩ : ∃ x, (e[j]'(by omega)) = x := ⟨_, rfl⟩
          obtain ⟨y1, hy1⟩ : ∃ y, (e[j + 1]'hlt2) = y := ⟨_, rfl⟩
          have BS := Lib.hid (between_step (o := o) (e := e) (i := j) (x := x1) (y := y1) (by rw [List.getElem?_eq_getElem (by omega), hx1]) (by rw [List.getElem?_eq_getElem hlt2, hy1]))
          obtain ⟨be, oe, rfl, hbe0, g0⟩ := RdI4.here (OE.out.on G3.out).rd j (by omega)
          obtain ⟨be2, oe2, h2, hbe2, g1⟩ := RdI4.here (OE.out.on G3.out).rd (j + 1) hlt2
          injection h2 with h2
          injection h2 with h2 h3
          subst h2
          obtain rfl := h3
          rw [hx1] at g0
          rw [hy1] at g1
          have GT := Lib.hid (ref14_get _ (.slice Ap p.length cp) o p x1 w3 w3.heap.size Bp (OO.out.on G3.out).rd (Nat.le_refl _) (HP.out.below ((G2.out.trans (G3.out.mono LW.out)).mono HBP.out)) (Nat.le_trans HBP.out (Nat.le_trans LW.out G3.out.size)) (by have := OL.out; omega) HPL.out)
          rw [OA2.out] at GT
          obtain ⟨gr, hgr⟩ : ∃ gr, getV o x1 = gr := ⟨_, rfl⟩
          rw [hgr] at GT BS
          obtain ⟨gv, gb⟩ := gr
          simp only at GT BS
          have HLT2 := Lib.hid hlt2
          have HJ := Lib.hid hj
          have hlo : be < w3.heap.size := cell_lt g0
          have HG0 := Lib.hid g0
          have HG1 := Lib.hid g1
          have HLO := Lib.hid hlo
          clear hx1 hy1 hgr hbe0 hbe2 hj g1 hlo hlt2
          cases gb
          · have BN := Lib.hid (show betweenV o e = out ++ betweenV o (e.drop (j + 1)) from by rw [BE.out, BS.out]; simp)
            go_wp2_with fail
            refine (GT.out).mono ?_
            rintro z w4 ⟨rfl, hb4⟩
            have G4 := Lib.hid (G3.out.trans (hb4.mono G3.out.size))
            have O4 := Lib.hid (O3.out.on hb4)
            clear hb4 g0 GT
            go_wp2_with fail
            go_roundw
            case rel => exact ⟨j + 1, out, by go_num, .inr HLT2.out, Nat.le_succ_of_le HOUT.out, BN.out, O4.out, G4.out⟩
            case measure => have := HLT2.out; simp [intOf]; omega
          · have BN := Lib.hid (show betweenV o e = (out ++ [((x1, y1), gv)]) ++ betweenV o (e.drop (j + 1)) from by rw [BE.out, BS.out]; simp)
            have HOL := Lib.hid (show out.length + [(((x1, y1), gv) : Pc)].length ≤ 1000000000 from by rw [List.length_singleton]; have := HOUT.out; have := EL.out; have := HLT2.out; omega)
            go_wp2_with fail
            refine (GT.out).mono ?_
            rintro z w4 ⟨rfl, hb4⟩
            have G4 := Lib.hid (G3.out.trans (hb4.mono G3.out.size))
            have O4 := Lib.hid (O3.out.on hb4)
            have g0 := (hb4.cell (p := ⟨be, oe + j, none⟩) HLO.out).trans HG0.out
            have g1 := (hb4.cell (p := ⟨be, oe + (j + 1), none⟩) HLO.out).trans HG1.out
            clear hb4 GT
            go_wp2_with fail
            have HI : (fun W => W = w4.drew) w4.drew := rfl
            refine regk_start [13, 14] (fun W => W = w4.drew) (by kernel_rfl) ?_
            refine regk_free 0 58 (v := ?_) (T' := ?_) (fun _ => HI) (by kernel_rfl) (by kernel_rfl) (by kernel_rfl) (by kernel_rfl) (fun _ _ _ h => h) (fun o ho => ?_) ?_ ?_
            rotate_left 2
            · cases ho
              refine ⟨rfl, rfl, fun W => ?_⟩
              go_simp; (try with_reducible rfl)
            · simp only [List.setIfInBounds_toArray, List.set_cons_succ, List.set_cons_zero]; exact rfl
            refine regk_free 1 59 (v := ?_) (T' := ?_) (fun _ => HI) (by kernel_rfl) (by kernel_rfl) (by kernel_rfl) (by kernel_rfl) (fun _ _ _ h => h) (fun o ho => ?_) ?_ ?_
            rotate_left 2
            · cases ho
              refine ⟨rfl, rfl, fun W => ?_⟩
              go_simp; (try with_reducible rfl)
            · simp only [List.setIfInBounds_toArray, List.set_cons_succ, List.set_cons_zero]; exact rfl
            refine regk_free 2 60 (v := ?_) (T' := ?_) (fun _ => HI) (by kernel_rfl) (by kernel_rfl) (by kernel_rfl) (by kernel_rfl) (fun _ _ _ h => h) (fun o ho => ?_) ?_ ?_
            rotate_left 2
            · cases ho
              refine ⟨rfl, rfl, fun W => ?_⟩
              go_simp; (try with_reducible rfl)
            · simp only [List.setIfInBounds_toArray, List.set_cons_succ, List.set_cons_zero]; exact rfl
            refine regk_free 3 61 (v := ?_) (T' := ?_) (fun _ => HI) (by kernel_rfl) (by kernel_rfl) (by kernel_rfl) (by kernel_rfl) (fun _ _ _ h => h) (fun o ho => ?_) ?_ ?_
            rotate_left 2
            · cases ho
              refine ⟨rfl, rfl, fun W => ?_⟩
              go_simp; (try with_reducible rfl)
            · simp only [List.setIfInBounds_toArray, List.set_cons_succ, List.set_cons_zero]; exact rfl
            refine regk_take 4 62 (v := ?_) (T' := ?_) HI (by kernel_rfl) (by kernel_rfl) (by kernel_rfl) (by kernel_rfl) (by kernel_rfl) (by kernel_rfl) (fun _ _ _ h => h) (fun o ho => ?_) ?_ ?_
            rotate_left 2
            · cases ho
              refine ⟨rfl, rfl, fun W hW => ?_⟩
              have hW := (show W = _ from hW); subst hW; go_simp; (try with_reducible rfl)
            · simp only [List.setIfInBounds_toArray, List.set_cons_succ, List.set_cons_zero]; exact rfl
            refine regk_free 5 63 (v := ?_) (T' := ?_) (fun _ => HI) (by kernel_rfl) (by kernel_rfl) (by kernel_rfl) (by kernel_rfl) (fun _ _ _ h => h) (fun o ho => ?_) ?_ ?_
            rotate_left 2
            · cases ho
              refine ⟨rfl, rfl, fun W => ?_⟩
              go_simp; (try with_reducible rfl)
            · simp only [List.setIfInBounds_toArray, List.set_cons_succ, List.set_cons_zero]; exact rfl
            refine regk_free 6 64 (v := ?_) (T' := ?_) (fun _ => HI) (by kernel_rfl) (by kernel_rfl) (by kernel_rfl) (by kernel_rfl) (fun _ _ _ h => h) (fun o ho => ?_) ?_ ?_
            rotate_left 2
            · cases ho
              refine ⟨rfl, rfl, fun W => ?_⟩
              go_simp; (try with_reducible rfl)
            · simp only [List.setIfInBounds_toArray, List.set_cons_succ, List.set_cons_zero]; exact rfl
            refine regk_free 7 65 (v := ?_) (T' := ?_) (fun _ => HI) (by kernel_rfl) (by kernel_rfl) (by kernel_rfl) (by kernel_rfl) (fun _ _ _ h => h) (fun o ho => ?_) ?_ ?_
            rotate_left 2
            · cases ho
              refine ⟨rfl, rfl, fun W => ?_⟩
              go_simp; (try with_reducible rfl)
            · simp only [List.setIfInBounds_toArray, List.set_cons_succ, List.set_cons_zero]; exact rfl
            refine regk_free 8 66 (v := ?_) (T' := ?_) (fun _ => HI) (by kernel_rfl) (by kernel_rfl) (by kernel_rfl) (by kernel_rfl) (fun _ _ _ h => h) (fun o ho => ?_) ?_ ?_
            rotate_left 2
            · cases ho
              refine ⟨rfl, rfl, fun W => ?_⟩
              go_simp; (try with_reducible rfl)
            · simp only [List.setIfInBounds_toArray, List.set_cons_succ, List.set_cons_zero]; exact rfl
            refine regk_take 9 67 (v := ?_) (T' := ?_) HI (by kernel_rfl) (by kernel_rfl) (by kernel_rfl) (by kernel_rfl) (by kernel_rfl) (by kernel_rfl) (fun _ _ _ h => h) (fun o ho => ?_) ?_ ?_
            rotate_left 2
            · cases ho
              refine ⟨rfl, rfl, fun W hW => ?_⟩
              have hW := (show W = _ from hW); subst hW; go_simp; (try with_reducible rfl)
            · simp only [List.setIfInBounds_toArray, List.set_cons_succ, List.set_cons_zero]; exact rfl
            refine regk_free 10 68 (v := ?_) (T' := ?_) (fun _ => HI) (by kernel_rfl) (by kernel_rfl) (by kernel_rfl) (by kernel_rfl) (fun _ _ _ h => h) (fun o ho => ?_) ?_ ?_
            rotate_left 2
            · cases ho
              refine ⟨rfl, rfl, fun W => ?_⟩
              go_simp; (try with_reducible rfl)
            · simp only [List.setIfInBounds_toArray, List.set_cons_succ, List.set_cons_zero]; exact rfl
            refine regk_free 11 69 (v := ?_) (T' := ?_) (fun _ => HI) (by kernel_rfl) (by kernel_rfl) (by kernel_rfl) (by kernel_rfl) (fun _ _ _ h => h) (fun o ho => ?_) ?_ ?_
            rotate_left 2
            · cases ho
              refine ⟨rfl, rfl, fun W => ?_⟩
              go_simp; (try with_reducible rfl)
            · simp only [List.setIfInBounds_toArray, List.set_cons_succ, List.set_cons_zero]; exact rfl
            refine regk_free 12 70 (v := ?_) (T' := ?_) (fun _ => HI) (by kernel_rfl) (by kernel_rfl) (by kernel_rfl) (by kernel_rfl) (fun _ _ _ h => h) (fun o ho => ?_) ?_ ?_
            rotate_left 2
            · cases ho
              refine ⟨rfl, rfl, fun W => ?_⟩
              go_simp; (try with_reducible rfl)
            · simp only [List.setIfInBounds_toArray, List.set_cons_succ, List.set_cons_zero]; exact rfl
            refine regk_make (I' := (fun W => W = w4.drew)) (fun _ h => h) 13 71 (v := .slice (some ⟨w4.heap.size, 0, none⟩) 1 1) (w' := w4.drew.alloc (.cells #[.int .i64 x1, .int .i64 y1, .string gv] 48)) (T' := ?_) (by kernel_rfl) (fun o ho => ?_) (noB_no (by kernel_rfl)) ?_ ?_
            rotate_left
            · cases ho
              refine ⟨rfl, rfl, ?_⟩
              go_simp
            · simp only [List.setIfInBounds_toArray, List.set_cons_succ, List.set_cons_zero]; exact rfl
            obtain ⟨v7, w7, hrun, ho7, hg7, hb7⟩ := appX_run (P := Try.prog) (L := pcL) (W := w4.drew.alloc (.cells #[.int .i64 x1, .int .i64 y1, .string gv] 48)) (g := w4.heap.size) (c := 1) (m := 1) (ty := 34) (r := [((x1, y1), gv)]) Try.underlying34 pc_info rfl ((show OwnPc w4.drew _ _ _ from O4.out).on (alloc_below _ _)) (heap_alloc_new w4.drew _) rfl (by have := G4.out.size; simp; omega) HOL.out (by decide)
            refine regk_make (I' := (fun W => W = w4.drew)) (fun _ h => h) 14 72 (v := v7) (w' := w7) (T' := ?_) (by kernel_rfl) (fun o ho => ?_) (noB_no (by kernel_rfl)) ?_ ?_
            rotate_left
            · cases ho
              exact ⟨rfl, rfl, exec_appK (.tmp 58) (.tmp 71) rfl rfl rfl hrun⟩
            · simp only [List.setIfInBounds_toArray, List.set_cons_succ, List.set_cons_zero]; exact rfl
            refine regk_free 15 10 (v := ?_) (T' := ?_) (noB_no (by kernel_rfl)) (by kernel_rfl) (by kernel_rfl) (by kernel_rfl) (by kernel_rfl) (fun _ _ _ h => h) (fun o ho => ?_) ?_ ?_
            rotate_left 2
            · cases ho
              refine ⟨rfl, rfl, fun W => ?_⟩
              go_simp; (try with_reducible rfl)
            · simp only [List.setIfInBounds_toArray, List.set_cons_succ, List.set_cons_zero]; exact rfl
            refine regk_done (by kernel_rfl) ?_
            go_wp2_with fail
            go_roundw
            case rel => exact ⟨j + 1, _, by go_num, .inr HLT2.out, by rw [List.length_append, List.length_singleton]; have := HOUT.out; omega, BN.out, ho7, G4.out.trans ((Below.refl w2.heap.size w4).trans (((Below.refl _ w4).drewN 1).trans (((alloc_below w4.drew _).mono G4.out.size).trans (hb7.mono (Nat.le_refl _)))))⟩
            case measure => have := HLT2.out; simp [intOf]; omega
        · have zl2 : decide ((j : Int) + 1 < (e.length : Int)) = false := by rw [decide_eq_false_iff_not]; omega
          have zn2 : decide (j + 1 < e.length) = false := by rw [decide_eq_false_iff_not]; exact hlt2
          have BN := Lib.hid (show betweenV o e = out from by rw [BE.out, between_last (by omega), List.append_nil])
          rw [BN.out] at ST
          have LE := Lib.hid (ref_least _ out w3 O3.out.rd (by have := HOUT.out; have := EL.out; omega))
          clear hlt2
          go_wp2_with fail
          refine (LE.out).mono ?_
          rintro z w5 ⟨v5, rfl, ho5, hb5⟩
          rw [ST.out] at ho5
          have O5 := Lib.hid ho5
          have G5 := Lib.hid (G2.out.trans ((G3.out.trans (hb5.mono G3.out.size)).mono LW.out))
          have L5 := Lib.hid (show w.heap.size ≤ w3.heap.size from Nat.le_trans LW.out G3.out.size)
          clear ho5 hb5
          go_wp2_with fail
          go_ret
          exact ⟨_, rfl, OwnX.mono O5.out L5.out, G5.out⟩
end Go.Proofs.Ytlpakooogbaclaa
