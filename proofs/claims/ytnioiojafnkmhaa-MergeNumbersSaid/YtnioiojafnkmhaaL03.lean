/- MergeNumbers: merged numbers and texts are the document's: any sorted lists (made of any; the first 4, the first 12 of each, the first 5 bytes of texts). No conditions. -/
import Derived.Test.YtnioiojafnkmhaaNk
import Derived.Test.YtnioiojafnkmhaaMo
import Derived.ChangeMaps5
namespace Go.Proofs.Ytnioiojafnkmhaa.L03
open Go.RowKit Go.ChangeShapes Go.WideShapes Go.ChangeAt
set_option linter.unusedVariables false

theorem ints_info : (Try.prog.info? 43).map (fun i => (i.zero, i.size, i.bytes)) = some (some (.slice none 0 0), 1, 24) := by kernel_rfl
theorem strs_info : (Try.prog.info? 45).map (fun i => (i.zero, i.size, i.bytes)) = some (some (.slice none 0 0), 1, 24) := by kernel_rfl
def cut5 (s : ByteArray) : ByteArray := if 5 < s.size then s.extract 0 5 else s
def numL (l : List Int) : List Int := sortR intLt (l.take 12)
def numsL (ls : List (List Int)) : List (List Int) := ls.map numL
def strX (l : List ByteArray) : List ByteArray := sortR strLt ((l.take 12).map cut5)
def strsL (ls : List (List ByteArray)) : List (List ByteArray) := ls.map strX
theorem flat_le {α : Type} (n m : Nat) : ∀ L : List (List α), (∀ l ∈ L, l.length ≤ n) → L.length ≤ m → L.flatten.length ≤ m * n := by
  have key : ∀ L : List (List α), (∀ l ∈ L, l.length ≤ n) → L.flatten.length ≤ L.length * n := by
    intro L
    induction L with
    | nil => intro _; simp
    | cons a L ih =>
      intro h
      rw [List.flatten_cons, List.length_append, List.length_cons, Nat.add_mul]
      have h1 := h a List.mem_cons_self
      have h2 := ih fun l hl => h l (List.mem_cons_of_mem _ hl)
      omega
  exact fun L h hm => Nat.le_trans (key L h) (Nat.mul_le_mul_right n hm)
theorem nums_len (ls : List (List Int)) : (numsL (ls.take 4)).flatten.length ≤ 48 := flat_le 12 4 _ (fun l hl => by
  obtain ⟨m, -, rfl⟩ := List.mem_map.1 hl
  unfold numL; rw [sortR_len, List.length_take]; omega) (by simp only [numsL, List.length_map, List.length_take]; omega)
theorem strs_len (ls : List (List ByteArray)) : (strsL (ls.take 4)).flatten.length ≤ 48 := flat_le 12 4 _ (fun l hl => by
  obtain ⟨m, -, rfl⟩ := List.mem_map.1 hl
  unfold strX; rw [sortR_len, List.length_map, List.length_take]; omega) (by simp only [strsL, List.length_map, List.length_take]; omega)
theorem nums_asc (ls : List (List Int)) : ∀ l ∈ numsL ls, Asc intLt l := fun l hl => by
  obtain ⟨m, -, rfl⟩ := List.mem_map.1 hl
  exact sortR_asc int_ahead _
theorem strs_asc (ls : List (List ByteArray)) : ∀ l ∈ strsL ls, Asc strLt l := fun l hl => by
  obtain ⟨m, -, rfl⟩ := List.mem_map.1 hl
  exact sortR_asc str_ahead _
/-- The block of such a row is one of its elements' cells. -/
theorem own_row {α : Type} {L : Lay α} {e1 e : TypeId} {w : World} {base : Nat} {v : Value} {ls : List (List α)} (h : OwnXX L e1 e w base v ls) (q : Nat) (hq : v.ownBlock = some q) : ∃ cs f, w.heap[q]? = some (.cells cs e1 f) := by
  obtain ⟨vs, h1, -⟩ := h
  rcases h1.2 with ⟨rfl, _⟩ | ⟨g, cap, cur, rfl, _, hgb, _⟩
  · cases hq
  · simp only [Value.ownBlock, Option.some.injEq] at hq
    subst hq
    exact ⟨_, _, hgb⟩

set_option maxHeartbeats 8000000 in
set_option maxRecDepth 100000 in
theorem walk0 (KN : NumK) (KS : StrK) (v u : Value) (ls : List (List Int)) (ms : List (List ByteArray)) (w : World) (h : RdXX intL w w.heap.size v ls) (hm : RdXX strL w w.heap.size u ms) :
    Calls Try.prog 5 #[v, u] w fun e w' => e = .returned (.bool true) ∧ Below w.heap.size w w' := by
  have R := Lib.hid h
  have RS := Lib.hid hm
  have LV := Lib.hid (law10_lives KN)
  have KN := Lib.hid KN
  have KS := Lib.hid KS
  obtain ⟨A, ca, rfl, hla, hca⟩ := h.form
  obtain ⟨B, cb, rfl, hlb, hcb⟩ := hm.form
  clear h hm
  go_enter Try.func5, Try.ntmps5
  go_wp2_with fail
  go_loopw [5, 6] (fun x i wr => ∃ k : Nat, i = .int .i64 k ∧ k ≤ ls.length ∧ k ≤ 4 ∧ OwnXX intL 43 3 wr w.heap.size x (numsL (ls.take k)) ∧ Below w.heap.size w wr) (fun _ i _ => 4 - (intOf i).toNat)
  case atStart => exact ⟨0, rfl, Nat.zero_le _, by omega, OwnXX.nil _ _, Below.refl _ _⟩
  case round =>
    obtain ⟨k, rfl, hk, hk4, ho, hbw⟩ := hrel
    rename World => wo
    have O := Lib.hid ho
    have G := Lib.hid hbw
    have HS := Lib.hid hbw.size
    clear ho hbw
    by_cases hlt : k < ls.length ∧ k < 4
    · obtain ⟨hlt, hlt4⟩ := hlt
      have zl : decide ((k : Int) < (ls.length : Int)) = true := by simp; omega
      have z4 : decide ((k : Int) < 4) = true := by simp; omega
      obtain ⟨b, o, a1, m1, e1, hbb, c0, r1⟩ := (R.out.below G.out).at k hlt
      subst e1
      have R1 := Lib.hid r1
      have LS := Lib.hid (show numsL (ls.take (k + 1)) = numsL (ls.take k) ++ [numL ls[k]] from by
        show (ls.take (k + 1)).map numL = (ls.take k).map numL ++ [numL ls[k]]
        rw [List.take_succ_eq_append_getElem hlt, List.map_append]; rfl)
      have hal := Lib.hid (show (numsL (ls.take k)).length ≤ 1000000000 from by simp only [numsL, List.length_map, List.length_take]; omega)
      unfold numL at LS
      clear r1 hbb
      by_cases hg : 12 < ls[k].length
      · have z12 : decide ((12 : Int) < (ls[k].length : Int)) = true := by simp; omega
        have z13 : decide (12 < ls[k].length) = true := by simp; omega
        obtain ⟨A1, cc1, h1, rm⟩ := slX_head R1.out Try.underlying43 int_sizeM 12 (12 : Int) rfl (by omega)
        have RM := Lib.hid (RdX.more rm HS.out)
        have hML : (ls[k].take 12).length = 12 := by rw [List.length_take]; omega
        obtain ⟨M, hM⟩ : ∃ M, ls[k].take 12 = M := ⟨_, rfl⟩
        rw [hM] at RM LS hML
        clear rm hM
        go_wp2_with fail
        refine (ref10_numbers _ [M] _ (lit1 43 (RM.out.on (Below.refl _ wo))) (by simp; omega)).mono ?_
        rintro z w1 ⟨v1, rfl, ho1, hb1⟩
        rw [show [M].flatten = M from by simp] at ho1
        have hb1 := (alloc_below wo (.cells #[.slice A1 12 cc1] 43)).trans (hb1.mono (alloc_below wo (.cells #[.slice A1 12 cc1] 43)).size)
        have O1 := Lib.hid (OwnX.mono ho1 (alloc_below wo (.cells #[.slice A1 12 cc1] 43)).size)
        have OX := Lib.hid (O.out.on hb1)
        have GX := Lib.hid (G.out.trans (hb1.mono G.out.size))
        have hsz := Lib.hid GX.out.size
        obtain ⟨A9, c9, e9, -⟩ := ho1.rd
        subst e9
        clear ho1 hb1
        go_wp2_with (at_builtin; refine wplXX_app (L := intL) (e1 := 43) (e := 3) rfl (.tmp 38) (.tmp 42) rfl Try.underlying41 ints_info w.heap.size _ _ (numsL (ls.take k)) (sortR intLt M) _ _ _ rfl rfl rfl rfl OX.out (OwnX.mono O1.out HS.out) (own_apart O1.out O.out (Nat.le_refl _)) hsz.out hal.out ?_; intro v5 w5 ho5 hg5 hb5)
        have OZ := Lib.hid (show OwnXX intL 43 3 w5 w.heap.size v5 (numsL (ls.take (k + 1))) from by rw [LS.out]; exact ho5)
        have GZ := Lib.hid (GX.out.trans hb5)
        clear ho5 hg5 hb5
        go_roundw
        case rel => exact ⟨k + 1, by go_num, by omega, by omega, OZ.out, GZ.out⟩
        case measure => simp [intOf]; omega
      · have z12 : decide ((12 : Int) < (ls[k].length : Int)) = false := by rw [decide_eq_false_iff_not]; omega
        have z13 : decide (12 < ls[k].length) = false := by rw [decide_eq_false_iff_not]; omega
        have hT : ls[k].take 12 = ls[k] := List.take_of_length_le (by omega)
        rw [hT] at LS
        have hML : ls[k].length ≤ 12 := by omega
        obtain ⟨M, hM⟩ : ∃ M, ls[k] = M := ⟨_, rfl⟩
        clear hT
        rw [hM] at R1 LS hML z12 z13 hg c0
        have RM := Lib.hid (RdX.more R1.out HS.out)
        clear hM
        go_wp2_with fail
        refine (ref10_numbers _ [M] _ (lit1 43 (RM.out.on (Below.refl _ wo))) (by simp; omega)).mono ?_
        rintro z w1 ⟨v1, rfl, ho1, hb1⟩
        rw [show [M].flatten = M from by simp] at ho1
        have hb1 := (alloc_below wo (.cells #[.slice a1 M.length m1] 43)).trans (hb1.mono (alloc_below wo (.cells #[.slice a1 M.length m1] 43)).size)
        have O1 := Lib.hid (OwnX.mono ho1 (alloc_below wo (.cells #[.slice a1 M.length m1] 43)).size)
        have OX := Lib.hid (O.out.on hb1)
        have GX := Lib.hid (G.out.trans (hb1.mono G.out.size))
        have hsz := Lib.hid GX.out.size
        obtain ⟨A9, c9, e9, -⟩ := ho1.rd
        subst e9
        clear ho1 hb1
        go_wp2_with (at_builtin; refine wplXX_app (L := intL) (e1 := 43) (e := 3) rfl (.tmp 38) (.tmp 42) rfl Try.underlying41 ints_info w.heap.size _ _ (numsL (ls.take k)) (sortR intLt M) _ _ _ rfl rfl rfl rfl OX.out (OwnX.mono O1.out HS.out) (own_apart O1.out O.out (Nat.le_refl _)) hsz.out hal.out ?_; intro v5 w5 ho5 hg5 hb5)
        have OZ := Lib.hid (show OwnXX intL 43 3 w5 w.heap.size v5 (numsL (ls.take (k + 1))) from by rw [LS.out]; exact ho5)
        have GZ := Lib.hid (GX.out.trans hb5)
        clear ho5 hg5 hb5
        go_roundw
        case rel => exact ⟨k + 1, by go_num, by omega, by omega, OZ.out, GZ.out⟩
        case measure => simp [intOf]; omega
    · have hke : ls.take k = ls.take 4 := by
        by_cases h6 : k < 4
        · have hkl : k = ls.length := by
            rcases Nat.lt_or_ge k ls.length with h | h
            · exact absurd ⟨h, h6⟩ hlt
            · omega
          rw [List.take_of_length_le (by omega), List.take_of_length_le (by omega)]
        · rw [show k = 4 from by omega]
      have hz : (k < ls.length ∧ k = 4) ∨ k = ls.length := by
        rcases Nat.lt_or_ge k ls.length with h | h
        · left; exact ⟨h, by rcases Nat.lt_or_ge k 4 with h2 | h2; exact absurd ⟨h, h2⟩ hlt; omega⟩
        · right; omega
      rw [hke] at O
      have NL := Lib.hid (nums_len ls)
      have NA := Lib.hid (nums_asc (ls.take 4))
      clear hke hlt
      generalize numsL (ls.take 4) = LN at *
      have N := Lib.hid O.out
      obtain ⟨AN, cN, eN, hN1, hN2⟩ := O.out.rd.form
      subst eN
      clear O
      rcases hz with ⟨z0, hk0⟩ | hk0
      case' inl =>
        have z1 : decide ((k : Int) < (ls.length : Int)) = true := by rw [decide_eq_true_iff]; omega
        have z2 : decide ((k : Int) < 4) = false := by rw [decide_eq_false_iff_not]; omega
        have z3 : decide (k < 4) = false := by rw [decide_eq_false_iff_not]; omega
        have z5 : decide (k < ls.length) = true := by rw [decide_eq_true_iff]; omega
        clear hk hk4 z0 hk0
      case' inr =>
        have z1 : decide ((k : Int) < (ls.length : Int)) = false := by rw [decide_eq_false_iff_not]; omega
        have z2 : decide (k < ls.length) = false := by rw [decide_eq_false_iff_not]; omega
        clear hk hk4 hk0
      all_goals
        go_wp2_with fail
        go_loopw [8, 9] (fun x i wr => ∃ k : Nat, i = .int .i64 k ∧ k ≤ ms.length ∧ k ≤ 4 ∧ OwnXX strL 45 9 wr w.heap.size x (strsL (ms.take k)) ∧ OwnXX intL 43 3 wr w.heap.size (.slice AN LN.length cN) LN ∧ Below w.heap.size w wr) (fun _ i _ => 4 - (intOf i).toNat)
        case atStart => exact ⟨0, rfl, Nat.zero_le _, by omega, OwnXX.nil _ _, N.out, G.out⟩
        case round =>
          clear G HS N
          obtain ⟨k, rfl, hk, hk4, ho, hn, hbw⟩ := hrel
          rename World => wo
          have O := Lib.hid ho
          have N := Lib.hid hn
          have G := Lib.hid hbw
          have HS := Lib.hid hbw.size
          clear ho hn hbw
          by_cases hlt : k < ms.length ∧ k < 4
          · obtain ⟨hlt, hlt4⟩ := hlt
            have zl : decide ((k : Int) < (ms.length : Int)) = true := by simp; omega
            have z4 : decide ((k : Int) < 4) = true := by simp; omega
            have LS := Lib.hid (show strsL (ms.take (k + 1)) = strsL (ms.take k) ++ [strX ms[k]] from by
              show (ms.take (k + 1)).map strX = (ms.take k).map strX ++ [strX ms[k]]
              rw [List.take_succ_eq_append_getElem hlt, List.map_append]; rfl)
            have hal := Lib.hid (show (strsL (ms.take k)).length ≤ 1000000000 from by simp only [strsL, List.length_map, List.length_take]; omega)
            unfold strX at LS
            go_wp2_with fail
            go_loopw [10, 11] (fun x i wr => ∃ j : Nat, i = .int .i64 j ∧ j ≤ ms[k].length ∧ j ≤ 12 ∧ OwnX strL 9 wr wo.heap.size x ((ms[k].take j).map cut5) ∧ Below wo.heap.size wo wr) (fun _ i _ => 12 - (intOf i).toNat)
            case atStart => exact ⟨0, rfl, Nat.zero_le _, by omega, OwnX.nil _ _, Below.refl _ _⟩
            case round =>
              obtain ⟨j, rfl, hj, hj12, ho, hbw⟩ := hrel
              rename World => wm
              have P := Lib.hid ho
              have GM := Lib.hid hbw
              obtain ⟨b, o, a1, m1, e1, hbb, c0, r1⟩ := (RS.out.below (G.out.trans (hbw.mono G.out.size))).at k hlt
              cases e1
              have R1 := Lib.hid r1
              clear ho hbw r1
              have hjb : (j : Int) ≤ 12 := by omega
              by_cases hjl : j < ms[k].length ∧ j < 12
              · obtain ⟨hjl, hjl12⟩ := hjl
                have zj : decide ((j : Int) < (ms[k].length : Int)) = true := by simp; omega
                have zj2 : decide ((j : Int) < 12) = true := by simp; omega
                obtain ⟨b1, o1, e1, hb1, c1⟩ := rd_string_at R1.out j hjl
                subst e1
                have FS := Lib.hid (show (ms[k].take (j + 1)).map cut5 = (ms[k].take j).map cut5 ++ [cut5 ms[k][j]] from by rw [List.take_succ_eq_append_getElem hjl, List.map_append]; rfl)
                have hacl : ((ms[k].take j).map cut5).length ≤ 12 := by rw [List.length_map, List.length_take]; omega
                generalize ms[k][j] = s at c1 FS
                generalize (ms[k].take j).map cut5 = acc at P FS hacl
                by_cases h5 : 5 < s.size
                · have z5 : decide ((5 : Int) < (s.size : Int)) = true := by simp; omega
                  have z6 : decide (5 < s.size) = true := by simp; omega
                  rw [show cut5 s = s.extract 0 5 from if_pos h5] at FS
                  have hal1 := Lib.hid (show acc.length + 1 ≤ 1000000000 from by omega)
                  go_wp2_with (at_builtin; refine wpl_appX rfl (.tmp 79) (.tmp 81) rfl Try.underlying45 string_info rfl wo.heap.size _ acc [s.extract 0 5] _ _ _ rfl rfl rfl rfl P.out GM.out.size hal1.out (by decide) ?_; intro v5 w5 ho5 hg5 hb5)
                  have OZ := Lib.hid (show OwnX strL 9 w5 wo.heap.size v5 ((ms[k].take (j + 1)).map cut5) from by rw [FS.out]; exact ho5)
                  have GZ := Lib.hid (GM.out.trans hb5)
                  clear ho5 hg5 hb5
                  go_roundw
                  case rel => exact ⟨j + 1, by go_num, by omega, by omega, OZ.out, GZ.out⟩
                  case measure => simp [intOf]; omega
                · have z5 : decide ((5 : Int) < (s.size : Int)) = false := by rw [decide_eq_false_iff_not]; omega
                  have z6 : decide (5 < s.size) = false := by rw [decide_eq_false_iff_not]; omega
                  rw [show cut5 s = s from if_neg h5] at FS
                  have hal1 := Lib.hid (show acc.length + 1 ≤ 1000000000 from by omega)
                  go_wp2_with (at_builtin; refine wpl_appX rfl (.tmp 79) (.tmp 81) rfl Try.underlying45 string_info rfl wo.heap.size _ acc [s] _ _ _ rfl rfl rfl rfl P.out GM.out.size hal1.out (by decide) ?_; intro v5 w5 ho5 hg5 hb5)
                  have OZ := Lib.hid (show OwnX strL 9 w5 wo.heap.size v5 ((ms[k].take (j + 1)).map cut5) from by rw [FS.out]; exact ho5)
                  have GZ := Lib.hid (GM.out.trans hb5)
                  clear ho5 hg5 hb5
                  go_roundw
                  case rel => exact ⟨j + 1, by go_num, by omega, by omega, OZ.out, GZ.out⟩
                  case measure => simp [intOf]; omega
              · have hke : ms[k].take j = ms[k].take 12 := by
                  by_cases h6 : j < 12
                  · have hkl : j = ms[k].length := by
                      rcases Nat.lt_or_ge j ms[k].length with h | h
                      · exact absurd ⟨h, h6⟩ hjl
                      · omega
                    rw [List.take_of_length_le (by omega), List.take_of_length_le (by omega)]
                  · rw [show j = 12 from by omega]
                have hz : (j < ms[k].length ∧ j = 12) ∨ j = ms[k].length := by
                  rcases Nat.lt_or_ge j ms[k].length with h | h
                  · left; exact ⟨h, by rcases Nat.lt_or_ge j 12 with h2 | h2; exact absurd ⟨h, h2⟩ hjl; omega⟩
                  · right; omega
                rw [hke] at P
                have hML : ((ms[k].take 12).map cut5).length ≤ 12 := by rw [List.length_map, List.length_take]; omega
                generalize (ms[k].take 12).map cut5 = M at P LS hML
                obtain ⟨A8, c8, e8, -⟩ := P.out.rd
                subst e8
                clear hke hjl
                rcases hz with ⟨z0, hk0⟩ | hk0
                case' inl =>
                  have zj : decide ((j : Int) < (ms[k].length : Int)) = true := by rw [decide_eq_true_iff]; omega
                  have zj2 : decide ((j : Int) < 12) = false := by rw [decide_eq_false_iff_not]; omega
                case' inr =>
                  have zj : decide ((j : Int) < (ms[k].length : Int)) = false := by rw [decide_eq_false_iff_not]; omega
                  have zj3 : decide (j < ms[k].length) = false := by rw [decide_eq_false_iff_not]; omega
                all_goals
                  go_wp2_with fail
                  refine (ref10_strings _ [M] _ (lit1 45 P.out.rd) (by simp; omega)).mono ?_
                  rintro z w1 ⟨v1, rfl, ho1, hb1⟩
                  rw [show [M].flatten = M from by simp] at ho1
                  have hb1 := GM.out.trans (((alloc_below wm (.cells #[.slice A8 M.length c8] 45)).trans (hb1.mono (alloc_below wm (.cells #[.slice A8 M.length c8] 45)).size)).mono GM.out.size)
                  have O1 := Lib.hid (OwnX.mono ho1 (Nat.le_trans GM.out.size (alloc_below wm (.cells #[.slice A8 M.length c8] 45)).size))
                  have OX := Lib.hid (O.out.on hb1)
                  have NX := Lib.hid (N.out.on hb1)
                  have GX := Lib.hid (G.out.trans (hb1.mono G.out.size))
                  have hsz := Lib.hid GX.out.size
                  obtain ⟨A9, c9, e9, -⟩ := ho1.rd
                  subst e9
                  clear ho1 hb1
                  go_wp2_with (at_builtin; refine wplXX_app (L := strL) (e1 := 45) (e := 9) rfl (.tmp 83) (.tmp 87) rfl Try.underlying42 strs_info w.heap.size _ _ (strsL (ms.take k)) (sortR strLt M) _ _ _ rfl rfl rfl rfl OX.out (OwnX.mono O1.out HS.out) (own_apart O1.out O.out (Nat.le_refl _)) hsz.out hal.out ?_; intro v5 w5 ho5 hg5 hb5)
                  have OZ := Lib.hid (show OwnXX strL 45 9 w5 w.heap.size v5 (strsL (ms.take (k + 1))) from by rw [LS.out]; exact ho5)
                  have NZ := Lib.hid (NX.out.keep hg5.grown (fun q hq cs t f hc => by
                    rcases own_row OX.out q hq with ⟨cs', f', h'⟩
                    rw [h'] at hc
                    cases hc
                    exact ⟨by decide, by decide⟩))
                  have GZ := Lib.hid (GX.out.trans hb5)
                  clear ho5 hg5 hb5
                  go_roundw
                  case rel => exact ⟨k + 1, by go_num, by omega, by omega, OZ.out, NZ.out, GZ.out⟩
                  case measure => simp [intOf]; omega
          · have hke : ms.take k = ms.take 4 := by
              by_cases h6 : k < 4
              · have hkl : k = ms.length := by
                  rcases Nat.lt_or_ge k ms.length with h | h
                  · exact absurd ⟨h, h6⟩ hlt
                  · omega
                rw [List.take_of_length_le (by omega), List.take_of_length_le (by omega)]
              · rw [show k = 4 from by omega]
            have hz : (k < ms.length ∧ k = 4) ∨ k = ms.length := by
              rcases Nat.lt_or_ge k ms.length with h | h
              · left; exact ⟨h, by rcases Nat.lt_or_ge k 4 with h2 | h2; exact absurd ⟨h, h2⟩ hlt; omega⟩
              · right; omega
            rw [hke] at O
            have TL := Lib.hid (strs_len ms)
            have TA := Lib.hid (strs_asc (ms.take 4))
            clear hke hlt
            generalize strsL (ms.take 4) = LT at *
            obtain ⟨AT, cT, eT, hT1, hT2⟩ := O.out.rd.form
            subst eT
            rcases hz with ⟨z0, hk0⟩ | hk0
            case' inl =>
              have z7 : decide ((k : Int) < (ms.length : Int)) = true := by rw [decide_eq_true_iff]; omega
              have z8 : decide ((k : Int) < 4) = false := by rw [decide_eq_false_iff_not]; omega
            case' inr =>
              have z7 : decide ((k : Int) < (ms.length : Int)) = false := by rw [decide_eq_false_iff_not]; omega
              have z9 : decide (k < ms.length) = false := by rw [decide_eq_false_iff_not]; omega
            all_goals
              clear hk hk4
              go_wp2_with fail
              refine (KN.out _ LN _ N.out.rd NA.out (Nat.le_trans NL.out (by decide))).mono ?_
              rintro z x1 ⟨v1, rfl, ho1, hb1⟩
              have N := Lib.hid (N.out.on hb1)
              have O := Lib.hid (O.out.on hb1)
              have G := Lib.hid (G.out.trans (hb1.mono G.out.size))
              have X1 := Lib.hid ho1
              clear ho1 hb1
              go_wp2_with fail
              refine (ref10_numbers _ LN _ N.out.rd (Nat.le_trans NL.out (by decide))).mono ?_
              rintro z x2 ⟨v2, rfl, ho2, hb2⟩
              have O := Lib.hid (O.out.on hb2)
              have G := Lib.hid (G.out.trans (hb2.mono G.out.size))
              have X1 := Lib.hid (X1.out.on hb2)
              have X2 := Lib.hid ho2
              clear ho2 hb2
              go_wp2_with fail
              refine (KS.out _ LT _ O.out.rd TA.out (Nat.le_trans TL.out (by decide))).mono ?_
              rintro z x3 ⟨v3, rfl, ho3, hb3⟩
              have O := Lib.hid (O.out.on hb3)
              have G := Lib.hid (G.out.trans (hb3.mono G.out.size))
              have X1 := Lib.hid (X1.out.on hb3)
              have X2 := Lib.hid (X2.out.on hb3)
              have X3 := Lib.hid ho3
              clear ho3 hb3
              go_wp2_with fail
              refine (ref10_strings _ LT _ O.out.rd (Nat.le_trans TL.out (by decide))).mono ?_
              rintro z x4 ⟨v4, rfl, ho4, hb4⟩
              have G := Lib.hid (G.out.trans (hb4.mono G.out.size))
              have X1 := Lib.hid (X1.out.on hb4)
              have X2 := Lib.hid (X2.out.on hb4)
              have X3 := Lib.hid (X3.out.on hb4)
              have X4 := Lib.hid ho4
              clear ho4 hb4
              have hA : (sortR intLt LN.flatten).length ≤ 48 := by rw [sortR_len]; exact NL.out
              have hB : (sortR strLt LT.flatten).length ≤ 48 := by rw [sortR_len]; exact TL.out
              generalize sortR intLt LN.flatten = XN at *
              generalize sortR strLt LT.flatten = XS at *
              obtain ⟨B1, d1, f1, -⟩ := X1.out.rd
              obtain ⟨B2, d2, f2, -⟩ := X2.out.rd
              obtain ⟨B3, d3, f3, -⟩ := X3.out.rd
              obtain ⟨B4, d4, f4, -⟩ := X4.out.rd
              subst f1 f2 f3 f4
              have zn : ((XN.length : Int) != (XN.length : Int)) = false := by simp
              have zs : ((XS.length : Int) != (XS.length : Int)) = false := by simp
              go_wp2_with fail
              go_loopw [17] (fun i wr => ∃ j : Nat, i = .int .i64 j ∧ j ≤ XN.length ∧ Below x4.heap.size x4 wr) (fun i _ => XN.length - (intOf i).toNat)
              case atStart => exact ⟨0, rfl, Nat.zero_le _, Below.refl _ _⟩
              case round =>
                obtain ⟨j, rfl, hj, hbw⟩ := hrel
                rename World => wp
                have GP := Lib.hid hbw
                clear hbw
                have hjb : (j : Int) ≤ 48 := by omega
                by_cases hjl : j < XN.length
                · have zl : decide ((j : Int) < (XN.length : Int)) = true := by simp; omega
                  have hi0 : (j : Int) < (XN.length : Int) := by omega
                  obtain ⟨b1, o1, e1, hb1, g1⟩ := rd_int_at (X1.out.on GP.out).rd j hjl
                  obtain ⟨b2, o2, e2, hb2, g2⟩ := rd_int_at (X2.out.on GP.out).rd j hjl
                  subst e1 e2
                  have zz : (XN[j] != XN[j]) = false := by simp
                  generalize XN[j] = x at g1 g2 zz
                  go_wp2_with fail
                  go_quiet (fail)
                  go_wp2_with fail
                  go_roundw
                  case rel => exact ⟨j + 1, by go_num, by omega, GP.out.drewN _⟩
                  case measure => simp [intOf]; omega
                · have zl : decide ((j : Int) < (XN.length : Int)) = false := by rw [decide_eq_false_iff_not]; omega
                  have G := Lib.hid (G.out.trans (GP.out.mono G.out.size))
                  have X3 := Lib.hid (X3.out.on GP.out)
                  have X4 := Lib.hid (X4.out.on GP.out)
                  go_wp2_with fail
                  go_loopw [18] (fun i wr => ∃ j : Nat, i = .int .i64 j ∧ j ≤ XS.length ∧ Below wp.heap.size wp wr) (fun i _ => XS.length - (intOf i).toNat)
                  case atStart => exact ⟨0, rfl, Nat.zero_le _, Below.refl _ _⟩
                  case round =>
                    obtain ⟨t, rfl, ht, hbw⟩ := hrel
                    rename World => wq
                    have GQ := Lib.hid hbw
                    clear hbw
                    have htb : (t : Int) ≤ 48 := by omega
                    by_cases htl : t < XS.length
                    · have zl : decide ((t : Int) < (XS.length : Int)) = true := by simp; omega
                      have hi0 : (t : Int) < (XS.length : Int) := by omega
                      obtain ⟨b1, o1, e1, hb1, g1⟩ := rd_string_at (X3.out.on GQ.out).rd t htl
                      obtain ⟨b2, o2, e2, hb2, g2⟩ := rd_string_at (X4.out.on GQ.out).rd t htl
                      subst e1 e2
                      have zz : (XS[t].toList != XS[t].toList) = false := by simp
                      generalize XS[t] = x at g1 g2 zz
                      go_wp2_with fail
                      go_quiet (fail)
                      go_wp2_with fail
                      go_roundw
                      case rel => exact ⟨t + 1, by go_num, by omega, GQ.out.drewN _⟩
                      case measure => simp [intOf]; omega
                    · have zl : decide ((t : Int) < (XS.length : Int)) = false := by rw [decide_eq_false_iff_not]; omega
                      have G := Lib.hid (G.out.trans (GQ.out.mono G.out.size))
                      go_wp2_with fail
                      refine (LV.out _).mono ?_
                      rintro z w9 ⟨rfl, hb⟩
                      have G := Lib.hid (G.out.trans (hb.mono G.out.size))
                      clear hb
                      go_wp2_with fail
                      go_ret
                      exact ⟨rfl, G.out⟩
-- END
set_option maxRecDepth 100000 in
theorem lifted (os : Os) (started : os.Started) (H : Type) (enc : TypeId × Value → H) :
    ReturnsInHanded {} Try.checked os 5 .any (Rows.mergeNumbersSpec.pre6 enc Try.prog Try.f5 Rows.mergeNumbersRow.domain false) (Rows.mergeNumbersSpec.post enc Try.prog Try.f5 false true false false) := by
  refine returnsInHanded_of_change (C := Try.checked) Try.own started (by kernel_rfl) Try.func5
    (ChangeSpec.witness6 (enc := enc) (C := Try.checked) false ⟨#[], #[.slice none 0 0, .slice none 0 0], []⟩ 8 (by kernel_rfl) (by kernel_rfl) (by kernel_rfl) (by kernel_rfl)) ?_
  intro W base args ds gs before hval0 hW _ _
  have hval : ∀ (j : Nat) t v, Try.f5.params[j]? = some t → args[j]? = some v → Value.okWide Try.prog W .any base t v := hval0
  have hW' := hW
  obtain ⟨p, q, hA0, hV, rfl, _, _⟩ := hW
  have hA : DataW.TrodAll enc Try.prog W 0 (fun _ => true) true Try.f5.params.toList args.toList ds p := hA0
  rw [Try.params5] at hA hval
  obtain ⟨v0, v1, d0, d1, p0, p1, rfl, rfl, rfl, h0, h1⟩ := trodAll_two hA
  obtain ⟨rfl, rfl⟩ := trodVars_none hV
  have hlt := fun x hx => hW'.lt x hx
  obtain ⟨a0, r0, b0⟩ := open_iis (hval 0 _ v0 rfl rfl) h0 (fun x hx => by simpa using hlt x (by simp [hx]))
  obtain ⟨a1, r1, b1⟩ := open_sss (hval 1 _ v1 rfl rfl) h1 (fun x hx => by simpa using hlt x (by simp [hx]))
  refine (walk0 num_k str_k v0 v1 a0 a1 _ r0 r1).mono fun e W' ⟨he, hb⟩ => ⟨_, he, ?_⟩
  exact law_post Try.laidOut (by decide +kernel) rfl Try.underlying4 rfl hW' rfl hb

theorem holds : Rows.MergeNumbersSaid :=
  OpenClaim.holds_of_wide 5 Try.f5 rfl rfl rfl rfl rfl rfl rfl ⟨rfl, rfl, rfl, rfl, rfl⟩ rfl rfl rfl rfl rfl (by kernel_rfl) Try.func5 (by kernel_rfl)
    (of_decide_eq_true (by kernel_rfl)) (by unfold Func.isWrapper; first | (rw [if_pos (by decide +kernel)]; kernel_rfl) | (rw [if_neg (by decide +kernel)]; exact ⟨rfl, rfl⟩))
    (fun os started H enc _ => lifted os started H enc)
end Go.Proofs.Ytnioiojafnkmhaa.L03
