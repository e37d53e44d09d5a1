/- Layer 11: a branch's path, gone by a jump back to its label, and the nearest branch of two: by the project. -/
import Derived.Test.YtopiddlijlcbbaaTa
import Derived.Test.YtopiddlijlcbbaaTb
import Derived.BigQuiet
namespace Go.Proofs.Ytopiddlijlcbbaa
open Go.RowKit
set_option linter.unusedVariables false

theorem path_up {l : List Br} (hm : mayT l = true) {k : Nat} (hk : k < l.length) {p f q : Int} {d : Bool} (hx : l[k] = ⟨p, f, q, d⟩) (e : Int) (h : 0 ≤ p) :
    pathT l k e = ((k : Int), e) :: pathT l p (if f < e then f else e) ∧ p.toNat < k ∧ p.toNat < l.length := by
  have h1 := path_step hm (List.getElem?_eq_getElem hk) e
  rw [hx] at h1
  simp only at h1
  rw [if_neg (by omega)] at h1
  have h2 := may_at hm (List.getElem?_eq_getElem hk)
  rw [hx] at h2
  have h0 : 0 < k := by
    rcases Nat.eq_zero_or_pos k with rfl | h0
    · have := ok_zero h2; simp only at this; omega
    · exact h0
  have hu := ok_up h2 h0
  simp only at hu
  exact ⟨h1, by omega, by omega⟩
theorem path_top {l : List Br} (hm : mayT l = true) {k : Nat} (hk : k < l.length) {p f q : Int} {d : Bool} (hx : l[k] = ⟨p, f, q, d⟩) (e : Int) (h : p < 0) :
    pathT l k e = [((k : Int), e)] := by
  have h1 := path_step hm (List.getElem?_eq_getElem hk) e
  rw [hx] at h1
  simp only at h1
  rwa [if_pos h] at h1
set_option maxHeartbeats 8000000 in
set_option maxRecDepth 1000000 in
theorem path_k : PathK := by
  intro va l b e w ha
  have HA := Lib.hid ha
  have MY := Lib.hid (may_k va l w ha)
  obtain ⟨A, ca, rfl, -⟩ := ha
  cases hm : mayT l
  · have HP := Lib.hid (path_none (l := l) (b := b) (e := e) (by rw [hm]; simp))
    rw [hm] at MY
    clear hm
    go_enter Try.func11, Try.ntmps11
    go_wp2_with fail
    go_step3
    go_wp2_with fail
    refine MY.out.mono ?_
    rintro z w1 ⟨rfl, hb1⟩
    have G := Lib.hid hb1
    clear hb1
    go_wp2_with fail
    rw [Exit.noGoto_ret]
    go_ret
    exact ⟨_, rfl, by rw [HP.out]; exact OwnX.nil _ _, G.out⟩
  rw [hm] at MY
  rcases Int.lt_or_le b 0 with h0 | h0
  · have z1 : decide (b < 0) = true := by simp; omega
    have HP := Lib.hid (path_none (l := l) (b := b) (e := e) (by omega))
    clear hm h0
    go_enter Try.func11, Try.ntmps11
    go_wp2_with fail
    go_step3
    go_wp2_with fail
    refine MY.out.mono ?_
    rintro z w1 ⟨rfl, hb1⟩
    have G := Lib.hid hb1
    clear hb1
    go_wp2_with fail
    rw [Exit.noGoto_ret]
    go_ret
    exact ⟨_, rfl, by rw [HP.out]; exact OwnX.nil _ _, G.out⟩
  obtain ⟨k0, rfl⟩ : ∃ k : Nat, b = (k : Int) := ⟨b.toNat, by omega⟩
  have z1 : decide ((k0 : Int) < 0) = false := by simp
  rcases Nat.lt_or_ge k0 l.length with hk | hk
  · have z2 : decide ((l.length : Int) ≤ (k0 : Int)) = false := by rw [decide_eq_false_iff_not]; omega
    have z2n : decide (l.length ≤ k0) = false := by rw [decide_eq_false_iff_not]; omega
    have HM := Lib.hid hm
    have HPF := Lib.hid (path_few l (k0 : Int) e)
    obtain ⟨x, hx⟩ : ∃ x, l[k0] = x := ⟨_, rfl⟩
    obtain ⟨p, f, q, d⟩ := x
    obtain ⟨bb, o, rfl, -, -⟩ := RdX.br HA.out k0 hk hx
    have HK0 := Lib.hid hk
    obtain ⟨PL, hPL⟩ : ∃ PL, pathT l (k0 : Int) e = PL := ⟨_, rfl⟩
    rw [hPL] at HPF
    have HPL := Lib.hid hPL
    rw [hPL]
    clear hm h0 hx hPL hk
    go_enter Try.func11, Try.ntmps11
    go_wp2_with fail
    refine wp_scope_jumps 0 (fun a' w' => ∃ (k : Nat) (e' : Int) (r : List (Int × Int)) (x u8 u9 u10 u11 u12 u13 u14 u15 u16 u17 u18 u19 u20 u21 u22 u23 u24 u25 u26 u27 u28 u29 u30 u31 u32 u33 u34 u35 u36 u37 u38 u39 u40 u41 : Value), (k < l.length ∧ PL = r ++ pathT l (k : Int) e' ∧ OwnX lgL 28 w' w.heap.size x r ∧ Below w.heap.size w w') ∧ a' = { tmps := #[.slice (some ⟨bb, o, none⟩) l.length ca, .int .i64 (k : Int), .int .i64 e', undef, undef, undef, .slice none 0 0, x, u8, u9, u10, u11, u12, u13, u14, u15, u16, u17, u18, u19, u20, u21, u22, u23, u24, u25, u26, u27, u28, u29, u30, u31, u32, u33, u34, u35, u36, u37, u38, u39, u40, u41], defers := [] })
      (fun a' _ => (intOf (a'.tmps.getD 1 undef)).toNat) rfl ?first ?pass
    case' first =>
      go_wp2_with fail
      refine MY.out.mono ?_
      rintro z w1 ⟨rfl, hb1⟩
      have G := Lib.hid hb1
      clear hb1 MY
      go_wp2_with fail
      clear z1 z2 z2n
      go_step3
      simp only [Exit.then]
      rename_i K hK
      refine hK _ _ ?_
      clear hK K
      refine (?_ : ∀ (k : Nat) (e' : Int) (r : List (Int × Int)) (x u8 u9 u10 u11 u12 u13 u14 u15 u16 u17 u18 u19 u20 u21 u22 u23 u24 u25 u26 u27 u28 u29 u30 u31 u32 u33 u34 u35 u36 u37 u38 u39 u40 u41 : Value) (w' : World), (k < l.length ∧ PL = r ++ pathT l (k : Int) e' ∧ OwnX lgL 28 w' w.heap.size x r ∧ Below w.heap.size w w') → Code.wp Try.prog _ _ { tmps := #[.slice (some ⟨bb, o, none⟩) l.length ca, .int .i64 (k : Int), .int .i64 e', undef, undef, undef, .slice none 0 0, x, u8, u9, u10, u11, u12, u13, u14, u15, u16, u17, u18, u19, u20, u21, u22, u23, u24, u25, u26, u27, u28, u29, u30, u31, u32, u33, u34, u35, u36, u37, u38, u39, u40, u41], defers := [] } w') k0 e [] (.slice none 0 0) _ _ _ _ _ _ _ _ _ _ _ _ _ _ _ _ _ _ _ _ _ _ _ _ _ _ _ _ _ _ _ _ _ _ w1 ⟨HK0.out, HPL.out.symm, OwnX.nil _ _, G.out⟩
      clear G HPL
      intro k e' r x u8 u9 u10 u11 u12 u13 u14 u15 u16 u17 u18 u19 u20 u21 u22 u23 u24 u25 u26 u27 u28 u29 u30 u31 u32 u33 u34 u35 u36 u37 u38 u39 u40 u41 w' hf
    case' pass =>
      clear MY z1 z2 z2n HPL
      rintro a' w' ⟨k, e', r, x, u8, u9, u10, u11, u12, u13, u14, u15, u16, u17, u18, u19, u20, u21, u22, u23, u24, u25, u26, u27, u28, u29, u30, u31, u32, u33, u34, u35, u36, u37, u38, u39, u40, u41, hf, rfl⟩
    all_goals
      obtain ⟨hk, hP, ho, hb⟩ := hf
      have G := Lib.hid hb
      have O := Lib.hid ho
      have HP := Lib.hid hP
      have HK := Lib.hid hk
      have HRL := Lib.hid (show r.length ≤ 16 from by have := HPF.out; rw [hP, List.length_append] at this; omega)
      have hki : (k : Int) < (l.length : Int) := by omega
      obtain ⟨y, hy⟩ : ∃ y, l[k] = y := ⟨_, rfl⟩
      obtain ⟨p, f, q, d⟩ := y
      have HY := Lib.hid hy
      clear hk hP ho hb hy
      rcases Int.lt_or_le p 0 with hp | hp
      · have zp : decide (0 ≤ p) = false := by rw [decide_eq_false_iff_not]; omega
        have HN := Lib.hid (show PL = r ++ [((k : Int), e')] from by rw [HP.out, path_top HM.out HK.out HY.out e' hp])
        clear hp HP
        go_wp2_with (at_builtin; refine wpl_appX (L := lgL) rfl (.tmp 22) (.tmp 26) rfl Try.underlying24 lg_info rfl w.heap.size _ r [((k : Int), e')] _ _ _ rfl rfl rfl rfl O.out G.out.size (by rw [List.length_singleton]; have := HRL.out; omega) (by decide) ?_; intro v5 w5 ho5 hg5 hb5; obtain ⟨bb2, o2, hbo, -, e0, e1, e2, e3⟩ := RdX.br (HA.out.below (G.out.trans hb5)) k HK.out HY.out; cases hbo)
        simp only [Exit.jump]
        go_ret
        exact ⟨_, rfl, by rw [HN.out]; exact ho5.on (alloc_below w5 _), (G.out.trans hb5).alloc (by have := hb5.size; have := G.out.size; omega) _⟩
      · have zp : decide (0 ≤ p) = true := by simp; exact hp
        obtain ⟨p, rfl⟩ : ∃ n : Nat, p = (n : Int) := ⟨p.toNat, by omega⟩
        have hup := path_up HM.out HK.out HY.out e' hp
        rw [Int.toNat_natCast, show (if f < e' then f else e') = (if e' < f then e' else f) from by split <;> split <;> omega] at hup
        have HN := Lib.hid (show PL = (r ++ [((k : Int), e')]) ++ pathT l (p : Int) (if e' < f then e' else f) from by rw [HP.out, hup.1, List.append_assoc]; rfl)
        have HU1 := Lib.hid hup.2.1
        have HU2 := Lib.hid hup.2.2
        clear hup HP hp
        go_wp2_with (at_builtin; refine wpl_appX (L := lgL) rfl (.tmp 22) (.tmp 26) rfl Try.underlying24 lg_info rfl w.heap.size _ r [((k : Int), e')] _ _ _ rfl rfl rfl rfl O.out G.out.size (by rw [List.length_singleton]; have := HRL.out; omega) (by decide) ?_; intro v5 w5 ho5 hg5 hb5; obtain ⟨bb2, o2, hbo, -, e0, e1, e2, e3⟩ := RdX.br (HA.out.below (G.out.trans hb5)) k HK.out HY.out; cases hbo)
        have G2 := Lib.hid ((G.out.trans hb5).alloc (by have := hb5.size; have := G.out.size; omega) (.cells #[.int .i64 (p : Int), .int .i64 f, .int .i64 q, .bool d] 37))
        have O2 := Lib.hid (ho5.on (alloc_below w5 (.cells #[.int .i64 (p : Int), .int .i64 f, .int .i64 q, .bool d] 37)))
        have BX := Box.new w5 #[.int .i64 (p : Int), .int .i64 f, .int .i64 q, .bool d] 37 _ rfl
        have c0 := BX.cell 0 _ rfl
        have c1 := BX.cell 1 _ rfl
        generalize w5.alloc (.cells #[.int .i64 (p : Int), .int .i64 f, .int .i64 q, .bool d] 37) = W at *
        clear ho5 hg5 hb5 BX
        go_quiet (fail)
        generalize (if e' < f then e' else f) = E at *
        have G3 := Lib.hid (G2.out.drewN nq)
        have O3 := Lib.hid (show OwnX lgL 28 (W.drewN nq) w.heap.size v5 (r ++ [((k : Int), e')]) from O2.out)
        go_wp2_with fail
        go_step3
        first
          | exact ⟨rfl, p, _, _, _, _, _, _, _, _, _, _, _, _, _, _, _, _, _, _, _, _, _, _, _, _, _, _, _, _, _, _, _, _, _, _, _, _, _, ⟨HU2.out, HN.out, O3.out, G3.out⟩, rfl⟩
          | exact ⟨rfl, ⟨p, _, _, _, _, _, _, _, _, _, _, _, _, _, _, _, _, _, _, _, _, _, _, _, _, _, _, _, _, _, _, _, _, _, _, _, _, _, ⟨HU2.out, HN.out, O3.out, G3.out⟩, rfl⟩, by have := HU1.out; simp [intOf]; omega⟩
  · have z2 : decide ((l.length : Int) ≤ (k0 : Int)) = true := by simp; omega
    have z2n : decide (l.length ≤ k0) = true := by simp; omega
    have HP := Lib.hid (path_none (l := l) (b := (k0 : Int)) (e := e) (by omega))
    clear hm h0 hk
    go_enter Try.func11, Try.ntmps11
    go_wp2_with fail
    go_step3
    go_wp2_with fail
    refine MY.out.mono ?_
    rintro z w1 ⟨rfl, hb1⟩
    have G := Lib.hid hb1
    clear hb1
    go_wp2_with fail
    rw [Exit.noGoto_ret]
    go_ret
    exact ⟨_, rfl, by rw [HP.out]; exact OwnX.nil _ _, G.out⟩

set_option maxHeartbeats 4000000 in
set_option maxRecDepth 100000 in
theorem common_k : CommonK := by
  intro va l a b w ha
  have HA := Lib.hid ha
  have PB := Lib.hid (path_k va l b 0 w ha)
  have PL := Lib.hid (path_few l a 0)
  have QL := Lib.hid (path_few l b 0)
  have HC := Lib.hid (show commonT l a b = firstIn (pathT l b 0) (pathT l a 0) from rfl)
  have PA := Lib.hid (fun w h => path_k va l a 0 w h)
  generalize pathT l a 0 = p at *
  generalize pathT l b 0 = q at *
  generalize commonT l a b = R at *
  obtain ⟨A, ca, rfl, -⟩ := ha
  go_enter Try.func21, Try.ntmps21
  go_wp2_with fail
  refine PB.out.mono ?_
  rintro z w1 ⟨v1, rfl, ho1, hb1⟩
  have O1 := Lib.hid ho1.rd
  have G := Lib.hid hb1
  obtain ⟨A1, c1, ev1, -⟩ := ho1.rd
  subst ev1
  clear ho1 hb1 PB
  go_wp2_with fail
  refine (PA.out _ ((HA.out.below G.out).more G.out.size)).mono ?_
  rintro z w2 ⟨v2, rfl, ho2, hb2⟩
  have O1 := Lib.hid (O1.out.on hb2)
  have O2 := Lib.hid ho2.rd
  have G := Lib.hid (G.out.trans (hb2.mono G.out.size))
  obtain ⟨A2, c2, ev2, -⟩ := ho2.rd
  subst ev2
  clear ho2 hb2 PA
  go_wp2_with fail
  go_loopw [17] (fun i wr => ∃ j : Nat, i = .int .i64 j ∧ j ≤ p.length ∧ R = firstIn q (p.drop j) ∧ Below w2.heap.size w2 wr) (fun i _ => p.length - (intOf i).toNat)
  case atStart => exact ⟨0, rfl, Nat.zero_le _, by rw [List.drop_zero]; exact HC.out, Below.refl _ _⟩
  case round =>
    obtain ⟨j, rfl, hj, hR, hbw⟩ := hrel
    rename World => wo
    have GW := Lib.hid hbw
    have HR := Lib.hid hR
    clear hbw hR HC
    by_cases hlt : j < p.length
    · have zl : decide ((j : Int) < (p.length : Int)) = true := by simp; omega
      have hji : (j : Int) < (p.length : Int) := by omega
      have hw64 : IntKind.i64.wrap ((j : Int) + 1) = (j : Int) + 1 := by rw [IntKind.wrap_i64]; have := PL.out; omega
      obtain ⟨g, hg⟩ : ∃ g, p[j] = g := ⟨_, rfl⟩
      obtain ⟨x, y⟩ := g
      have HS := Lib.hid (first_drop hlt hg q)
      obtain ⟨bb, o, rfl, -, e0, e1⟩ := RdX.lg (O2.out.below GW.out) j hlt hg
      clear hg
      have BX := Lib.hid (Box.new wo #[.int .i64 x, .int .i64 y] 28 _ rfl)
      have GA := Lib.hid (GW.out.alloc GW.out.size (.cells #[.int .i64 x, .int .i64 y] 28))
      have ST := Lib.hid (tr_stands _ q x _ (((O1.out.below GW.out).more GW.out.size).on (alloc_below wo (.cells #[.int .i64 x, .int .i64 y] 28))) (by have := QL.out; omega))
      have c0 := BX.out.cell 0 _ rfl
      go_wp2_with fail
      refine ST.out.mono ?_
      rintro z w3 ⟨rfl, hb3⟩
      have BX := Lib.hid (BX.out.later hb3)
      have GA := Lib.hid (GA.out.trans (hb3.mono GA.out.size))
      clear hb3 ST e0 e1 c0 GW
      cases c1 : q.any fun o => o.1 == x
      · have HN := Lib.hid (show R = firstIn q (p.drop (j + 1)) from by rw [HR.out, HS.out, c1]; rfl)
        clear HR HS
        go_wp2_with fail
        go_roundw
        case rel => exact ⟨j + 1, by go_num, by omega, HN.out, GA.out⟩
        case measure => simp [intOf]; omega
      · have HN := Lib.hid (show R = x from by rw [HR.out, HS.out, c1]; rfl)
        have c0 := BX.out.cell 0 _ rfl
        clear HR HS
        go_wp2_with fail
        go_ret
        exact ⟨ret_int HN.out.symm, G.out.trans (GA.out.mono G.out.size)⟩
    · have hjl : j = p.length := by omega
      subst hjl
      have HN := Lib.hid (show R = -1 from by rw [HR.out, List.drop_length]; rfl)
      have zl : decide ((p.length : Int) < (p.length : Int)) = false := by simp
      clear hlt
      go_wp2_with fail
      go_ret
      exact ⟨ret_int HN.out.symm, G.out.trans (GW.out.mono G.out.size)⟩
end Go.Proofs.Ytopiddlijlcbbaa
