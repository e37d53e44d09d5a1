/- Layer 9: where the first block is that may have a key, by the project. -/
import Derived.Test.YtefjdmlmmoeoaaaWf
namespace Go.Proofs.Ytefjdmlmmoeoaaa
open Go.RowKit
set_option linter.unusedVariables false

/-- The fence of block i. -/
def fen9 (l : List Ver) (i : Nat) : ByteArray := ((pc8 l i).getD 0 zeroV).key
def kcmp (a b : ByteArray) : Int := Ord.cmpStr a.toList b.toList

theorem run_first1 (va : Value) (l : List Ver) (key : ByteArray) (w : World) (ha : RdVr w w.heap.size va l) (hl : 0 < l.length) :
    Calls Try.prog 99 #[va, .string key] w fun e w' => e = .returned (.int .i64 (kcmp (l.getD 0 zeroV).key key)) ∧ w' = w := by
  have FN := Lib.hid (fun B w h => run_fence va l B w h hl)
  have CM := Lib.hid (fun a b w => Ord.cmp_str a b w)
  have HA := Lib.hid ha
  have HQ := Lib.hid (show kcmp (l.getD 0 zeroV).key key = Ord.cmpStr (l.getD 0 zeroV).key.toList key.toList from rfl)
  obtain ⟨A, c, rfl, -⟩ := ha
  generalize (l.getD 0 zeroV).key = fk at *
  generalize kcmp fk key = res at *
  go_enter Try.func99, Try.ntmps99
  go_wp2_with fail
  refine (FN.out _ _ HA.out).mono ?_
  rintro z _ ⟨rfl, rfl⟩
  go_wp2_with fail
  refine (CM.out _ _ _).mono ?_
  rintro z _ ⟨rfl, rfl⟩
  go_wp2_with fail
  go_ret
  exact ⟨ret_int HQ.out.symm, rfl⟩

/-- Where the first fence is that is not ahead of key, or behind all. -/
def Found9 (l : List Ver) (key : ByteArray) (i : Nat) : Prop := i ≤ many8 l ∧ (0 < i → kcmp (fen9 l (i - 1)) key < 0) ∧ (i < many8 l → 0 ≤ kcmp (fen9 l i) key)

set_option maxHeartbeats 4000000 in
set_option maxRecDepth 100000 in
theorem run_bsearch (va : Value) (l : List Ver) (base : Nat) (key : ByteArray) (w : World) (hv : OwnNV w base va (pcs8 l)) (hl : l.length ≤ 20000) :
    Calls Try.prog 98 #[va, .string key, .func (.func 99) #[] #[]] w fun e w' => ∃ (i : Nat) (b : Bool), e = .returned (.tuple #[.int .i64 i, .bool b]) ∧ Found9 l key i ∧ w' = w := by
  have HV := Lib.hid hv
  have HPL := Lib.hid (pcs8_len l)
  have hmm : many8 l ≤ 3000 := by unfold many8; omega
  have HDEF := Lib.hid (fun (i : Nat) (h1 : i ≤ many8 l) (h2 : 0 < i → kcmp (fen9 l (i - 1)) key < 0) (h3 : i < many8 l → 0 ≤ kcmp (fen9 l i) key) => (show Found9 l key i from ⟨h1, h2, h3⟩))
  obtain ⟨A, ca, rfl⟩ := hv.form
  rw [HPL.out] at HV ⊢
  have HAT := Lib.hid (show ∀ h : Nat, h < many8 l → ∃ g u, A = some ⟨g, 0, none⟩ ∧ w.cell? ⟨g, h, none⟩ = some u ∧ RdVr w w.heap.size u (pc8 l h) ∧ 0 < (pc8 l h).length from fun h hh => by
    obtain ⟨g, c, eA, hg, hcl⟩ := HV.out.here (by rw [HPL.out]; omega)
    obtain ⟨u, cu, ou⟩ := hcl h (by rw [HPL.out]; exact hh)
    rw [pcs8_at] at ou
    injection eA with eA1 eA2 eA3
    have := many8_lt hh
    exact ⟨g, u, eA1, cu, ou.rd, by rw [pc8_len]; omega⟩)
  clear hv
  generalize hMN : many8 l = MN at *
  have HMN := Lib.hid hMN
  clear hMN
  go_enter Try.func98, Try.ntmps98
  go_wp2_with fail
  go_loopw [9, 10] (fun x y wr => ∃ i j : Nat, x = .int .i64 i ∧ y = .int .i64 j ∧ i ≤ j ∧ j ≤ MN ∧ (0 < i → kcmp (fen9 l (i - 1)) key < 0) ∧ (j < MN → 0 ≤ kcmp (fen9 l j) key) ∧ wr = w) (fun x y _ => (intOf y).toNat - (intOf x).toNat)
  case atStart => exact ⟨0, MN, rfl, rfl, Nat.zero_le _, Nat.le_refl _, by simp, by simp, rfl⟩
  case round =>
    obtain ⟨i, j, rfl, rfl, hij, hjm, hi1, hj1, rfl⟩ := hrel
    have HI := Lib.hid hi1
    have HJ := Lib.hid hj1
    clear hi1 hj1
    by_cases hlt : i < j
    · have zl : decide ((i : Int) < (j : Int)) = true := by simp; omega
      have zl2 : decide (i < j) = true := by simp; omega
      obtain ⟨h, hh⟩ : ∃ h : Nat, h = (i + j) / 2 := ⟨_, rfl⟩
      obtain ⟨g, u, rfl, cu, ru, hp⟩ := HAT.out h (by omega)
      have hh1 : i ≤ h := by omega
      have hh2 : h < j := by omega
      have hhs : ((i : Int) + (j : Int)) / 2 = (h : Int) := by omega
      have F1 := Lib.hid (fun w ha => run_first1 u (pc8 l h) key w ha hp)
      obtain ⟨Ap, cp, ep, -⟩ := id ru
      subst ep
      have RU := Lib.hid ru
      clear ru hp hh
      obtain ⟨cv, hcv⟩ : ∃ cv, kcmp (fen9 l h) key = cv := ⟨_, rfl⟩
      rw [show kcmp ((pc8 l h).getD 0 zeroV).key key = cv from hcv] at F1
      have HCV := Lib.hid hcv
      clear hcv
      go_wp2_with fail
      refine (F1.out _ RU.out).mono ?_
      rintro z _ ⟨rfl, rfl⟩
      by_cases hc : cv < 0
      · have zc : decide (cv < 0) = true := by simp [hc]
        have HN := Lib.hid (show 0 < h + 1 → kcmp (fen9 l (h + 1 - 1)) key < 0 from fun _ => by rw [Nat.add_sub_cancel, HCV.out]; exact hc)
        have hw1 : IntKind.i64.wrap ((h : Int) + 1) = (h : Int) + 1 := by rw [IntKind.wrap_i64]; omega
        clear hc
        go_wp2_with fail
        go_roundw
        case rel => exact ⟨h + 1, j, by go_num, rfl, by omega, hjm, HN.out, HJ.out, trivial⟩
        case measure => simp [intOf]; omega
      · have zc : decide (cv < 0) = false := by simp; omega
        have HN := Lib.hid (show h < MN → 0 ≤ kcmp (fen9 l h) key from fun _ => by rw [HCV.out]; omega)
        clear hc
        go_wp2_with fail
        go_roundw
        case rel => exact ⟨i, h, rfl, rfl, hh1, by omega, HI.out, HN.out, trivial⟩
        case measure => simp [intOf]; omega
    · have hij2 : i = j := by omega
      subst hij2
      have zl : decide ((i : Int) < (i : Int)) = false := by simp
      have FO := Lib.hid (HDEF.out i hjm HI.out HJ.out)
      by_cases hm : i < MN
      · have zm : decide ((i : Int) < (MN : Int)) = true := by simp; omega
        have zm2 : decide (i < MN) = true := by simp; omega
        obtain ⟨g, u, rfl, cu, ru, hp⟩ := HAT.out i hm
        have F1 := Lib.hid (fun w ha => run_first1 u (pc8 l i) key w ha hp)
        obtain ⟨Ap, cp, ep, -⟩ := id ru
        subst ep
        have RU := Lib.hid ru
        clear ru hp
        go_wp2_with fail
        refine (F1.out _ RU.out).mono ?_
        rintro z _ ⟨rfl, rfl⟩
        go_wp2_with fail
        go_ret2
        exact ⟨i, _, rfl, FO.out, rfl⟩
      · have zm : decide ((i : Int) < (MN : Int)) = false := by simp; omega
        go_wp2_with fail
        go_ret2
        exact ⟨i, _, rfl, FO.out, rfl⟩

theorem run_first (p : Value) (l : List Ver) (base : Nat) (key : ByteArray) (w : World) (hp : RunAt w base p l) (hl : l.length ≤ 20000) :
    Calls Try.prog 86 #[p, .string key] w fun e w' => ∃ i : Nat, e = .returned (.int .i64 ((i - 1 : Nat) : Int)) ∧ Found9 l key i ∧ w' = w := by
  obtain ⟨n, vb, rfl, hb, -, hv⟩ := hp
  have BS := Lib.hid (fun key => run_bsearch vb l base key w hv hl)
  have hmm : many8 l ≤ 3000 := by unfold many8; omega
  have c0 := hb.cell 0 vb rfl
  obtain ⟨A, c, rfl⟩ := hv.form
  clear hv hb
  go_enter Try.func86, Try.ntmps86
  go_wp2_with fail
  refine (BS.out _).mono ?_
  rintro z _ ⟨i, b, rfl, hf, rfl⟩
  have him := hf.1
  have FO := Lib.hid hf
  clear hf
  have hw : IntKind.i64.wrap ((i : Int) - 1) = (i : Int) - 1 := by rw [IntKind.wrap_i64]; omega
  by_cases h0 : i = 0
  · have hm1 : (i : Int) - 1 < 0 := by omega
    have he : ((i - 1 : Nat) : Int) = 0 := by omega
    clear h0
    go_wp2_with fail
    go_ret
    exact ⟨i, ret_int he.symm, FO.out, rfl⟩
  · have hm1 : (0 : Int) ≤ (i : Int) - 1 := by omega
    have he : ((i - 1 : Nat) : Int) = (i : Int) - 1 := by omega
    clear h0
    go_wp2_with fail
    go_ret
    exact ⟨i, ret_int he.symm, FO.out, rfl⟩
end Go.Proofs.Ytefjdmlmmoeoaaa
