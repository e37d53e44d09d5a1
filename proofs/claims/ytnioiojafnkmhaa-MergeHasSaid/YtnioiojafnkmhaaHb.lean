/- container/heap over lists' heads: what goes down. -/
import Derived.Test.YtnioiojafnkmhaaHa
namespace Go.Proofs.Ytnioiojafnkmhaa
open Go.RowKit
set_option linter.unusedVariables false

section
variable {α : Type} {lt : α → α → Bool}
theorem swap_tail {xs : List α} {i j n k : Nat} (hi : i < n) (hj : j < n) (hn : n ≤ xs.length) (hk : n ≤ k) : (swapL xs i j)[k]? = xs[k]? := by
  rw [swap_get (by omega) (by omega), if_neg (by omega), if_neg (by omega)]
set_option maxHeartbeats 8000000 in
set_option maxRecDepth 100000 in
theorem heapV_down (HR : World → List α → Prop) (o : Ahead lt) (p : Value)
    (LESS : ∀ (W : World) (xs : List α) (i j : Nat) (hi : i < xs.length) (hj : j < xs.length), HR W xs → Calls Try.prog 76 #[p, .int .i64 i, .int .i64 j] W fun e W' => e = .returned (.bool (lt xs[i] xs[j])) ∧ HR W' xs)
    (SWAP : ∀ (W : World) (xs : List α) (i j : Nat) (hi : i < xs.length) (hj : j < xs.length), HR W xs → Calls Try.prog 79 #[p, .int .i64 i, .int .i64 j] W fun e W' => (∃ v, e = .returned v) ∧ HR W' (swapL xs i j))
    (xs : List α) (i0 n : Nat) (w : World) (hx : HR w xs) (hn : n ≤ xs.length) (hi : i0 ≤ xs.length) (hl : xs.length ≤ 1000000) (hu : DownTo lt xs n i0) :
    Calls Try.prog 56 #[.iface 65 p, .int .i64 i0, .int .i64 n] w fun e w' => (∃ v, e = .returned v) ∧ ∃ ys, HR w' ys ∧ ys.Perm xs ∧ HeapTo lt ys n ∧ ∀ k, n ≤ k → ys[k]? = xs[k]? := by
  have HX := Lib.hid hx
  have HU := Lib.hid hu
  have LE := Lib.hid LESS
  have SW := Lib.hid SWAP
  clear hx hu LESS SWAP
  go_enter Try.func56, Try.ntmps56
  go_wp2_with fail
  go_loopw [7] (fun i wr => ∃ (k : Nat) (ys : List α), i = .int .i64 k ∧ k ≤ xs.length ∧ HR wr ys ∧ ys.Perm xs ∧ DownTo lt ys n k ∧ ∀ k, n ≤ k → ys[k]? = xs[k]?) (fun i _ => xs.length - (intOf i).toNat)
  case atStart => exact ⟨i0, xs, rfl, hi, HX.out, List.Perm.refl _, HU.out, fun _ _ => rfl⟩
  case round =>
    obtain ⟨k, ys, rfl, hk, hr, hp, hup, htl⟩ := hrel
    rename World => wo
    have R := Lib.hid hr
    have PM := Lib.hid hp
    have U := Lib.hid hup
    have TL := Lib.hid htl
    have LN := Lib.hid hp.length_eq
    have hkb : (k : Int) ≤ 1000000 := by omega
    clear hr hp hup htl
    obtain ⟨c1, hc1⟩ : ∃ c1, c1 = 2 * k + 1 := ⟨_, rfl⟩
    have hi1 : 2 * (k : Int) + 1 = (c1 : Int) := by omega
    have hc0 : decide ((c1 : Int) < 0) = false := by rw [decide_eq_false_iff_not]; omega
    have hcb : (c1 : Int) ≤ 2000001 := by omega
    have HC1 := Lib.hid hc1
    by_cases h1 : n ≤ c1
    · have z1 : decide ((n : Int) ≤ (c1 : Int)) = true := by simp; omega
      have hf : HeapTo lt ys n := U.out.stop o fun c a b h0 hc hcp ha hb => by omega
      have HF := Lib.hid hf
      clear hf hc1
      go_wp2_with fail
      go_ret
      exact ⟨⟨_, rfl⟩, ys, R.out, PM.out, HF.out, TL.out⟩
    · have z1 : decide ((n : Int) ≤ (c1 : Int)) = false := by rw [decide_eq_false_iff_not]; omega
      have hkl : k < ys.length := by have := LN.out; omega
      have hcl : c1 < ys.length := by have := LN.out; omega
      have HK := Lib.hid hkl
      have HC := Lib.hid hcl
      obtain ⟨c2, hc2⟩ : ∃ c2, c2 = c1 + 1 := ⟨_, rfl⟩
      have hi2 : (c1 : Int) + 1 = (c2 : Int) := by omega
      have HC2 := Lib.hid hc2
      by_cases h2 : c2 < n
      · have z2 : decide ((c2 : Int) < (n : Int)) = true := by simp; omega
        have hcl2 : c2 < ys.length := by have := LN.out; omega
        have HD := Lib.hid hcl2
        clear hcl2 hc1 hc2 hkl hcl
        have L1 := Lib.hid (LE.out wo ys (c2) c1 HD.out HC.out R.out)
        cases h3 : lt (ys[c2]'HD.out) (ys[c1]'HC.out)
        · rw [h3] at L1
          have LF := Lib.hid h3
          clear h3
          have MN := Lib.hid (show ∀ (c : Nat) (a : α), 0 < c → c < n → (c - 1) / 2 = k → ys[c]? = some a → lt a (ys[c1]'HC.out) = false from fun c a h0 hc hcp ha => by
            have := HC1.out
            have := HC2.out
            by_cases e : c = c1
            · subst e; rw [List.getElem?_eq_getElem HC.out] at ha; cases ha; exact o.irrefl _
            · have e2 : c = c2 := by omega
              subst e2; rw [List.getElem?_eq_getElem HD.out] at ha; cases ha; exact LF.out)
          go_wp2_with fail
          refine L1.out.mono ?_
          rintro z w1 ⟨rfl, hr1⟩
          have R := Lib.hid hr1
          clear hr1
          have L2 := Lib.hid (LE.out w1 ys (c1) k HC.out HK.out R.out)
          cases h5 : lt (ys[c1]'HC.out) (ys[k]'HK.out)
          · rw [h5] at L2
            have hf : HeapTo lt ys n := U.out.stop o fun c a b h0 hc hcp ha hb => by
              rw [List.getElem?_eq_getElem HK.out] at hb
              cases hb
              exact o.negtrans _ _ _ (MN.out c a h0 hc hcp ha) h5
            have HF := Lib.hid hf
            clear hf h5
            go_wp2_with fail
            refine L2.out.mono ?_
            rintro z w2 ⟨rfl, hr2⟩
            have R2 := Lib.hid hr2
            clear hr2
            go_wp2_with fail
            go_ret
            exact ⟨⟨_, rfl⟩, ys, R2.out, PM.out, HF.out, TL.out⟩
          · rw [h5] at L2
            have LG := Lib.hid h5
            clear h5
            go_wp2_with fail
            refine L2.out.mono ?_
            rintro z w2 ⟨rfl, hr2⟩
            have S1 := Lib.hid (SW.out w2 ys k (c1) HK.out HC.out hr2)
            clear hr2
            go_wp2_with fail
            refine S1.out.mono ?_
            rintro z w3 ⟨⟨v3, rfl⟩, hr3⟩
            have R3 := Lib.hid hr3
            clear hr3
            go_wp2_with fail
            go_roundw
            case rel =>
              have hc := HC1.out
              have hc2 := HC2.out
              have hle : n ≤ ys.length := by have := LN.out; omega
              refine ⟨c1, swapL ys k (c1), by go_num, by omega, R3.out, swap_perm.trans PM.out, ?_, fun q hq => ?_⟩
              · exact U.out.step o hle (by omega) (by omega) (by omega) (List.getElem?_eq_getElem HK.out) (List.getElem?_eq_getElem HC.out) LG.out MN.out
              · rw [swap_tail (n := n) (by omega) (by omega) hle hq]; exact TL.out q hq
            case measure =>
              have hc := HC1.out
              have hc2 := HC2.out
              simp [intOf]; omega
        · rw [h3] at L1
          have LF := Lib.hid h3
          clear h3
          have MN := Lib.hid (show ∀ (c : Nat) (a : α), 0 < c → c < n → (c - 1) / 2 = k → ys[c]? = some a → lt a (ys[c2]'HD.out) = false from fun c a h0 hc hcp ha => by
            have := HC1.out
            have := HC2.out
            by_cases e : c = c1
            · subst e; rw [List.getElem?_eq_getElem HC.out] at ha; cases ha; exact o.asymm _ _ LF.out
            · have e2 : c = c2 := by omega
              subst e2; rw [List.getElem?_eq_getElem HD.out] at ha; cases ha; exact o.irrefl _)
          go_wp2_with fail
          refine L1.out.mono ?_
          rintro z w1 ⟨rfl, hr1⟩
          have R := Lib.hid hr1
          clear hr1
          have L2 := Lib.hid (LE.out w1 ys (c2) k HD.out HK.out R.out)
          cases h5 : lt (ys[c2]'HD.out) (ys[k]'HK.out)
          · rw [h5] at L2
            have hf : HeapTo lt ys n := U.out.stop o fun c a b h0 hc hcp ha hb => by
              rw [List.getElem?_eq_getElem HK.out] at hb
              cases hb
              exact o.negtrans _ _ _ (MN.out c a h0 hc hcp ha) h5
            have HF := Lib.hid hf
            clear hf h5
            go_wp2_with fail
            refine L2.out.mono ?_
            rintro z w2 ⟨rfl, hr2⟩
            have R2 := Lib.hid hr2
            clear hr2
            go_wp2_with fail
            go_ret
            exact ⟨⟨_, rfl⟩, ys, R2.out, PM.out, HF.out, TL.out⟩
          · rw [h5] at L2
            have LG := Lib.hid h5
            clear h5
            go_wp2_with fail
            refine L2.out.mono ?_
            rintro z w2 ⟨rfl, hr2⟩
            have S1 := Lib.hid (SW.out w2 ys k (c2) HK.out HD.out hr2)
            clear hr2
            go_wp2_with fail
            refine S1.out.mono ?_
            rintro z w3 ⟨⟨v3, rfl⟩, hr3⟩
            have R3 := Lib.hid hr3
            clear hr3
            go_wp2_with fail
            go_roundw
            case rel =>
              have hc := HC1.out
              have hc2 := HC2.out
              have hle : n ≤ ys.length := by have := LN.out; omega
              refine ⟨c2, swapL ys k (c2), by go_num, by omega, R3.out, swap_perm.trans PM.out, ?_, fun q hq => ?_⟩
              · exact U.out.step o hle (by omega) (by omega) (by omega) (List.getElem?_eq_getElem HK.out) (List.getElem?_eq_getElem HD.out) LG.out MN.out
              · rw [swap_tail (n := n) (by omega) (by omega) hle hq]; exact TL.out q hq
            case measure =>
              have hc := HC1.out
              have hc2 := HC2.out
              simp [intOf]; omega
      · have z2 : decide ((c2 : Int) < (n : Int)) = false := by rw [decide_eq_false_iff_not]; omega
        clear hc1 hc2 hkl hcl
        have MN := Lib.hid (show ∀ (c : Nat) (a : α), 0 < c → c < n → (c - 1) / 2 = k → ys[c]? = some a → lt a (ys[c1]'HC.out) = false from fun c a h0 hc hcp ha => by
          have := HC1.out
          have := HC2.out
          have e : c = c1 := by omega
          subst e; rw [List.getElem?_eq_getElem HC.out] at ha; cases ha; exact o.irrefl _)
        have L2 := Lib.hid (LE.out wo ys (c1) k HC.out HK.out R.out)
        cases h5 : lt (ys[c1]'HC.out) (ys[k]'HK.out)
        · rw [h5] at L2
          have hf : HeapTo lt ys n := U.out.stop o fun c a b h0 hc hcp ha hb => by
            rw [List.getElem?_eq_getElem HK.out] at hb
            cases hb
            exact o.negtrans _ _ _ (MN.out c a h0 hc hcp ha) h5
          have HF := Lib.hid hf
          clear hf h5
          go_wp2_with fail
          refine L2.out.mono ?_
          rintro z w2 ⟨rfl, hr2⟩
          have R2 := Lib.hid hr2
          clear hr2
          go_wp2_with fail
          go_ret
          exact ⟨⟨_, rfl⟩, ys, R2.out, PM.out, HF.out, TL.out⟩
        · rw [h5] at L2
          have LG := Lib.hid h5
          clear h5
          go_wp2_with fail
          refine L2.out.mono ?_
          rintro z w2 ⟨rfl, hr2⟩
          have S1 := Lib.hid (SW.out w2 ys k (c1) HK.out HC.out hr2)
          clear hr2
          go_wp2_with fail
          refine S1.out.mono ?_
          rintro z w3 ⟨⟨v3, rfl⟩, hr3⟩
          have R3 := Lib.hid hr3
          clear hr3
          go_wp2_with fail
          go_roundw
          case rel =>
            have hc := HC1.out
            have hc2 := HC2.out
            have hle : n ≤ ys.length := by have := LN.out; omega
            refine ⟨c1, swapL ys k (c1), by go_num, by omega, R3.out, swap_perm.trans PM.out, ?_, fun q hq => ?_⟩
            · exact U.out.step o hle (by omega) (by omega) (by omega) (List.getElem?_eq_getElem HK.out) (List.getElem?_eq_getElem HC.out) LG.out MN.out
            · rw [swap_tail (n := n) (by omega) (by omega) hle hq]; exact TL.out q hq
          case measure =>
            have hc := HC1.out
            have hc2 := HC2.out
            simp [intOf]; omega
end
end Go.Proofs.Ytnioiojafnkmhaa
