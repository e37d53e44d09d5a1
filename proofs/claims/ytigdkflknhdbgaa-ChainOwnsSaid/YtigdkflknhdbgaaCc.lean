/- Layer 12's Same, layer 13's Keys and Keep, by the document. -/
import Derived.Test.YtigdkflknhdbgaaCa
import Derived.Test.YtigdkflknhdbgaaBxx
import Derived.BigQuiet
namespace Go.Proofs.Ytigdkflknhdbgaa
open Go.RowKit
set_option linter.unusedVariables false

theorem bytes_eqK (a b : ByteArray) : a.toList = b.toList ↔ a = b := by
  constructor
  · intro h
    rw [ByteArray.toList_eq, ByteArray.toList_eq] at h
    exact ByteArray.ext (Array.toList_inj.1 h)
  · intro h; rw [h]
theorem str_info : (Try.prog.info? 9).map (fun i => (i.zero, i.size, i.bytes)) = some (some (.string ⟨#[]⟩), strL.sz, 16) := by kernel_rfl
theorem RdX.strE {w : World} {B n c : Nat} {A : Option Addr} {l : List ByteArray} (h : RdX strL w B (.slice A n c) l) (k : Nat) (hk : k < l.length) {s : ByteArray} (e : l[k] = s) : ∃ b o, A = some ⟨b, o, none⟩ ∧ b < B ∧ w.cell? ⟨b, o + k, none⟩ = some (.string s) := by
  obtain ⟨b, o, rfl, hb, hc⟩ := h.at k hk
  have h1 := hc 0 (.string l[k]) rfl
  subst e
  exact ⟨b, o, rfl, hb, by simpa [strL] using h1⟩
def sameT : List ByteArray → List ByteArray → Bool
  | [], [] => true
  | a :: r, b :: q => (a.toList == b.toList) && sameT r q
  | _, _ => false
theorem same_iff : ∀ {a b : List ByteArray}, sameT a b = true ↔ a = b
  | [], [] => by simp [sameT]
  | [], b :: q => by simp [sameT]
  | a :: r, [] => by simp [sameT]
  | a :: r, b :: q => by rw [sameT, Bool.and_eq_true, beq_iff_eq, bytes_eqK, same_iff, List.cons.injEq]
theorem same_len : ∀ {a b : List ByteArray}, a.length ≠ b.length → sameT a b = false := fun h => by
  rw [Bool.eq_false_iff]; intro h1; rw [same_iff.1 h1] at h; exact h rfl
theorem same_drop {a b : List ByteArray} {k : Nat} (h1 : k < a.length) (h2 : k < b.length) {x y : ByteArray} (hx : a[k] = x) (hy : b[k] = y) : sameT (a.drop k) (b.drop k) = ((x.toList == y.toList) && sameT (a.drop (k + 1)) (b.drop (k + 1))) := by
  rw [List.drop_eq_getElem_cons h1, List.drop_eq_getElem_cons h2, sameT, hx, hy]
set_option maxHeartbeats 2000000 in
set_option maxRecDepth 100000 in
theorem ref_sameK (va vb : Value) (a b : List ByteArray) (w : World) (ha : RdX strL w w.heap.size va a) (hb : RdX strL w w.heap.size vb b) (hl : a.length ≤ 100000) :
    Calls Try.prog 25 #[va, vb] w fun z w' => z = .returned (.bool (sameT a b)) ∧ Below w.heap.size w w' := by
  have HA := Lib.hid ha
  have HB := Lib.hid hb
  have HL := Lib.hid hl
  obtain ⟨A, ca, rfl, -⟩ := ha
  obtain ⟨B, cb, rfl, -⟩ := hb
  clear hl
  by_cases hne : a.length = b.length
  case' neg =>
    have z1 : ((a.length : Int) != (b.length : Int)) = true := by rw [bne_iff_ne]; omega
    have z2 : ((a.length : Int) == (b.length : Int)) = false := by rw [beq_eq_false_iff_ne]; omega
    have HN := Lib.hid (same_len hne)
    clear hne
    go_enter Try.func25, Try.ntmps25
    go_wp2_with fail
    go_ret
    exact ⟨ret_bool HN.out.symm, Below.refl _ _⟩
  have HE := Lib.hid hne
  rw [← hne] at HB ⊢
  clear hne
  go_enter Try.func25, Try.ntmps25
  go_wp2_with fail
  go_loopw [5] (fun i wr => ∃ k : Nat, i = .int .i64 k ∧ k ≤ a.length ∧ sameT a b = sameT (a.drop k) (b.drop k) ∧ Below w.heap.size w wr) (fun i _ => a.length - (intOf i).toNat)
  case atStart => exact ⟨0, rfl, Nat.zero_le _, rfl, Below.refl _ _⟩
  case round =>
    obtain ⟨k, rfl, hk, hR, hbw⟩ := hrel
    rename World => wo
    have G := Lib.hid hbw
    clear hbw
    by_cases hlt : k < a.length
    · have zl : decide ((k : Int) < (a.length : Int)) = true := by simp; omega
      have hki : (k : Int) < (a.length : Int) := by omega
      have hw64 : IntKind.i64.wrap ((k : Int) + 1) = (k : Int) + 1 := by rw [IntKind.wrap_i64]; have := HL.out; omega
      have hlb : k < b.length := by have := HE.out; omega
      have KA := Lib.hid hlt
      have KB := Lib.hid hlb
      obtain ⟨x, hx⟩ : ∃ x, a[k] = x := ⟨_, rfl⟩
      obtain ⟨y, hy⟩ : ∃ y, b[k] = y := ⟨_, rfl⟩
      rw [same_drop hlt hlb hx hy] at hR
      have HR := Lib.hid hR
      have XA := Lib.hid hx
      have XB := Lib.hid hy
      have NE := Lib.hid (show (x.toList != y.toList) = !(x.toList == y.toList) from rfl)
      obtain ⟨ba, oa, rfl, -, m1⟩ := RdX.strE (HA.out.below G.out) k hlt hx
      obtain ⟨bb, ob, rfl, -, m2⟩ := RdX.strE (HB.out.below G.out) k hlb hy
      clear hR hx hy hlb m1 m2
      go_wp2_with fail
      refine reg_start (by kernel_rfl) ?_
      refine reg_take2 0 17 (v := ?_) (T' := ?_) (Later.refl _) (by kernel_rfl) (by kernel_rfl) (by kernel_rfl) (fun _ _ _ h => h) (fun o ho => ?_) ?_ ?_
      rotate_left 2
      · cases ho
        refine ⟨rfl, rfl, fun W hW => ?_⟩
        go_simp; (try with_reducible rfl)
      · simp only [List.setIfInBounds_toArray, List.set_cons_succ, List.set_cons_zero]; exact rfl
      refine reg_take2 1 18 (v := ?_) (T' := ?_) (Later.refl _) (by kernel_rfl) (by kernel_rfl) (by kernel_rfl) (fun _ _ _ h => h) (fun o ho => ?_) ?_ ?_
      rotate_left 2
      · cases ho
        refine ⟨rfl, rfl, fun W hW => ?_⟩
        go_simp; (try with_reducible rfl)
      · simp only [List.setIfInBounds_toArray, List.set_cons_succ, List.set_cons_zero]; exact rfl
      refine reg_take2 2 19 (v := ?_) (T' := ?_) (Later.refl _) (by kernel_rfl) (by kernel_rfl) (by kernel_rfl) (fun _ _ _ h => h) (fun o ho => ?_) ?_ ?_
      rotate_left 2
      · cases ho
        refine ⟨rfl, rfl, fun W hW => ?_⟩
        obtain ⟨bq, oq, hq, -, n0⟩ := RdX.strE (HA.out.below (G.out.drew.trans (hW.mono G.out.size))) k KA.out XA.out
        cases hq
        go_simp; (try with_reducible rfl)
      · simp only [List.setIfInBounds_toArray, List.set_cons_succ, List.set_cons_zero]; exact rfl
      refine reg_take2 3 20 (v := ?_) (T' := ?_) (Later.refl _) (by kernel_rfl) (by kernel_rfl) (by kernel_rfl) (fun _ _ _ h => h) (fun o ho => ?_) ?_ ?_
      rotate_left 2
      · cases ho
        refine ⟨rfl, rfl, fun W hW => ?_⟩
        obtain ⟨bq, oq, hq, -, n0⟩ := RdX.strE (HA.out.below (G.out.drew.trans (hW.mono G.out.size))) k KA.out XA.out
        cases hq
        go_simp; (try with_reducible rfl)
      · simp only [List.setIfInBounds_toArray, List.set_cons_succ, List.set_cons_zero]; exact rfl
      refine reg_take2 4 21 (v := ?_) (T' := ?_) (Later.refl _) (by kernel_rfl) (by kernel_rfl) (by kernel_rfl) (fun _ _ _ h => h) (fun o ho => ?_) ?_ ?_
      rotate_left 2
      · cases ho
        refine ⟨rfl, rfl, fun W hW => ?_⟩
        go_simp; (try with_reducible rfl)
      · simp only [List.setIfInBounds_toArray, List.set_cons_succ, List.set_cons_zero]; exact rfl
      refine reg_take2 5 22 (v := ?_) (T' := ?_) (Later.refl _) (by kernel_rfl) (by kernel_rfl) (by kernel_rfl) (fun _ _ _ h => h) (fun o ho => ?_) ?_ ?_
      rotate_left 2
      · cases ho
        refine ⟨rfl, rfl, fun W hW => ?_⟩
        go_simp; (try with_reducible rfl)
      · simp only [List.setIfInBounds_toArray, List.set_cons_succ, List.set_cons_zero]; exact rfl
      refine reg_take2 6 23 (v := ?_) (T' := ?_) (Later.refl _) (by kernel_rfl) (by kernel_rfl) (by kernel_rfl) (fun _ _ _ h => h) (fun o ho => ?_) ?_ ?_
      rotate_left 2
      · cases ho
        refine ⟨rfl, rfl, fun W hW => ?_⟩
        obtain ⟨bq, oq, hq, -, n0⟩ := RdX.strE (HB.out.below (G.out.drew.trans (hW.mono G.out.size))) k KB.out XB.out
        cases hq
        go_simp; (try with_reducible rfl)
      · simp only [List.setIfInBounds_toArray, List.set_cons_succ, List.set_cons_zero]; exact rfl
      refine reg_take2 7 24 (v := ?_) (T' := ?_) (Later.refl _) (by kernel_rfl) (by kernel_rfl) (by kernel_rfl) (fun _ _ _ h => h) (fun o ho => ?_) ?_ ?_
      rotate_left 2
      · cases ho
        refine ⟨rfl, rfl, fun W hW => ?_⟩
        obtain ⟨bq, oq, hq, -, n0⟩ := RdX.strE (HB.out.below (G.out.drew.trans (hW.mono G.out.size))) k KB.out XB.out
        cases hq
        go_simp; (try with_reducible rfl)
      · simp only [List.setIfInBounds_toArray, List.set_cons_succ, List.set_cons_zero]; exact rfl
      refine reg_take2 8 25 (v := ?_) (T' := ?_) (Later.refl _) (by kernel_rfl) (by kernel_rfl) (by kernel_rfl) (fun _ _ _ h => h) (fun o ho => ?_) ?_ ?_
      rotate_left 2
      · cases ho
        refine ⟨rfl, rfl, fun W hW => ?_⟩
        go_simp; (try with_reducible rfl)
      · simp only [List.setIfInBounds_toArray, List.set_cons_succ, List.set_cons_zero]; exact rfl
      refine reg_done (by kernel_rfl) ?_
      have G := Lib.hid (G.out.drewN 1)
      cases c : (x.toList == y.toList)
      · have HN := Lib.hid (show sameT a b = false from by rw [HR.out, c]; rfl)
        have zn : (x.toList != y.toList) = true := by rw [NE.out, c]; rfl
        clear HR NE c
        go_wp2_with fail
        go_ret
        exact ⟨ret_bool HN.out.symm, G.out⟩
      · have HN := Lib.hid (show sameT a b = sameT (a.drop (k + 1)) (b.drop (k + 1)) from by rw [HR.out, c]; rfl)
        have zn : (x.toList != y.toList) = false := by rw [NE.out, c]; rfl
        clear HR NE c
        go_wp2_with fail
        go_roundw
        case rel => exact ⟨k + 1, by go_num, by omega, HN.out, G.out⟩
        case measure => simp [intOf]; omega
    · have hkl : k = a.length := by omega
      subst hkl
      have HN := Lib.hid (show sameT a b = true from by rw [hR, List.drop_length, HE.out, List.drop_length]; rfl)
      have zl : decide ((a.length : Int) < (a.length : Int)) = false := by simp
      clear hlt hR
      go_wp2_with fail
      go_ret
      exact ⟨ret_bool HN.out.symm, G.out⟩

set_option maxHeartbeats 4000000 in
set_option maxRecDepth 100000 in
theorem ref13_keys (va : Value) (l : List Ver) (w : World) (ha : RdVr w w.heap.size va l) (hl : l.length ≤ 1000) :
    Calls Try.prog 26 #[va] w fun z w' => ∃ v', z = .returned v' ∧ OwnX strL 9 w' w.heap.size v' (keysV l) ∧ Below w.heap.size w w' := by
  have HA := Lib.hid ha
  have HL := Lib.hid hl
  obtain ⟨A, ca, rfl, -⟩ := ha
  clear hl
  have SUC := Lib.hid (fun (k : Nat) (h : k < l.length) => keys_succ h)
  have LEN := Lib.hid (fun k => Nat.le_trans (keysV_len (l.take k)) (show (l.take k).length ≤ l.length from by rw [List.length_take]; omega))
  have ALL := Lib.hid (show keysV (l.take l.length) = keysV l from by rw [List.take_length])
  go_enter Try.func26, Try.ntmps26
  go_wp2_with fail
  go_loopw [3, 4] (fun x i wr => ∃ k : Nat, i = .int .i64 k ∧ k ≤ l.length ∧ OwnX strL 9 wr w.heap.size x (keysV (l.take k)) ∧ Below w.heap.size w wr) (fun _ i _ => l.length - (intOf i).toNat)
  case atStart => exact ⟨0, rfl, Nat.zero_le _, by rw [List.take_zero]; exact OwnX.nil _ _, Below.refl _ _⟩
  case round =>
    obtain ⟨k, rfl, hk, ho, hbw⟩ := hrel
    rename World => wo
    have G := Lib.hid hbw
    have O := Lib.hid ho
    have LK := Lib.hid (LEN.out k)
    by_cases hlt : k < l.length
    · have zl : decide ((k : Int) < (l.length : Int)) = true := by simp; omega
      have hki : (k : Int) < (l.length : Int) := by omega
      have hw64 : IntKind.i64.wrap ((k : Int) + 1) = (k : Int) + 1 := by rw [IntKind.wrap_i64]; have := HL.out; omega
      have SK := Lib.hid (SUC.out k hlt)
      obtain ⟨x, hx⟩ : ∃ x, l[k] = x := ⟨_, rfl⟩
      rw [hx] at SK
      obtain ⟨out, hout⟩ : ∃ out, keysV (l.take k) = out := ⟨_, rfl⟩
      rw [hout] at SK LK O ho
      obtain ⟨A2, c2, e2, -⟩ := ho.rd
      subst e2
      obtain ⟨kk, bb, ee, ss, ⟨xx, yy⟩, uu, gg⟩ := x
      obtain ⟨b, o, rfl, -, c0, -⟩ := RdVr.here (HA.out.below G.out) k hlt
      rw [hx] at c0
      clear hx hout ho hbw
      rcases Nat.eq_zero_or_pos out.length with h0 | h0
      · have q1 : ((out.length : Int) == 0) = true := by rw [beq_iff_eq]; omega
        have q2 : (out.length == 0) = true := by rw [beq_iff_eq]; omega
        have HN := Lib.hid (show keysV (l.take (k + 1)) = out ++ [kk] from by
          rw [SK.out, keyStep, List.eq_nil_of_length_eq_zero h0]; simp)
        have H0 := Lib.hid h0
        clear h0
        go_wp2_with fail
        go_quiet (fail)
        have GX := Lib.hid (G.out.drewN nq)
        have OX := Lib.hid (show OwnX strL 9 (wo.drewN nq) w.heap.size (.slice A2 out.length c2) out from O.out)
        go_wp2_with (at_builtin; refine wpl_appX (L := strL) rfl (.tmp 28) (.tmp 34) rfl Try.underlying53 str_info rfl w.heap.size _ out [kk] _ _ _ rfl rfl rfl rfl OX.out GX.out.size (by rw [List.length_singleton]; have := LK.out; have := HL.out; omega) (by decide) ?_; intro v5 w5 ho5 hg5 hb5)
        go_roundw
        case rel => exact ⟨k + 1, by go_num, by omega, by rw [HN.out]; exact ho5, GX.out.trans hb5⟩
        case measure => simp [intOf]; omega
      · have q1 : ((out.length : Int) == 0) = false := by rw [beq_eq_false_iff_ne]; omega
        have q2 : (out.length == 0) = false := by rw [beq_eq_false_iff_ne]; omega
        obtain ⟨m, hm⟩ : ∃ m, out.length = m + 1 := ⟨out.length - 1, by omega⟩
        have hw65 : IntKind.i64.wrap ((out.length : Int) - 1) = (m : Int) := by rw [IntKind.wrap_i64]; have := LK.out; have := HL.out; omega
        have hmi : (m : Int) < (out.length : Int) := by omega
        have hml : m < out.length := by omega
        obtain ⟨s, hs⟩ : ∃ s, out[m] = s := ⟨_, rfl⟩
        have hgl : out.getLast? = some s := by rw [List.getLast?_eq_getElem?, show out.length - 1 = m by omega, List.getElem?_eq_getElem hml, hs]
        obtain ⟨b2, o2, e2, -, m2⟩ := RdX.strE O.out.rd m hml hs
        cases e2
        have HM := Lib.hid hm
        by_cases hq : s = kk
        · have HN := Lib.hid (show keysV (l.take (k + 1)) = out from by rw [SK.out, keyStep, hgl, hq, if_pos rfl])
          have q3 : (s.toList == kk.toList) = true := by rw [hq]; simp
          clear hgl hs h0 hq hm
          go_wp2_with fail
          go_quiet (fail)
          have GX := Lib.hid (G.out.drewN nq)
          have OX := Lib.hid (show OwnX strL 9 (wo.drewN nq) w.heap.size (.slice (some ⟨b2, o2, none⟩) out.length c2) out from O.out)
          go_wp2_with fail
          go_roundw
          case rel => exact ⟨k + 1, by go_num, by omega, by rw [HN.out]; exact OX.out, GX.out⟩
          case measure => simp [intOf]; omega
        · have HN := Lib.hid (show keysV (l.take (k + 1)) = out ++ [kk] from by rw [SK.out, keyStep, hgl, if_neg (fun h => hq (Option.some.inj h))])
          have q3 : (s.toList == kk.toList) = false := by rw [beq_eq_false_iff_ne]; exact fun h => hq ((bytes_eqK _ _).1 h)
          clear hgl hs h0 hq hm
          go_wp2_with fail
          go_quiet (fail)
          have GX := Lib.hid (G.out.drewN nq)
          have OX := Lib.hid (show OwnX strL 9 (wo.drewN nq) w.heap.size (.slice (some ⟨b2, o2, none⟩) out.length c2) out from O.out)
          go_wp2_with (at_builtin; refine wpl_appX (L := strL) rfl (.tmp 28) (.tmp 34) rfl Try.underlying53 str_info rfl w.heap.size _ out [kk] _ _ _ rfl rfl rfl rfl OX.out GX.out.size (by rw [List.length_singleton]; have := LK.out; have := HL.out; omega) (by decide) ?_; intro v5 w5 ho5 hg5 hb5)
          go_roundw
          case rel => exact ⟨k + 1, by go_num, by omega, by rw [HN.out]; exact ho5, GX.out.trans hb5⟩
          case measure => simp [intOf]; omega
    · have hkl : k = l.length := by omega
      subst hkl
      rw [ALL.out] at O
      have zl : decide ((l.length : Int) < (l.length : Int)) = false := by simp
      clear hlt ho
      go_wp2_with fail
      go_ret
      exact ⟨_, rfl, O.out, G.out⟩

theorem flt_snoc {F : Ver → Bool} {l : List Ver} {k : Nat} (h : k < l.length) : (l.take (k + 1)).filter F = (l.take k).filter F ++ (if F l[k] = true then [l[k]] else []) := by
  rw [List.take_succ_eq_append_getElem h, List.filter_append, List.filter_cons]
  split <;> rfl
theorem flt_le (F : Ver → Bool) (l : List Ver) (k : Nat) : ((l.take k).filter F).length ≤ l.length := Nat.le_trans (List.length_filter_le _ _) (by rw [List.length_take]; omega)
theorem ret_vv {v v' u u' : Value} (h : v = v') (h2 : u = u') : Ending.returned (.tuple #[v, u]) = .returned (.tuple #[v', u']) := by rw [h, h2]
set_option maxHeartbeats 4000000 in
set_option maxRecDepth 100000 in
theorem ref13_keep (va : Value) (l : List Ver) (ep : Int) (w : World) (ha : RdVr w w.heap.size va l) (hl : l.length ≤ 1000) :
    Calls Try.prog 18 #[va, .int .i64 ep] w fun z w' => ∃ v' u', z = .returned (.tuple #[v', u']) ∧ OwnVr w' w.heap.size v' (stayV ep l) ∧ OwnVr w' w.heap.size u' (goneV ep l) ∧ Below w.heap.size w w' := by
  have HA := Lib.hid ha
  have HL := Lib.hid hl
  obtain ⟨A, ca, rfl, -⟩ := ha
  clear hl
  obtain ⟨F, hF⟩ : ∃ F : Ver → Bool, (fun v : Ver => decide (v.e ≤ ep)) = F := ⟨_, rfl⟩
  obtain ⟨D, hD⟩ : ∃ D : Ver → Bool, (fun v : Ver => !decide (v.e ≤ ep)) = D := ⟨_, rfl⟩
  have HF := Lib.hid (show ∀ v, F v = decide (v.e ≤ ep) from fun v => by rw [← hF])
  have HDD := Lib.hid (show ∀ v, D v = !decide (v.e ≤ ep) from fun v => by rw [← hD])
  unfold stayV goneV
  rw [hF, hD]
  have SF := Lib.hid (fun (k : Nat) (h : k < l.length) => flt_snoc (F := F) h)
  have SD := Lib.hid (fun (k : Nat) (h : k < l.length) => flt_snoc (F := D) h)
  have LF := Lib.hid (fun k => flt_le F l k)
  have LD := Lib.hid (fun k => flt_le D l k)
  clear hF hD
  go_enter Try.func18, Try.ntmps18
  go_wp2_with fail
  go_loopw [6, 7, 8] (fun x y i wr => ∃ k : Nat, i = .int .i64 k ∧ k ≤ l.length ∧ OwnVr wr w.heap.size x ((l.take k).filter F) ∧ OwnVr wr w.heap.size y ((l.take k).filter D) ∧ (∀ j, x.ownBlock = some j → y.ownBlock ≠ some j) ∧ Below w.heap.size w wr) (fun _ _ i _ => l.length - (intOf i).toNat)
  case atStart => exact ⟨0, rfl, Nat.zero_le _, by rw [List.take_zero]; exact OwnX.nil _ _, by rw [List.take_zero]; exact OwnX.nil _ _, (fun j h => by cases h), Below.refl _ _⟩
  case round =>
    obtain ⟨k, rfl, hk, ho, hp, hap, hbw⟩ := hrel
    rename World => wo
    have G := Lib.hid hbw
    have O := Lib.hid ho
    have Q := Lib.hid hp
    have AP := Lib.hid hap
    by_cases hlt : k < l.length
    · have zl : decide ((k : Int) < (l.length : Int)) = true := by simp; omega
      have hki : (k : Int) < (l.length : Int) := by omega
      have hw64 : IntKind.i64.wrap ((k : Int) + 1) = (k : Int) + 1 := by rw [IntKind.wrap_i64]; have := HL.out; omega
      have SF := Lib.hid (SF.out k hlt)
      have SD := Lib.hid (SD.out k hlt)
      have LF := Lib.hid (LF.out k)
      have LD := Lib.hid (LD.out k)
      obtain ⟨x, hx⟩ : ∃ x, l[k] = x := ⟨_, rfl⟩
      rw [hx] at SF SD
      have HFX := Lib.hid (HF.out x)
      have HDX := Lib.hid (HDD.out x)
      generalize (l.take k).filter F = fa at *
      generalize (l.take k).filter D = fb at *
      obtain ⟨A2, c2, e2, -⟩ := ho.rd
      subst e2
      obtain ⟨A3, c3, e3, -⟩ := hp.rd
      subst e3
      obtain ⟨kk, bb, ee, ss, ⟨xx, yy⟩, uu, gg⟩ := x
      obtain ⟨b, o, rfl, -, c0, c1, c2', c3', c4, c5, c6, c7⟩ := RdVr.here (HA.out.below G.out) k hlt
      simp only [hx] at c0 c1 c2' c3' c4 c5 c6 c7 HFX HDX
      clear hx ho hp hap hbw
      by_cases he : ee ≤ ep
      · have q1 : decide (ee ≤ ep) = true := by simp; exact he
        rw [q1] at HFX HDX
        have HN := Lib.hid (show (l.take (k + 1)).filter F = fa ++ [⟨kk, bb, ee, ss, (xx, yy), uu, gg⟩] from by rw [SF.out, if_pos HFX.out])
        have HM := Lib.hid (show (l.take (k + 1)).filter D = fb from by rw [SD.out, if_neg (by rw [HDX.out]; simp), List.append_nil])
        clear he
        go_wp2_with (at_builtin; refine wpl_appX (L := verL) rfl (.tmp 23) (.tmp 28) rfl Try.underlying24 ver_info rfl w.heap.size _ fa [(⟨kk, bb, ee, ss, (xx, yy), uu, gg⟩ : Ver)] _ _ _ rfl rfl rfl rfl O.out G.out.size (by rw [List.length_singleton]; have := LF.out; have := HL.out; omega) (by decide) ?_; intro v5 w5 ho5 hg5 hb5)
        have hg5 : Grew wo w5 (.slice A2 fa.length c2) v5 := hg5
        have QN := Lib.hid (OwnX.keep Q.out hg5.grown (by
          cases h : (Value.slice A3 fb.length c3).ownBlock with
          | none => exact .inl rfl
          | some j => exact .inr fun e => AP.out j e.symm h))
        have APN := Lib.hid (show ∀ j, v5.ownBlock = some j → (Value.slice A3 fb.length c3).ownBlock ≠ some j from fun j h1 h2 => by
          rcases hg5.own with ho | ⟨g, hg, hg2⟩
          · exact AP.out j (ho ▸ h1) h2
          · have := (Q.out.lt j h2).2; rw [h1] at hg; cases hg; omega)
        go_roundw
        case rel => exact ⟨k + 1, by go_num, by omega, by rw [HN.out]; exact ho5, by rw [HM.out]; exact QN.out, APN.out, G.out.trans hb5⟩
        case measure => simp [intOf]; omega
      · have q1 : decide (ee ≤ ep) = false := by rw [decide_eq_false_iff_not]; exact he
        rw [q1] at HFX HDX
        have HN := Lib.hid (show (l.take (k + 1)).filter F = fa from by rw [SF.out, if_neg (by rw [HFX.out]; simp), List.append_nil])
        have HM := Lib.hid (show (l.take (k + 1)).filter D = fb ++ [⟨kk, bb, ee, ss, (xx, yy), uu, gg⟩] from by rw [SD.out, if_pos (by rw [HDX.out]; rfl)])
        clear he
        go_wp2_with (at_builtin; refine wpl_appX (L := verL) rfl (.tmp 30) (.tmp 35) rfl Try.underlying24 ver_info rfl w.heap.size _ fb [(⟨kk, bb, ee, ss, (xx, yy), uu, gg⟩ : Ver)] _ _ _ rfl rfl rfl rfl Q.out G.out.size (by rw [List.length_singleton]; have := LD.out; have := HL.out; omega) (by decide) ?_; intro v5 w5 ho5 hg5 hb5)
        have hg5 : Grew wo w5 (.slice A3 fb.length c3) v5 := hg5
        have QN := Lib.hid (OwnX.keep O.out hg5.grown (by
          cases h : (Value.slice A2 fa.length c2).ownBlock with
          | none => exact .inl rfl
          | some j => exact .inr fun e => AP.out j h e.symm))
        have APN := Lib.hid (show ∀ j, (Value.slice A2 fa.length c2).ownBlock = some j → v5.ownBlock ≠ some j from fun j h1 h2 => by
          rcases hg5.own with ho | ⟨g, hg, hg2⟩
          · exact AP.out j h1 (ho ▸ h2)
          · have := (O.out.lt j h1).2; rw [h2] at hg; cases hg; omega)
        go_roundw
        case rel => exact ⟨k + 1, by go_num, by omega, by rw [HN.out]; exact QN.out, by rw [HM.out]; exact ho5, APN.out, G.out.trans hb5⟩
        case measure => simp [intOf]; omega
    · have hkl : k = l.length := by omega
      subst hkl
      rw [List.take_length] at O Q
      have zl : decide ((l.length : Int) < (l.length : Int)) = false := by simp
      clear hlt ho hp
      go_wp2_with fail
      go_ret2
      exact ⟨_, _, rfl, O.out, Q.out, G.out⟩
end Go.Proofs.Ytigdkflknhdbgaa
