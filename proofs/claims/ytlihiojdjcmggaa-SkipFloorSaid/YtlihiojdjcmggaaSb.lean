/- Layer 12: Row, From, Floor, Same, by the document. -/
import Derived.Test.YtlihiojdjcmggaaSa
namespace Go.Proofs.Ytlihiojdjcmggaa
open Go.RowKit
set_option linter.unusedVariables false

def rowB (lv : Int) (x : It) : Bool := decide (1 ≤ lv) && decide (lv ≤ 8) && decide (lv ≤ x.level)
def rowI (l : List It) (lv : Int) : List ByteArray := (l.filter (rowB lv)).map (·.key)
theorem row_drop (lv : Int) {l : List It} {k : Nat} (hk : k < l.length) : rowI (l.drop k) lv = (if rowB lv l[k] = true then [l[k].key] else []) ++ rowI (l.drop (k + 1)) lv := by
  rw [List.drop_eq_getElem_cons hk, rowI, List.filter_cons]
  split <;> rfl
theorem str_info : (Try.prog.info? 9).map (fun i => (i.zero, i.size, i.bytes)) = some (some (.string ⟨#[]⟩), strL.sz, 16) := by kernel_rfl
set_option maxHeartbeats 4000000 in
set_option maxRecDepth 100000 in
theorem ref_row (va : Value) (l : List It) (lv : Int) (w : World) (ha : RdX itL w w.heap.size va l) (hl : l.length ≤ 100000) :
    Calls Try.prog 27 #[va, .int .i64 lv] w fun z w' => ∃ v', z = .returned v' ∧ OwnX strL 9 w' w.heap.size v' (rowI l lv) ∧ Below w.heap.size w w' := by
  have HA := Lib.hid ha
  have HL := Lib.hid hl
  obtain ⟨A, ca, rfl, -⟩ := ha
  clear hl
  go_enter Try.func27, Try.ntmps27
  go_wp2_with fail
  go_loopw [5, 6] (fun x i wr => ∃ (k : Nat) (r : List ByteArray), i = .int .i64 k ∧ k ≤ l.length ∧ rowI l lv = r ++ rowI (l.drop k) lv ∧ r.length ≤ k ∧ OwnX strL 9 wr w.heap.size x r ∧ Below w.heap.size w wr) (fun _ i _ => l.length - (intOf i).toNat)
  case atStart => exact ⟨0, [], rfl, Nat.zero_le _, rfl, Nat.le_refl _, OwnX.nil _ _, Below.refl _ _⟩
  case round =>
    obtain ⟨k, r, rfl, hk, hR, hrl, ho, hbw⟩ := hrel
    rename World => wo
    have G := Lib.hid hbw
    have O := Lib.hid ho
    have HR := Lib.hid hR
    have HRL := Lib.hid hrl
    clear hbw hR ho hrl
    by_cases hlt : k < l.length
    · have zl : decide ((k : Int) < (l.length : Int)) = true := by simp; omega
      have hki : (k : Int) < (l.length : Int) := by omega
      have hw64 : IntKind.i64.wrap ((k : Int) + 1) = (k : Int) + 1 := by rw [IntKind.wrap_i64]; have := HL.out; omega
      have HS := Lib.hid (row_drop lv hlt)
      obtain ⟨x, hx⟩ : ∃ x, l[k] = x := ⟨_, rfl⟩
      rw [hx] at HS
      obtain ⟨s, p, f⟩ := x
      obtain ⟨bb, o, rfl, -, e0, e1, e2⟩ := RdX.it (HA.out.below G.out) k hlt hx
      clear hx
      have off : rowB lv ⟨s, p, f⟩ = false → rowI l lv = r ++ rowI (l.drop (k + 1)) lv := fun h => by rw [HR.out, HS.out, h]; simp
      have on : rowB lv ⟨s, p, f⟩ = true → rowI l lv = (r ++ [s]) ++ rowI (l.drop (k + 1)) lv := fun h => by rw [HR.out, HS.out, h]; simp
      cases c1 : decide (1 ≤ lv)
      case' false =>
        have HN := Lib.hid (off (by simp only [rowB, c1]; rfl))
      case' true =>
        cases c2 : decide (lv ≤ 8)
        case' false =>
          have HN := Lib.hid (off (by simp only [rowB, c1, c2]; rfl))
        case' true =>
          cases c3 : decide (lv ≤ p)
          case' false =>
            have HN := Lib.hid (off (by simp only [rowB, c1, c2, c3]; rfl))
          case' true =>
            have HP := Lib.hid (on (by simp only [rowB, c1, c2, c3]; rfl))
            clear off on HS HR
            go_wp2_with (at_builtin; refine wpl_appX (L := strL) rfl (.tmp 28) (.tmp 34) rfl Try.underlying34 str_info rfl w.heap.size _ r [s] _ _ _ rfl rfl rfl rfl O.out G.out.size (by rw [List.length_singleton]; have := HRL.out; have := HL.out; omega) (by decide) ?_; intro v5 w5 ho5 hg5 hb5)
            go_roundw
            case rel => exact ⟨k + 1, _, by go_num, by omega, HP.out, by rw [List.length_append, List.length_singleton]; have := HRL.out; omega, ho5, G.out.trans hb5⟩
            case measure => simp [intOf]; omega
      all_goals
        clear off on HS HR
        go_wp2_with fail
        go_roundw
        case rel => exact ⟨k + 1, r, by go_num, by omega, HN.out, Nat.le_succ_of_le HRL.out, O.out, G.out⟩
        case measure => simp [intOf]; omega
    · have hkl : k = l.length := by omega
      subst hkl
      have HN := Lib.hid (show rowI l lv = r from by rw [HR.out, List.drop_length]; simp [rowI])
      have zl : decide ((l.length : Int) < (l.length : Int)) = false := by simp
      clear hlt
      go_wp2_with fail
      go_ret
      exact ⟨_, rfl, by rw [HN.out]; exact O.out, G.out⟩

def fromI (l : List It) (key : ByteArray) : List It := l.drop (atI key l)
theorem it_size : ∀ w, (Go.sizeOf 46).run Try.prog w = .ok itL.sz w := fun w => by go_simp; rfl
set_option maxHeartbeats 2000000 in
theorem ref_fromB (B : Nat) (va : Value) (l : List It) (key : ByteArray) (w : World) (hB : B ≤ w.heap.size) (ha : RdX itL w B va l) (hl : l.length ≤ 100000) :
    Calls Try.prog 18 #[va, .string key] w fun z w' => ∃ v', z = .returned v' ∧ RdX itL w' B v' (fromI l key) ∧ Below w.heap.size w w' := by
  have HA := Lib.hid ha
  have HBB := Lib.hid hB
  have AT := Lib.hid (ref_atK va l key)
  have HL := Lib.hid (at_le key l)
  have HLL := Lib.hid hl
  obtain ⟨A, ca, rfl, -⟩ := ha
  clear hl hB
  have HF := Lib.hid (show fromI l key = l.drop (atI key l) from rfl)
  generalize fromI l key = fr at *
  go_enter Try.func18, Try.ntmps18
  go_wp2_with fail
  refine (AT.out _ (HA.out.more HBB.out) HLL.out).mono ?_
  rintro z w1 ⟨rfl, hb⟩
  obtain ⟨A2, c2, h2, r2⟩ := slX_tail (HA.out.below (hb.mono HBB.out)) Try.underlying25 it_size (atI key l) (atI key l : Nat) rfl HL.out
  have R2 := Lib.hid r2
  have G := Lib.hid hb
  clear r2 hb
  generalize atI key l = q at *
  go_wp2_with fail
  go_ret
  exact ⟨_, rfl, by rw [HF.out]; exact R2.out, G.out⟩
theorem ref_from (va : Value) (l : List It) (key : ByteArray) (w : World) (ha : RdX itL w w.heap.size va l) (hl : l.length ≤ 100000) :
    Calls Try.prog 18 #[va, .string key] w fun z w' => ∃ v', z = .returned v' ∧ RdX itL w' w.heap.size v' (fromI l key) ∧ Below w.heap.size w w' := ref_fromB w.heap.size va l key w (Nat.le_refl _) ha hl

def floorI (l : List It) (key : ByteArray) : ByteArray × Bool :=
  if hereI l key = true then (key, true) else match l.take (atI key l) |>.getLast? with | some x => (x.key, true) | none => (⟨#[]⟩, false)
set_option maxHeartbeats 2000000 in
set_option maxRecDepth 100000 in
theorem ref_floor (va : Value) (l : List It) (key : ByteArray) (w : World) (ha : RdX itL w w.heap.size va l) (hl : l.length ≤ 100000) :
    Calls Try.prog 25 #[va, .string key] w fun z w' => z = .returned (.tuple #[.string (floorI l key).1, .bool (floorI l key).2]) ∧ Below w.heap.size w w' := by
  have HA := Lib.hid ha
  have AT := Lib.hid (ref_atK va l key)
  have HL := Lib.hid (at_le key l)
  have HLL := Lib.hid hl
  obtain ⟨A, ca, rfl, -⟩ := ha
  clear hl
  have F1 : hereI l key = true → floorI l key = (key, true) := fun h => by rw [floorI, if_pos h]
  have F0 : hereI l key = false → atI key l = 0 → floorI l key = (⟨#[]⟩, false) := fun h h0 => by rw [floorI, if_neg (by rw [h]; decide), h0]; rfl
  have F2 : hereI l key = false → ∀ q, atI key l = q + 1 → ∀ (hq : q < l.length), floorI l key = (l[q].key, true) := fun h q h0 hq => by
    rw [floorI, if_neg (by rw [h]; decide), h0]
    have : (l.take (q + 1)).getLast? = some l[q] := by
      rw [List.getLast?_eq_getElem?, List.length_take, Nat.min_eq_left (by omega), List.getElem?_take, if_pos (by omega), Nat.add_sub_cancel, List.getElem?_eq_getElem hq]
    rw [this]
  generalize floorI l key = fl at *
  go_enter Try.func25, Try.ntmps25
  go_wp2_with fail
  refine (AT.out _ HA.out HLL.out).mono ?_
  rintro z w1 ⟨rfl, hb⟩
  have G := Lib.hid hb
  clear hb
  generalize atI key l = q at *
  cases hh : hereI l key
  · rcases q with _ | q
    · have HN := Lib.hid (F0 hh rfl)
      clear F0 F1 F2
      go_wp2_with fail
      go_ret2
      exact ⟨ret_sb (by rw [HN.out]) (by rw [HN.out]), G.out⟩
    · have hq : q < l.length := by have := HL.out; omega
      have HN := Lib.hid (F2 hh q rfl hq)
      have z1 : (((q + 1 : Nat) : Int) == 0) = false := by rw [beq_eq_false_iff_ne]; omega
      obtain ⟨x, hx⟩ : ∃ x, l[q] = x := ⟨_, rfl⟩
      rw [hx] at HN
      obtain ⟨s, p, f⟩ := x
      obtain ⟨bb, o, rfl, -, e0, e1, e2⟩ := RdX.it (HA.out.below G.out) q hq hx
      have hw : IntKind.i64.wrap (((q + 1 : Nat) : Int) - 1) = ((q : Nat) : Int) := by rw [IntKind.wrap_i64]; have := HLL.out; omega
      have hlt : ((q : Nat) : Int) < (l.length : Int) := by omega
      have hpos : 0 ≤ ((q : Nat) : Int) := by omega
      generalize ((q + 1 : Nat) : Int) = qq at *
      clear F0 F1 F2 hx
      go_wp2_with fail
      go_ret2
      exact ⟨ret_sb (by rw [HN.out]) (by rw [HN.out]), G.out⟩
  · have HN := Lib.hid (F1 hh)
    clear F0 F1 F2
    go_wp2_with fail
    go_ret2
    exact ⟨ret_sb (by rw [HN.out]) (by rw [HN.out]), G.out⟩

theorem RdX.strE {w : World} {B n c : Nat} {A : Option Addr} {l : List ByteArray} (h : RdX strL w B (.slice A n c) l) (k : Nat) (hk : k < l.length) {s : ByteArray} (e : l[k] = s) : ∃ b o, A = some ⟨b, o, none⟩ ∧ b < B ∧ w.cell? ⟨b, o + k, none⟩ = some (.string s) := by
  obtain ⟨b, o, rfl, hb, hc⟩ := h.at k hk
  have h1 := hc 0 (.string l[k]) rfl
  subst e
  exact ⟨b, o, rfl, hb, by simpa [strL] using h1⟩
def sameT : List ByteArray → List ByteArray → Bool
  | [], [] => true
  | a :: r, b :: q => (a.toList == b.toList) && sameT r q
  | _, _ => false
theorem same_iff : ∀ {a b : List ByteArray}, sameT a b = true ↔ a = b
  | [], [] => by simp [sameT]
  | [], b :: q => by simp [sameT]
  | a :: r, [] => by simp [sameT]
  | a :: r, b :: q => by rw [sameT, Bool.and_eq_true, beq_iff_eq, bytes_eqK, same_iff, List.cons.injEq]
theorem same_len : ∀ {a b : List ByteArray}, a.length ≠ b.length → sameT a b = false := fun h => by
  rw [Bool.eq_false_iff]; intro h1; rw [same_iff.1 h1] at h; exact h rfl
theorem same_drop {a b : List ByteArray} {k : Nat} (h1 : k < a.length) (h2 : k < b.length) {x y : ByteArray} (hx : a[k] = x) (hy : b[k] = y) : sameT (a.drop k) (b.drop k) = ((x.toList == y.toList) && sameT (a.drop (k + 1)) (b.drop (k + 1))) := by
  rw [List.drop_eq_getElem_cons h1, List.drop_eq_getElem_cons h2, sameT, hx, hy]
set_option maxHeartbeats 2000000 in
set_option maxRecDepth 100000 in
theorem ref_sameK (va vb : Value) (a b : List ByteArray) (w : World) (ha : RdX strL w w.heap.size va a) (hb : RdX strL w w.heap.size vb b) (hl : a.length ≤ 100000) :
    Calls Try.prog 16 #[va, vb] w fun z w' => z = .returned (.bool (sameT a b)) ∧ Below w.heap.size w w' := by
  have HA := Lib.hid ha
  have HB := Lib.hid hb
  have HL := Lib.hid hl
  obtain ⟨A, ca, rfl, -⟩ := ha
  obtain ⟨B, cb, rfl, -⟩ := hb
  clear hl
  by_cases hne : a.length = b.length
  case' neg =>
    have z1 : ((a.length : Int) != (b.length : Int)) = true := by rw [bne_iff_ne]; omega
    have z2 : ((a.length : Int) == (b.length : Int)) = false := by rw [beq_eq_false_iff_ne]; omega
    have HN := Lib.hid (same_len hne)
    clear hne
    go_enter Try.func16, Try.ntmps16
    go_wp2_with fail
    go_ret
    exact ⟨ret_bool HN.out.symm, Below.refl _ _⟩
  have HE := Lib.hid hne
  rw [← hne] at HB ⊢
  clear hne
  go_enter Try.func16, Try.ntmps16
  go_wp2_with fail
  go_loopw [5] (fun i wr => ∃ k : Nat, i = .int .i64 k ∧ k ≤ a.length ∧ sameT a b = sameT (a.drop k) (b.drop k) ∧ Below w.heap.size w wr) (fun i _ => a.length - (intOf i).toNat)
  case atStart => exact ⟨0, rfl, Nat.zero_le _, rfl, Below.refl _ _⟩
  case round =>
    obtain ⟨k, rfl, hk, hR, hbw⟩ := hrel
    rename World => wo
    have G := Lib.hid hbw
    clear hbw
    by_cases hlt : k < a.length
    · have zl : decide ((k : Int) < (a.length : Int)) = true := by simp; omega
      have hki : (k : Int) < (a.length : Int) := by omega
      have hw64 : IntKind.i64.wrap ((k : Int) + 1) = (k : Int) + 1 := by rw [IntKind.wrap_i64]; have := HL.out; omega
      have hlb : k < b.length := by have := HE.out; omega
      have KA := Lib.hid hlt
      have KB := Lib.hid hlb
      obtain ⟨x, hx⟩ : ∃ x, a[k] = x := ⟨_, rfl⟩
      obtain ⟨y, hy⟩ : ∃ y, b[k] = y := ⟨_, rfl⟩
      rw [same_drop hlt hlb hx hy] at hR
      have HR := Lib.hid hR
      have XA := Lib.hid hx
      have XB := Lib.hid hy
      have NE := Lib.hid (show (x.toList != y.toList) = !(x.toList == y.toList) from rfl)
      obtain ⟨ba, oa, rfl, -, m1⟩ := RdX.strE (HA.out.below G.out) k hlt hx
      obtain ⟨bb, ob, rfl, -, m2⟩ := RdX.strE (HB.out.below G.out) k hlb hy
      clear hR hx hy hlb m1 m2
      go_wp2_with fail
      refine reg_start (by kernel_rfl) ?_
      refine reg_take2 0 17 (v := ?_) (T' := ?_) (Later.refl _) (by kernel_rfl) (by kernel_rfl) (by kernel_rfl) (fun _ _ _ h => h) (fun o ho => ?_) ?_ ?_
      rotate_left 2
      · cases ho
        refine ⟨rfl, rfl, fun W hW => ?_⟩
        go_simp; (try with_reducible rfl)
      · simp only [List.setIfInBounds_toArray, List.set_cons_succ, List.set_cons_zero]; exact rfl
      refine reg_take2 1 18 (v := ?_) (T' := ?_) (Later.refl _) (by kernel_rfl) (by kernel_rfl) (by kernel_rfl) (fun _ _ _ h => h) (fun o ho => ?_) ?_ ?_
      rotate_left 2
      · cases ho
        refine ⟨rfl, rfl, fun W hW => ?_⟩
        go_simp; (try with_reducible rfl)
      · simp only [List.setIfInBounds_toArray, List.set_cons_succ, List.set_cons_zero]; exact rfl
      refine reg_take2 2 19 (v := ?_) (T' := ?_) (Later.refl _) (by kernel_rfl) (by kernel_rfl) (by kernel_rfl) (fun _ _ _ h => h) (fun o ho => ?_) ?_ ?_
      rotate_left 2
      · cases ho
        refine ⟨rfl, rfl, fun W hW => ?_⟩
        obtain ⟨bq, oq, hq, -, n0⟩ := RdX.strE (HA.out.below (G.out.drew.trans (hW.mono G.out.size))) k KA.out XA.out
        cases hq
        go_simp; (try with_reducible rfl)
      · simp only [List.setIfInBounds_toArray, List.set_cons_succ, List.set_cons_zero]; exact rfl
      refine reg_take2 3 20 (v := ?_) (T' := ?_) (Later.refl _) (by kernel_rfl) (by kernel_rfl) (by kernel_rfl) (fun _ _ _ h => h) (fun o ho => ?_) ?_ ?_
      rotate_left 2
      · cases ho
        refine ⟨rfl, rfl, fun W hW => ?_⟩
        obtain ⟨bq, oq, hq, -, n0⟩ := RdX.strE (HA.out.below (G.out.drew.trans (hW.mono G.out.size))) k KA.out XA.out
        cases hq
        go_simp; (try with_reducible rfl)
      · simp only [List.setIfInBounds_toArray, List.set_cons_succ, List.set_cons_zero]; exact rfl
      refine reg_take2 4 21 (v := ?_) (T' := ?_) (Later.refl _) (by kernel_rfl) (by kernel_rfl) (by kernel_rfl) (fun _ _ _ h => h) (fun o ho => ?_) ?_ ?_
      rotate_left 2
      · cases ho
        refine ⟨rfl, rfl, fun W hW => ?_⟩
        go_simp; (try with_reducible rfl)
      · simp only [List.setIfInBounds_toArray, List.set_cons_succ, List.set_cons_zero]; exact rfl
      refine reg_take2 5 22 (v := ?_) (T' := ?_) (Later.refl _) (by kernel_rfl) (by kernel_rfl) (by kernel_rfl) (fun _ _ _ h => h) (fun o ho => ?_) ?_ ?_
      rotate_left 2
      · cases ho
        refine ⟨rfl, rfl, fun W hW => ?_⟩
        go_simp; (try with_reducible rfl)
      · simp only [List.setIfInBounds_toArray, List.set_cons_succ, List.set_cons_zero]; exact rfl
      refine reg_take2 6 23 (v := ?_) (T' := ?_) (Later.refl _) (by kernel_rfl) (by kernel_rfl) (by kernel_rfl) (fun _ _ _ h => h) (fun o ho => ?_) ?_ ?_
      rotate_left 2
      · cases ho
        refine ⟨rfl, rfl, fun W hW => ?_⟩
        obtain ⟨bq, oq, hq, -, n0⟩ := RdX.strE (HB.out.below (G.out.drew.trans (hW.mono G.out.size))) k KB.out XB.out
        cases hq
        go_simp; (try with_reducible rfl)
      · simp only [List.setIfInBounds_toArray, List.set_cons_succ, List.set_cons_zero]; exact rfl
      refine reg_take2 7 24 (v := ?_) (T' := ?_) (Later.refl _) (by kernel_rfl) (by kernel_rfl) (by kernel_rfl) (fun _ _ _ h => h) (fun o ho => ?_) ?_ ?_
      rotate_left 2
      · cases ho
        refine ⟨rfl, rfl, fun W hW => ?_⟩
        obtain ⟨bq, oq, hq, -, n0⟩ := RdX.strE (HB.out.below (G.out.drew.trans (hW.mono G.out.size))) k KB.out XB.out
        cases hq
        go_simp; (try with_reducible rfl)
      · simp only [List.setIfInBounds_toArray, List.set_cons_succ, List.set_cons_zero]; exact rfl
      refine reg_take2 8 25 (v := ?_) (T' := ?_) (Later.refl _) (by kernel_rfl) (by kernel_rfl) (by kernel_rfl) (fun _ _ _ h => h) (fun o ho => ?_) ?_ ?_
      rotate_left 2
      · cases ho
        refine ⟨rfl, rfl, fun W hW => ?_⟩
        go_simp; (try with_reducible rfl)
      · simp only [List.setIfInBounds_toArray, List.set_cons_succ, List.set_cons_zero]; exact rfl
      refine reg_done (by kernel_rfl) ?_
      have G := Lib.hid (G.out.drewN 1)
      cases c : (x.toList == y.toList)
      · have HN := Lib.hid (show sameT a b = false from by rw [HR.out, c]; rfl)
        have zn : (x.toList != y.toList) = true := by rw [NE.out, c]; rfl
        clear HR NE c
        go_wp2_with fail
        go_ret
        exact ⟨ret_bool HN.out.symm, G.out⟩
      · have HN := Lib.hid (show sameT a b = sameT (a.drop (k + 1)) (b.drop (k + 1)) from by rw [HR.out, c]; rfl)
        have zn : (x.toList != y.toList) = false := by rw [NE.out, c]; rfl
        clear HR NE c
        go_wp2_with fail
        go_roundw
        case rel => exact ⟨k + 1, by go_num, by omega, HN.out, G.out⟩
        case measure => simp [intOf]; omega
    · have hkl : k = a.length := by omega
      subst hkl
      have HN := Lib.hid (show sameT a b = true from by rw [hR, List.drop_length, HE.out, List.drop_length]; rfl)
      have zl : decide ((a.length : Int) < (a.length : Int)) = false := by simp
      clear hlt hR
      go_wp2_with fail
      go_ret
      exact ⟨ret_bool HN.out.symm, G.out⟩
end Go.Proofs.Ytlihiojdjcmggaa
