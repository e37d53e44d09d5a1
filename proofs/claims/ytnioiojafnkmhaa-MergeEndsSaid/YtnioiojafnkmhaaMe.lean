/- Layer 10: of versions that are alike in their order the last one, by the document. -/
import Derived.Test.YtnioiojafnkmhaaMc
namespace Go.Proofs.Ytnioiojafnkmhaa
open Go.RowKit
set_option linter.unusedVariables false

def alikeV (a b : Ver) : Bool := !(lessV a b || lessV b a)
/-- Of the first k things those that are not alike with the next one. -/
def onceTo {α : Type} (al : α → α → Bool) (l : List α) : Nat → List α
  | 0 => []
  | k + 1 => onceTo al l k ++ (match l[k]?, l[k + 1]? with
    | some a, some b => if al a b = true then [] else [a]
    | some a, none => [a]
    | none, _ => [])
theorem once_last {α : Type} {al : α → α → Bool} {l : List α} {k : Nat} (hk : k < l.length) (h : k + 1 = l.length) {p : α} (hp : l[k] = p) : onceTo al l (k + 1) = onceTo al l k ++ [p] := by
  show onceTo al l k ++ _ = _
  rw [List.getElem?_eq_getElem hk, List.getElem?_eq_none (by omega), hp]
theorem once_step {α : Type} {al : α → α → Bool} {l : List α} {k : Nat} (hk : k < l.length) (hk1 : k + 1 < l.length) {p q : α} (hp : l[k] = p) (hq : l[k + 1] = q) : onceTo al l (k + 1) = onceTo al l k ++ (if al p q = true then [] else [p]) := by
  show onceTo al l k ++ _ = _
  rw [List.getElem?_eq_getElem hk, List.getElem?_eq_getElem hk1, hp, hq]
theorem once_len {α : Type} (al : α → α → Bool) (l : List α) (k : Nat) : (onceTo al l k).length ≤ k := by
  induction k with
  | zero => exact Nat.le_refl _
  | succ k ih =>
    show (onceTo al l k ++ _).length ≤ _
    rw [List.length_append]
    have : (match l[k]?, l[k + 1]? with
      | some a, some b => if al a b = true then [] else [a]
      | some a, none => [a]
      | none, _ => []).length ≤ 1 := by split <;> (try split) <;> simp
    omega

set_option maxHeartbeats 8000000 in
set_option maxRecDepth 100000 in
theorem ref10_once (va : Value) (l : List Ver) (w : World) (ha : RdVr w w.heap.size va l) (hl : l.length ≤ 1000) :
    Calls Try.prog 22 #[va] w fun e w' => ∃ v', e = .returned v' ∧ OwnVr w' w.heap.size v' (onceTo alikeV l l.length) ∧ Below w.heap.size w w' := by
  have HA := Lib.hid ha
  have HL := Lib.hid hl
  obtain ⟨A, ca, rfl, hla, hca, -⟩ := ha
  go_enter Try.func22, Try.ntmps22
  go_wp2_with fail
  go_loopw [3, 4] (fun x i wr => ∃ k : Nat, i = .int .i64 k ∧ k ≤ l.length ∧ OwnVr wr w.heap.size x (onceTo alikeV l k) ∧ Below w.heap.size w wr) (fun _ i _ => l.length - (intOf i).toNat)
  case atStart => exact ⟨0, rfl, Nat.zero_le _, OwnX.nil _ _, Below.refl _ _⟩
  case round =>
    obtain ⟨k, rfl, hk, ho, hbw⟩ := hrel
    rename World => wo
    have O := Lib.hid ho
    have G := Lib.hid hbw
    clear ho hbw
    by_cases hlt : k < l.length
    · have zl : decide ((k : Int) < (l.length : Int)) = true := by simp; omega
      have hwl : IntKind.i64.wrap ((l.length : Int) - 1) = (l.length : Int) - 1 := by rw [IntKind.wrap_i64]; have := HL.out; omega
      obtain ⟨b, o, rfl, -⟩ := RdVr.here HA.out k hlt
      have hal := Lib.hid (show (onceTo alikeV l k).length + 1 ≤ 1000000000 from by have := once_len alikeV l k; have := HL.out; omega)
      obtain ⟨p, hp⟩ : ∃ p, l[k] = p := ⟨_, rfl⟩
      obtain ⟨kk, bb, ee, ss, ⟨xx, yy⟩, uu, gg⟩ := p
      have PP := Lib.hid hp
      clear hp
      by_cases hlast : k + 1 = l.length
      · have ze : ((k : Int) == (l.length : Int) - 1) = true := by rw [beq_iff_eq]; omega
        have ST := Lib.hid (once_last (al := alikeV) hlt hlast PP.out)
        clear hlast
        go_wp2_with fail
        go_quiet (fail)
        have O := Lib.hid (O.out.on ((Below.refl _ wo).drewN nq))
        have G := Lib.hid (G.out.drewN nq)
        obtain ⟨-, e0, e1, e2, e3, e4, e5, e6, e7⟩ := RdVr.cells1 (HA.out.below G.out) k hlt PP.out
        go_wp2_with (at_builtin; refine wpl_appX rfl (.tmp 42) (.tmp 47) rfl Try.underlying24 ver_info rfl w.heap.size _ (onceTo alikeV l k) [(⟨kk, bb, ee, ss, (xx, yy), uu, gg⟩ : Ver)] _ _ _ rfl rfl rfl rfl O.out G.out.size hal.out (by decide) ?_; intro v5 w5 ho5 hg5 hb5)
        have OZ := Lib.hid (show OwnVr w5 w.heap.size v5 (onceTo alikeV l (k + 1)) from by rw [ST.out]; exact ho5)
        have GZ := Lib.hid (G.out.trans hb5)
        clear ho5 hg5 hb5
        go_roundw
        case rel => exact ⟨k + 1, by go_num, by omega, OZ.out, GZ.out⟩
        case measure => simp [intOf]; omega
      · have ze : ((k : Int) == (l.length : Int) - 1) = false := by rw [beq_eq_false_iff_ne]; omega
        have hlt1 : k + 1 < l.length := by omega
        have hw64 : IntKind.i64.wrap ((k : Int) + 1) = (k : Int) + 1 := by rw [IntKind.wrap_i64]; have := HL.out; omega
        have hz1 : 0 ≤ (k : Int) + 1 := by omega
        have hi1 : (k : Int) + 1 < (l.length : Int) := by omega
        have hi0 : (k : Int) < (l.length : Int) := by omega
        obtain ⟨q, hq⟩ : ∃ q, l[k + 1] = q := ⟨_, rfl⟩
        obtain ⟨kk', bb', ee', ss', ⟨xx', yy'⟩, uu', gg'⟩ := q
        have QQ := Lib.hid hq
        have ST := Lib.hid (once_step (al := alikeV) hlt hlt1 PP.out hq)
        have L1 := Lib.hid (fun w => ref6_less ⟨kk, bb, ee, ss, (xx, yy), uu, gg⟩ ⟨kk', bb', ee', ss', (xx', yy'), uu', gg'⟩ w)
        have L2 := Lib.hid (fun w => ref6_less ⟨kk', bb', ee', ss', (xx', yy'), uu', gg'⟩ ⟨kk, bb, ee, ss, (xx, yy), uu, gg⟩ w)
        unfold verV at L1 L2
        simp only at L1 L2
        clear hq hlast
        cases h1 : lessV ⟨kk, bb, ee, ss, (xx, yy), uu, gg⟩ ⟨kk', bb', ee', ss', (xx', yy'), uu', gg'⟩
        · rw [h1] at L1
          cases h2 : lessV ⟨kk', bb', ee', ss', (xx', yy'), uu', gg'⟩ ⟨kk, bb, ee, ss, (xx, yy), uu, gg⟩
          · rw [h2] at L2
            have ST := Lib.hid (show onceTo alikeV l (k + 1) = onceTo alikeV l k from by rw [ST.out]; simp [alikeV, h1, h2])
            clear h1 h2
            go_wp2_with fail
            have O := Lib.hid (show OwnVr wo.drew w.heap.size _ (onceTo alikeV l k) from O.out.on ((Below.refl _ wo).drewN 1))
            have G := Lib.hid G.out.drew
            refine reg_start (by kernel_rfl) ?_
            refine reg_take2 0 17 (v := ?_) (T' := ?_) (Later.refl _) (by kernel_rfl) (by kernel_rfl) (by kernel_rfl) (fun _ _ _ h => h) (fun o ho => ?_) ?_ ?_
            rotate_left 2
            · cases ho
              refine ⟨rfl, rfl, fun W hW => ?_⟩
              go_simp; (try with_reducible rfl)
            · simp only [List.setIfInBounds_toArray, List.set_cons_succ, List.set_cons_zero]; exact rfl
            refine reg_take2 1 18 (v := ?_) (T' := ?_) (Later.refl _) (by kernel_rfl) (by kernel_rfl) (by kernel_rfl) (fun _ _ _ h => h) (fun o ho => ?_) ?_ ?_
            rotate_left 2
            · cases ho
              refine ⟨rfl, rfl, fun W hW => ?_⟩
              go_simp; (try with_reducible rfl)
            · simp only [List.setIfInBounds_toArray, List.set_cons_succ, List.set_cons_zero]; exact rfl
            refine reg_take2 2 19 (v := ?_) (T' := ?_) (Later.refl _) (by kernel_rfl) (by kernel_rfl) (by kernel_rfl) (fun _ _ _ h => h) (fun o ho => ?_) ?_ ?_
            rotate_left 2
            · cases ho
              refine ⟨rfl, rfl, fun W hW => ?_⟩
              go_simp; (try with_reducible rfl)
            · simp only [List.setIfInBounds_toArray, List.set_cons_succ, List.set_cons_zero]; exact rfl
            refine reg_take2 3 20 (v := ?_) (T' := ?_) (Later.refl _) (by kernel_rfl) (by kernel_rfl) (by kernel_rfl) (fun _ _ _ h => h) (fun o ho => ?_) ?_ ?_
            rotate_left 2
            · cases ho
              refine ⟨rfl, rfl, fun W hW => ?_⟩
              go_simp; (try with_reducible rfl)
            · simp only [List.setIfInBounds_toArray, List.set_cons_succ, List.set_cons_zero]; exact rfl
            refine reg_take2 4 21 (v := ?_) (T' := ?_) (Later.refl _) (by kernel_rfl) (by kernel_rfl) (by kernel_rfl) (fun _ _ _ h => h) (fun o ho => ?_) ?_ ?_
            rotate_left 2
            · cases ho
              refine ⟨rfl, rfl, fun W hW => ?_⟩
              go_simp; (try with_reducible rfl)
            · simp only [List.setIfInBounds_toArray, List.set_cons_succ, List.set_cons_zero]; exact rfl
            refine reg_take2 5 22 (v := ?_) (T' := ?_) (Later.refl _) (by kernel_rfl) (by kernel_rfl) (by kernel_rfl) (fun _ _ _ h => h) (fun o ho => ?_) ?_ ?_
            rotate_left 2
            · cases ho
              refine ⟨rfl, rfl, fun W hW => ?_⟩
              obtain ⟨-, d0, d1, d2, d3, d4, d5, d6, d7⟩ := RdVr.cells1 (HA.out.below (G.out.trans (hW.mono G.out.size))) k hlt PP.out
              go_simp; (try with_reducible rfl)
            · simp only [List.setIfInBounds_toArray, List.set_cons_succ, List.set_cons_zero]; exact rfl
            refine reg_take2 6 23 (v := ?_) (T' := ?_) (Later.refl _) (by kernel_rfl) (by kernel_rfl) (by kernel_rfl) (fun _ _ _ h => h) (fun o ho => ?_) ?_ ?_
            rotate_left 2
            · cases ho
              refine ⟨rfl, rfl, fun W hW => ?_⟩
              go_simp; (try with_reducible rfl)
            · simp only [List.setIfInBounds_toArray, List.set_cons_succ, List.set_cons_zero]; exact rfl
            refine reg_take2 7 24 (v := ?_) (T' := ?_) (Later.refl _) (by kernel_rfl) (by kernel_rfl) (by kernel_rfl) (fun _ _ _ h => h) (fun o ho => ?_) ?_ ?_
            rotate_left 2
            · cases ho
              refine ⟨rfl, rfl, fun W hW => ?_⟩
              go_simp; (try with_reducible rfl)
            · simp only [List.setIfInBounds_toArray, List.set_cons_succ, List.set_cons_zero]; exact rfl
            refine reg_take2 8 25 (v := ?_) (T' := ?_) (Later.refl _) (by kernel_rfl) (by kernel_rfl) (by kernel_rfl) (fun _ _ _ h => h) (fun o ho => ?_) ?_ ?_
            rotate_left 2
            · cases ho
              refine ⟨rfl, rfl, fun W hW => ?_⟩
              go_simp; (try with_reducible rfl)
            · simp only [List.setIfInBounds_toArray, List.set_cons_succ, List.set_cons_zero]; exact rfl
            refine reg_take2 9 26 (v := ?_) (T' := ?_) (Later.refl _) (by kernel_rfl) (by kernel_rfl) (by kernel_rfl) (fun _ _ _ h => h) (fun o ho => ?_) ?_ ?_
            rotate_left 2
            · cases ho
              refine ⟨rfl, rfl, fun W hW => ?_⟩
              go_simp; (try with_reducible rfl)
            · simp only [List.setIfInBounds_toArray, List.set_cons_succ, List.set_cons_zero]; exact rfl
            refine reg_take2 10 27 (v := ?_) (T' := ?_) (Later.refl _) (by kernel_rfl) (by kernel_rfl) (by kernel_rfl) (fun _ _ _ h => h) (fun o ho => ?_) ?_ ?_
            rotate_left 2
            · cases ho
              refine ⟨rfl, rfl, fun W hW => ?_⟩
              obtain ⟨-, d0, d1, d2, d3, d4, d5, d6, d7⟩ := RdVr.cells1 (HA.out.below (G.out.trans (hW.mono G.out.size))) (k + 1) hlt1 QQ.out
              go_simp; (try with_reducible rfl)
            · simp only [List.setIfInBounds_toArray, List.set_cons_succ, List.set_cons_zero]; exact rfl
            refine reg_call2 11 28 (Later.refl _) (by kernel_rfl) 32 #[.agg #[.string kk, .int .i64 bb, .int .i64 ee, .int .i64 ss, .int .i64 xx, .int .i64 yy, .string uu, .bool gg], .agg #[.string kk', .int .i64 bb', .int .i64 ee', .int .i64 ss', .int .i64 xx', .int .i64 yy', .string uu', .bool gg']] (fun o ho => by cases ho; exact ⟨rfl, rfl, fun W => by go_simp⟩) ?_
            refine (L1.out _).mono ?_
            rintro e x1 ⟨rfl, hb1⟩
            have G := Lib.hid (G.out.trans (hb1.mono G.out.size))
            have O := Lib.hid (O.out.on hb1)
            refine ⟨_, _, rfl, hb1, (by simp only [List.setIfInBounds_toArray, List.set_cons_succ, List.set_cons_zero]; exact rfl), ?_⟩
            clear hb1
            refine reg_take2 12 29 (v := ?_) (T' := ?_) (Later.refl _) (by kernel_rfl) (by kernel_rfl) (by kernel_rfl) (fun _ _ _ h => h) (fun o ho => ?_) ?_ ?_
            rotate_left 2
            · cases ho
              refine ⟨rfl, rfl, fun W hW => ?_⟩
              go_simp; (try with_reducible rfl)
            · simp only [List.setIfInBounds_toArray, List.set_cons_succ, List.set_cons_zero]; exact rfl
            refine reg_take2 13 30 (v := ?_) (T' := ?_) (Later.refl _) (by kernel_rfl) (by kernel_rfl) (by kernel_rfl) (fun _ _ _ h => h) (fun o ho => ?_) ?_ ?_
            rotate_left 2
            · cases ho
              refine ⟨rfl, rfl, fun W hW => ?_⟩
              go_simp; (try with_reducible rfl)
            · simp only [List.setIfInBounds_toArray, List.set_cons_succ, List.set_cons_zero]; exact rfl
            refine reg_take2 14 31 (v := ?_) (T' := ?_) (Later.refl _) (by kernel_rfl) (by kernel_rfl) (by kernel_rfl) (fun _ _ _ h => h) (fun o ho => ?_) ?_ ?_
            rotate_left 2
            · cases ho
              refine ⟨rfl, rfl, fun W hW => ?_⟩
              go_simp; (try with_reducible rfl)
            · simp only [List.setIfInBounds_toArray, List.set_cons_succ, List.set_cons_zero]; exact rfl
            refine reg_take2 15 32 (v := ?_) (T' := ?_) (Later.refl _) (by kernel_rfl) (by kernel_rfl) (by kernel_rfl) (fun _ _ _ h => h) (fun o ho => ?_) ?_ ?_
            rotate_left 2
            · cases ho
              refine ⟨rfl, rfl, fun W hW => ?_⟩
              go_simp; (try with_reducible rfl)
            · simp only [List.setIfInBounds_toArray, List.set_cons_succ, List.set_cons_zero]; exact rfl
            refine reg_take2 16 33 (v := ?_) (T' := ?_) (Later.refl _) (by kernel_rfl) (by kernel_rfl) (by kernel_rfl) (fun _ _ _ h => h) (fun o ho => ?_) ?_ ?_
            rotate_left 2
            · cases ho
              refine ⟨rfl, rfl, fun W hW => ?_⟩
              go_simp; (try with_reducible rfl)
            · simp only [List.setIfInBounds_toArray, List.set_cons_succ, List.set_cons_zero]; exact rfl
            refine reg_take2 17 34 (v := ?_) (T' := ?_) (Later.refl _) (by kernel_rfl) (by kernel_rfl) (by kernel_rfl) (fun _ _ _ h => h) (fun o ho => ?_) ?_ ?_
            rotate_left 2
            · cases ho
              refine ⟨rfl, rfl, fun W hW => ?_⟩
              go_simp; (try with_reducible rfl)
            · simp only [List.setIfInBounds_toArray, List.set_cons_succ, List.set_cons_zero]; exact rfl
            refine reg_take2 18 35 (v := ?_) (T' := ?_) (Later.refl _) (by kernel_rfl) (by kernel_rfl) (by kernel_rfl) (fun _ _ _ h => h) (fun o ho => ?_) ?_ ?_
            rotate_left 2
            · cases ho
              refine ⟨rfl, rfl, fun W hW => ?_⟩
              obtain ⟨-, d0, d1, d2, d3, d4, d5, d6, d7⟩ := RdVr.cells1 (HA.out.below (G.out.trans (hW.mono G.out.size))) (k + 1) hlt1 QQ.out
              go_simp; (try with_reducible rfl)
            · simp only [List.setIfInBounds_toArray, List.set_cons_succ, List.set_cons_zero]; exact rfl
            refine reg_take2 19 36 (v := ?_) (T' := ?_) (Later.refl _) (by kernel_rfl) (by kernel_rfl) (by kernel_rfl) (fun _ _ _ h => h) (fun o ho => ?_) ?_ ?_
            rotate_left 2
            · cases ho
              refine ⟨rfl, rfl, fun W hW => ?_⟩
              go_simp; (try with_reducible rfl)
            · simp only [List.setIfInBounds_toArray, List.set_cons_succ, List.set_cons_zero]; exact rfl
            refine reg_take2 20 37 (v := ?_) (T' := ?_) (Later.refl _) (by kernel_rfl) (by kernel_rfl) (by kernel_rfl) (fun _ _ _ h => h) (fun o ho => ?_) ?_ ?_
            rotate_left 2
            · cases ho
              refine ⟨rfl, rfl, fun W hW => ?_⟩
              go_simp; (try with_reducible rfl)
            · simp only [List.setIfInBounds_toArray, List.set_cons_succ, List.set_cons_zero]; exact rfl
            refine reg_take2 21 38 (v := ?_) (T' := ?_) (Later.refl _) (by kernel_rfl) (by kernel_rfl) (by kernel_rfl) (fun _ _ _ h => h) (fun o ho => ?_) ?_ ?_
            rotate_left 2
            · cases ho
              refine ⟨rfl, rfl, fun W hW => ?_⟩
              go_simp; (try with_reducible rfl)
            · simp only [List.setIfInBounds_toArray, List.set_cons_succ, List.set_cons_zero]; exact rfl
            refine reg_take2 22 39 (v := ?_) (T' := ?_) (Later.refl _) (by kernel_rfl) (by kernel_rfl) (by kernel_rfl) (fun _ _ _ h => h) (fun o ho => ?_) ?_ ?_
            rotate_left 2
            · cases ho
              refine ⟨rfl, rfl, fun W hW => ?_⟩
              obtain ⟨-, d0, d1, d2, d3, d4, d5, d6, d7⟩ := RdVr.cells1 (HA.out.below (G.out.trans (hW.mono G.out.size))) k hlt PP.out
              go_simp; (try with_reducible rfl)
            · simp only [List.setIfInBounds_toArray, List.set_cons_succ, List.set_cons_zero]; exact rfl
            refine reg_call2 23 40 (Later.refl _) (by kernel_rfl) 32 #[.agg #[.string kk', .int .i64 bb', .int .i64 ee', .int .i64 ss', .int .i64 xx', .int .i64 yy', .string uu', .bool gg'], .agg #[.string kk, .int .i64 bb, .int .i64 ee, .int .i64 ss, .int .i64 xx, .int .i64 yy, .string uu, .bool gg]] (fun o ho => by cases ho; exact ⟨rfl, rfl, fun W => by go_simp⟩) ?_
            refine (L2.out _).mono ?_
            rintro e x2 ⟨rfl, hb2⟩
            have G := Lib.hid (G.out.trans (hb2.mono G.out.size))
            have O := Lib.hid (O.out.on hb2)
            refine ⟨_, _, rfl, hb2, (by simp only [List.setIfInBounds_toArray, List.set_cons_succ, List.set_cons_zero]; exact rfl), ?_⟩
            clear hb2
            refine reg_take2 24 41 (v := ?_) (T' := ?_) (Later.refl _) (by kernel_rfl) (by kernel_rfl) (by kernel_rfl) (fun _ _ _ h => h) (fun o ho => ?_) ?_ ?_
            rotate_left 2
            · cases ho
              refine ⟨rfl, rfl, fun W hW => ?_⟩
              go_simp; (try with_reducible rfl)
            · simp only [List.setIfInBounds_toArray, List.set_cons_succ, List.set_cons_zero]; exact rfl
            refine reg_done (by kernel_rfl) ?_
            have O := Lib.hid (show OwnVr _ w.heap.size _ (onceTo alikeV l (k + 1)) from by rw [ST.out]; exact O.out)
            go_wp2_with fail
            go_roundw
            case rel => exact ⟨k + 1, by go_num, by omega, O.out, G.out⟩
            case measure => simp [intOf]; omega
          · rw [h2] at L2
            have ST := Lib.hid (show onceTo alikeV l (k + 1) = onceTo alikeV l k ++ [⟨kk, bb, ee, ss, (xx, yy), uu, gg⟩] from by rw [ST.out]; simp [alikeV, h1, h2])
            clear h1 h2
            go_wp2_with fail
            have O := Lib.hid (show OwnVr wo.drew w.heap.size _ (onceTo alikeV l k) from O.out.on ((Below.refl _ wo).drewN 1))
            have G := Lib.hid G.out.drew
            refine reg_start (by kernel_rfl) ?_
            refine reg_take2 0 17 (v := ?_) (T' := ?_) (Later.refl _) (by kernel_rfl) (by kernel_rfl) (by kernel_rfl) (fun _ _ _ h => h) (fun o ho => ?_) ?_ ?_
            rotate_left 2
            · cases ho
              refine ⟨rfl, rfl, fun W hW => ?_⟩
              go_simp; (try with_reducible rfl)
            · simp only [List.setIfInBounds_toArray, List.set_cons_succ, List.set_cons_zero]; exact rfl
            refine reg_take2 1 18 (v := ?_) (T' := ?_) (Later.refl _) (by kernel_rfl) (by kernel_rfl) (by kernel_rfl) (fun _ _ _ h => h) (fun o ho => ?_) ?_ ?_
            rotate_left 2
            · cases ho
              refine ⟨rfl, rfl, fun W hW => ?_⟩
              go_simp; (try with_reducible rfl)
            · simp only [List.setIfInBounds_toArray, List.set_cons_succ, List.set_cons_zero]; exact rfl
            refine reg_take2 2 19 (v := ?_) (T' := ?_) (Later.refl _) (by kernel_rfl) (by kernel_rfl) (by kernel_rfl) (fun _ _ _ h => h) (fun o ho => ?_) ?_ ?_
            rotate_left 2
            · cases ho
              refine ⟨rfl, rfl, fun W hW => ?_⟩
              go_simp; (try with_reducible rfl)
            · simp only [List.setIfInBounds_toArray, List.set_cons_succ, List.set_cons_zero]; exact rfl
            refine reg_take2 3 20 (v := ?_) (T' := ?_) (Later.refl _) (by kernel_rfl) (by kernel_rfl) (by kernel_rfl) (fun _ _ _ h => h) (fun o ho => ?_) ?_ ?_
            rotate_left 2
            · cases ho
              refine ⟨rfl, rfl, fun W hW => ?_⟩
              go_simp; (try with_reducible rfl)
            · simp only [List.setIfInBounds_toArray, List.set_cons_succ, List.set_cons_zero]; exact rfl
            refine reg_take2 4 21 (v := ?_) (T' := ?_) (Later.refl _) (by kernel_rfl) (by kernel_rfl) (by kernel_rfl) (fun _ _ _ h => h) (fun o ho => ?_) ?_ ?_
            rotate_left 2
            · cases ho
              refine ⟨rfl, rfl, fun W hW => ?_⟩
              go_simp; (try with_reducible rfl)
            · simp only [List.setIfInBounds_toArray, List.set_cons_succ, List.set_cons_zero]; exact rfl
            refine reg_take2 5 22 (v := ?_) (T' := ?_) (Later.refl _) (by kernel_rfl) (by kernel_rfl) (by kernel_rfl) (fun _ _ _ h => h) (fun o ho => ?_) ?_ ?_
            rotate_left 2
            · cases ho
              refine ⟨rfl, rfl, fun W hW => ?_⟩
              obtain ⟨-, d0, d1, d2, d3, d4, d5, d6, d7⟩ := RdVr.cells1 (HA.out.below (G.out.trans (hW.mono G.out.size))) k hlt PP.out
              go_simp; (try with_reducible rfl)
            · simp only [List.setIfInBounds_toArray, List.set_cons_succ, List.set_cons_zero]; exact rfl
            refine reg_take2 6 23 (v := ?_) (T' := ?_) (Later.refl _) (by kernel_rfl) (by kernel_rfl) (by kernel_rfl) (fun _ _ _ h => h) (fun o ho => ?_) ?_ ?_
            rotate_left 2
            · cases ho
              refine ⟨rfl, rfl, fun W hW => ?_⟩
              go_simp; (try with_reducible rfl)
            · simp only [List.setIfInBounds_toArray, List.set_cons_succ, List.set_cons_zero]; exact rfl
            refine reg_take2 7 24 (v := ?_) (T' := ?_) (Later.refl _) (by kernel_rfl) (by kernel_rfl) (by kernel_rfl) (fun _ _ _ h => h) (fun o ho => ?_) ?_ ?_
            rotate_left 2
            · cases ho
              refine ⟨rfl, rfl, fun W hW => ?_⟩
              go_simp; (try with_reducible rfl)
            · simp only [List.setIfInBounds_toArray, List.set_cons_succ, List.set_cons_zero]; exact rfl
            refine reg_take2 8 25 (v := ?_) (T' := ?_) (Later.refl _) (by kernel_rfl) (by kernel_rfl) (by kernel_rfl) (fun _ _ _ h => h) (fun o ho => ?_) ?_ ?_
            rotate_left 2
            · cases ho
              refine ⟨rfl, rfl, fun W hW => ?_⟩
              go_simp; (try with_reducible rfl)
            · simp only [List.setIfInBounds_toArray, List.set_cons_succ, List.set_cons_zero]; exact rfl
            refine reg_take2 9 26 (v := ?_) (T' := ?_) (Later.refl _) (by kernel_rfl) (by kernel_rfl) (by kernel_rfl) (fun _ _ _ h => h) (fun o ho => ?_) ?_ ?_
            rotate_left 2
            · cases ho
              refine ⟨rfl, rfl, fun W hW => ?_⟩
              go_simp; (try with_reducible rfl)
            · simp only [List.setIfInBounds_toArray, List.set_cons_succ, List.set_cons_zero]; exact rfl
            refine reg_take2 10 27 (v := ?_) (T' := ?_) (Later.refl _) (by kernel_rfl) (by kernel_rfl) (by kernel_rfl) (fun _ _ _ h => h) (fun o ho => ?_) ?_ ?_
            rotate_left 2
            · cases ho
              refine ⟨rfl, rfl, fun W hW => ?_⟩
              obtain ⟨-, d0, d1, d2, d3, d4, d5, d6, d7⟩ := RdVr.cells1 (HA.out.below (G.out.trans (hW.mono G.out.size))) (k + 1) hlt1 QQ.out
              go_simp; (try with_reducible rfl)
            · simp only [List.setIfInBounds_toArray, List.set_cons_succ, List.set_cons_zero]; exact rfl
            refine reg_call2 11 28 (Later.refl _) (by kernel_rfl) 32 #[.agg #[.string kk, .int .i64 bb, .int .i64 ee, .int .i64 ss, .int .i64 xx, .int .i64 yy, .string uu, .bool gg], .agg #[.string kk', .int .i64 bb', .int .i64 ee', .int .i64 ss', .int .i64 xx', .int .i64 yy', .string uu', .bool gg']] (fun o ho => by cases ho; exact ⟨rfl, rfl, fun W => by go_simp⟩) ?_
            refine (L1.out _).mono ?_
            rintro e x1 ⟨rfl, hb1⟩
            have G := Lib.hid (G.out.trans (hb1.mono G.out.size))
            have O := Lib.hid (O.out.on hb1)
            refine ⟨_, _, rfl, hb1, (by simp only [List.setIfInBounds_toArray, List.set_cons_succ, List.set_cons_zero]; exact rfl), ?_⟩
            clear hb1
            refine reg_take2 12 29 (v := ?_) (T' := ?_) (Later.refl _) (by kernel_rfl) (by kernel_rfl) (by kernel_rfl) (fun _ _ _ h => h) (fun o ho => ?_) ?_ ?_
            rotate_left 2
            · cases ho
              refine ⟨rfl, rfl, fun W hW => ?_⟩
              go_simp; (try with_reducible rfl)
            · simp only [List.setIfInBounds_toArray, List.set_cons_succ, List.set_cons_zero]; exact rfl
            refine reg_take2 13 30 (v := ?_) (T' := ?_) (Later.refl _) (by kernel_rfl) (by kernel_rfl) (by kernel_rfl) (fun _ _ _ h => h) (fun o ho => ?_) ?_ ?_
            rotate_left 2
            · cases ho
              refine ⟨rfl, rfl, fun W hW => ?_⟩
              go_simp; (try with_reducible rfl)
            · simp only [List.setIfInBounds_toArray, List.set_cons_succ, List.set_cons_zero]; exact rfl
            refine reg_take2 14 31 (v := ?_) (T' := ?_) (Later.refl _) (by kernel_rfl) (by kernel_rfl) (by kernel_rfl) (fun _ _ _ h => h) (fun o ho => ?_) ?_ ?_
            rotate_left 2
            · cases ho
              refine ⟨rfl, rfl, fun W hW => ?_⟩
              go_simp; (try with_reducible rfl)
            · simp only [List.setIfInBounds_toArray, List.set_cons_succ, List.set_cons_zero]; exact rfl
            refine reg_take2 15 32 (v := ?_) (T' := ?_) (Later.refl _) (by kernel_rfl) (by kernel_rfl) (by kernel_rfl) (fun _ _ _ h => h) (fun o ho => ?_) ?_ ?_
            rotate_left 2
            · cases ho
              refine ⟨rfl, rfl, fun W hW => ?_⟩
              go_simp; (try with_reducible rfl)
            · simp only [List.setIfInBounds_toArray, List.set_cons_succ, List.set_cons_zero]; exact rfl
            refine reg_take2 16 33 (v := ?_) (T' := ?_) (Later.refl _) (by kernel_rfl) (by kernel_rfl) (by kernel_rfl) (fun _ _ _ h => h) (fun o ho => ?_) ?_ ?_
            rotate_left 2
            · cases ho
              refine ⟨rfl, rfl, fun W hW => ?_⟩
              go_simp; (try with_reducible rfl)
            · simp only [List.setIfInBounds_toArray, List.set_cons_succ, List.set_cons_zero]; exact rfl
            refine reg_take2 17 34 (v := ?_) (T' := ?_) (Later.refl _) (by kernel_rfl) (by kernel_rfl) (by kernel_rfl) (fun _ _ _ h => h) (fun o ho => ?_) ?_ ?_
            rotate_left 2
            · cases ho
              refine ⟨rfl, rfl, fun W hW => ?_⟩
              go_simp; (try with_reducible rfl)
            · simp only [List.setIfInBounds_toArray, List.set_cons_succ, List.set_cons_zero]; exact rfl
            refine reg_take2 18 35 (v := ?_) (T' := ?_) (Later.refl _) (by kernel_rfl) (by kernel_rfl) (by kernel_rfl) (fun _ _ _ h => h) (fun o ho => ?_) ?_ ?_
            rotate_left 2
            · cases ho
              refine ⟨rfl, rfl, fun W hW => ?_⟩
              obtain ⟨-, d0, d1, d2, d3, d4, d5, d6, d7⟩ := RdVr.cells1 (HA.out.below (G.out.trans (hW.mono G.out.size))) (k + 1) hlt1 QQ.out
              go_simp; (try with_reducible rfl)
            · simp only [List.setIfInBounds_toArray, List.set_cons_succ, List.set_cons_zero]; exact rfl
            refine reg_take2 19 36 (v := ?_) (T' := ?_) (Later.refl _) (by kernel_rfl) (by kernel_rfl) (by kernel_rfl) (fun _ _ _ h => h) (fun o ho => ?_) ?_ ?_
            rotate_left 2
            · cases ho
              refine ⟨rfl, rfl, fun W hW => ?_⟩
              go_simp; (try with_reducible rfl)
            · simp only [List.setIfInBounds_toArray, List.set_cons_succ, List.set_cons_zero]; exact rfl
            refine reg_take2 20 37 (v := ?_) (T' := ?_) (Later.refl _) (by kernel_rfl) (by kernel_rfl) (by kernel_rfl) (fun _ _ _ h => h) (fun o ho => ?_) ?_ ?_
            rotate_left 2
            · cases ho
              refine ⟨rfl, rfl, fun W hW => ?_⟩
              go_simp; (try with_reducible rfl)
            · simp only [List.setIfInBounds_toArray, List.set_cons_succ, List.set_cons_zero]; exact rfl
            refine reg_take2 21 38 (v := ?_) (T' := ?_) (Later.refl _) (by kernel_rfl) (by kernel_rfl) (by kernel_rfl) (fun _ _ _ h => h) (fun o ho => ?_) ?_ ?_
            rotate_left 2
            · cases ho
              refine ⟨rfl, rfl, fun W hW => ?_⟩
              go_simp; (try with_reducible rfl)
            · simp only [List.setIfInBounds_toArray, List.set_cons_succ, List.set_cons_zero]; exact rfl
            refine reg_take2 22 39 (v := ?_) (T' := ?_) (Later.refl _) (by kernel_rfl) (by kernel_rfl) (by kernel_rfl) (fun _ _ _ h => h) (fun o ho => ?_) ?_ ?_
            rotate_left 2
            · cases ho
              refine ⟨rfl, rfl, fun W hW => ?_⟩
              obtain ⟨-, d0, d1, d2, d3, d4, d5, d6, d7⟩ := RdVr.cells1 (HA.out.below (G.out.trans (hW.mono G.out.size))) k hlt PP.out
              go_simp; (try with_reducible rfl)
            · simp only [List.setIfInBounds_toArray, List.set_cons_succ, List.set_cons_zero]; exact rfl
            refine reg_call2 23 40 (Later.refl _) (by kernel_rfl) 32 #[.agg #[.string kk', .int .i64 bb', .int .i64 ee', .int .i64 ss', .int .i64 xx', .int .i64 yy', .string uu', .bool gg'], .agg #[.string kk, .int .i64 bb, .int .i64 ee, .int .i64 ss, .int .i64 xx, .int .i64 yy, .string uu, .bool gg]] (fun o ho => by cases ho; exact ⟨rfl, rfl, fun W => by go_simp⟩) ?_
            refine (L2.out _).mono ?_
            rintro e x2 ⟨rfl, hb2⟩
            have G := Lib.hid (G.out.trans (hb2.mono G.out.size))
            have O := Lib.hid (O.out.on hb2)
            refine ⟨_, _, rfl, hb2, (by simp only [List.setIfInBounds_toArray, List.set_cons_succ, List.set_cons_zero]; exact rfl), ?_⟩
            clear hb2
            refine reg_take2 24 41 (v := ?_) (T' := ?_) (Later.refl _) (by kernel_rfl) (by kernel_rfl) (by kernel_rfl) (fun _ _ _ h => h) (fun o ho => ?_) ?_ ?_
            rotate_left 2
            · cases ho
              refine ⟨rfl, rfl, fun W hW => ?_⟩
              go_simp; (try with_reducible rfl)
            · simp only [List.setIfInBounds_toArray, List.set_cons_succ, List.set_cons_zero]; exact rfl
            refine reg_done (by kernel_rfl) ?_
            obtain ⟨-, e0, e1, e2, e3, e4, e5, e6, e7⟩ := RdVr.cells1 (HA.out.below G.out) k hlt PP.out
            go_wp2_with (at_builtin; refine wpl_appX rfl (.tmp 42) (.tmp 47) rfl Try.underlying24 ver_info rfl w.heap.size _ (onceTo alikeV l k) [(⟨kk, bb, ee, ss, (xx, yy), uu, gg⟩ : Ver)] _ _ _ rfl rfl rfl rfl O.out G.out.size hal.out (by decide) ?_; intro v5 w5 ho5 hg5 hb5)
            have OZ := Lib.hid (show OwnVr w5 w.heap.size v5 (onceTo alikeV l (k + 1)) from by rw [ST.out]; exact ho5)
            have GZ := Lib.hid (G.out.trans hb5)
            clear ho5 hg5 hb5
            go_roundw
            case rel => exact ⟨k + 1, by go_num, by omega, OZ.out, GZ.out⟩
            case measure => simp [intOf]; omega
        · rw [h1] at L1
          have ST := Lib.hid (show onceTo alikeV l (k + 1) = onceTo alikeV l k ++ [⟨kk, bb, ee, ss, (xx, yy), uu, gg⟩] from by rw [ST.out]; simp [alikeV, h1])
          clear h1
          go_wp2_with fail
          have O := Lib.hid (show OwnVr wo.drew w.heap.size _ (onceTo alikeV l k) from O.out.on ((Below.refl _ wo).drewN 1))
          have G := Lib.hid G.out.drew
          refine reg_start (by kernel_rfl) ?_
          refine reg_take2 0 17 (v := ?_) (T' := ?_) (Later.refl _) (by kernel_rfl) (by kernel_rfl) (by kernel_rfl) (fun _ _ _ h => h) (fun o ho => ?_) ?_ ?_
          rotate_left 2
          · cases ho
            refine ⟨rfl, rfl, fun W hW => ?_⟩
            go_simp; (try with_reducible rfl)
          · simp only [List.setIfInBounds_toArray, List.set_cons_succ, List.set_cons_zero]; exact rfl
          refine reg_take2 1 18 (v := ?_) (T' := ?_) (Later.refl _) (by kernel_rfl) (by kernel_rfl) (by kernel_rfl) (fun _ _ _ h => h) (fun o ho => ?_) ?_ ?_
          rotate_left 2
          · cases ho
            refine ⟨rfl, rfl, fun W hW => ?_⟩
            go_simp; (try with_reducible rfl)
          · simp only [List.setIfInBounds_toArray, List.set_cons_succ, List.set_cons_zero]; exact rfl
          refine reg_take2 2 19 (v := ?_) (T' := ?_) (Later.refl _) (by kernel_rfl) (by kernel_rfl) (by kernel_rfl) (fun _ _ _ h => h) (fun o ho => ?_) ?_ ?_
          rotate_left 2
          · cases ho
            refine ⟨rfl, rfl, fun W hW => ?_⟩
            go_simp; (try with_reducible rfl)
          · simp only [List.setIfInBounds_toArray, List.set_cons_succ, List.set_cons_zero]; exact rfl
          refine reg_take2 3 20 (v := ?_) (T' := ?_) (Later.refl _) (by kernel_rfl) (by kernel_rfl) (by kernel_rfl) (fun _ _ _ h => h) (fun o ho => ?_) ?_ ?_
          rotate_left 2
          · cases ho
            refine ⟨rfl, rfl, fun W hW => ?_⟩
            go_simp; (try with_reducible rfl)
          · simp only [List.setIfInBounds_toArray, List.set_cons_succ, List.set_cons_zero]; exact rfl
          refine reg_take2 4 21 (v := ?_) (T' := ?_) (Later.refl _) (by kernel_rfl) (by kernel_rfl) (by kernel_rfl) (fun _ _ _ h => h) (fun o ho => ?_) ?_ ?_
          rotate_left 2
          · cases ho
            refine ⟨rfl, rfl, fun W hW => ?_⟩
            go_simp; (try with_reducible rfl)
          · simp only [List.setIfInBounds_toArray, List.set_cons_succ, List.set_cons_zero]; exact rfl
          refine reg_take2 5 22 (v := ?_) (T' := ?_) (Later.refl _) (by kernel_rfl) (by kernel_rfl) (by kernel_rfl) (fun _ _ _ h => h) (fun o ho => ?_) ?_ ?_
          rotate_left 2
          · cases ho
            refine ⟨rfl, rfl, fun W hW => ?_⟩
            obtain ⟨-, d0, d1, d2, d3, d4, d5, d6, d7⟩ := RdVr.cells1 (HA.out.below (G.out.trans (hW.mono G.out.size))) k hlt PP.out
            go_simp; (try with_reducible rfl)
          · simp only [List.setIfInBounds_toArray, List.set_cons_succ, List.set_cons_zero]; exact rfl
          refine reg_take2 6 23 (v := ?_) (T' := ?_) (Later.refl _) (by kernel_rfl) (by kernel_rfl) (by kernel_rfl) (fun _ _ _ h => h) (fun o ho => ?_) ?_ ?_
          rotate_left 2
          · cases ho
            refine ⟨rfl, rfl, fun W hW => ?_⟩
            go_simp; (try with_reducible rfl)
          · simp only [List.setIfInBounds_toArray, List.set_cons_succ, List.set_cons_zero]; exact rfl
          refine reg_take2 7 24 (v := ?_) (T' := ?_) (Later.refl _) (by kernel_rfl) (by kernel_rfl) (by kernel_rfl) (fun _ _ _ h => h) (fun o ho => ?_) ?_ ?_
          rotate_left 2
          · cases ho
            refine ⟨rfl, rfl, fun W hW => ?_⟩
            go_simp; (try with_reducible rfl)
          · simp only [List.setIfInBounds_toArray, List.set_cons_succ, List.set_cons_zero]; exact rfl
          refine reg_take2 8 25 (v := ?_) (T' := ?_) (Later.refl _) (by kernel_rfl) (by kernel_rfl) (by kernel_rfl) (fun _ _ _ h => h) (fun o ho => ?_) ?_ ?_
          rotate_left 2
          · cases ho
            refine ⟨rfl, rfl, fun W hW => ?_⟩
            go_simp; (try with_reducible rfl)
          · simp only [List.setIfInBounds_toArray, List.set_cons_succ, List.set_cons_zero]; exact rfl
          refine reg_take2 9 26 (v := ?_) (T' := ?_) (Later.refl _) (by kernel_rfl) (by kernel_rfl) (by kernel_rfl) (fun _ _ _ h => h) (fun o ho => ?_) ?_ ?_
          rotate_left 2
          · cases ho
            refine ⟨rfl, rfl, fun W hW => ?_⟩
            go_simp; (try with_reducible rfl)
          · simp only [List.setIfInBounds_toArray, List.set_cons_succ, List.set_cons_zero]; exact rfl
          refine reg_take2 10 27 (v := ?_) (T' := ?_) (Later.refl _) (by kernel_rfl) (by kernel_rfl) (by kernel_rfl) (fun _ _ _ h => h) (fun o ho => ?_) ?_ ?_
          rotate_left 2
          · cases ho
            refine ⟨rfl, rfl, fun W hW => ?_⟩
            obtain ⟨-, d0, d1, d2, d3, d4, d5, d6, d7⟩ := RdVr.cells1 (HA.out.below (G.out.trans (hW.mono G.out.size))) (k + 1) hlt1 QQ.out
            go_simp; (try with_reducible rfl)
          · simp only [List.setIfInBounds_toArray, List.set_cons_succ, List.set_cons_zero]; exact rfl
          refine reg_call2 11 28 (Later.refl _) (by kernel_rfl) 32 #[.agg #[.string kk, .int .i64 bb, .int .i64 ee, .int .i64 ss, .int .i64 xx, .int .i64 yy, .string uu, .bool gg], .agg #[.string kk', .int .i64 bb', .int .i64 ee', .int .i64 ss', .int .i64 xx', .int .i64 yy', .string uu', .bool gg']] (fun o ho => by cases ho; exact ⟨rfl, rfl, fun W => by go_simp⟩) ?_
          refine (L1.out _).mono ?_
          rintro e x1 ⟨rfl, hb1⟩
          have G := Lib.hid (G.out.trans (hb1.mono G.out.size))
          have O := Lib.hid (O.out.on hb1)
          refine ⟨_, _, rfl, hb1, (by simp only [List.setIfInBounds_toArray, List.set_cons_succ, List.set_cons_zero]; exact rfl), ?_⟩
          clear hb1
          refine reg_take2 12 29 (v := ?_) (T' := ?_) (Later.refl _) (by kernel_rfl) (by kernel_rfl) (by kernel_rfl) (fun _ _ _ h => h) (fun o ho => ?_) ?_ ?_
          rotate_left 2
          · cases ho
            refine ⟨rfl, rfl, fun W hW => ?_⟩
            go_simp; (try with_reducible rfl)
          · simp only [List.setIfInBounds_toArray, List.set_cons_succ, List.set_cons_zero]; exact rfl
          refine reg_take2 13 30 (v := ?_) (T' := ?_) (Later.refl _) (by kernel_rfl) (by kernel_rfl) (by kernel_rfl) (fun _ _ _ h => h) (fun o ho => ?_) ?_ ?_
          rotate_left 2
          · cases ho
            refine ⟨rfl, rfl, fun W hW => ?_⟩
            go_simp; (try with_reducible rfl)
          · simp only [List.setIfInBounds_toArray, List.set_cons_succ, List.set_cons_zero]; exact rfl
          refine reg_skip2 14 31 (T' := ?_) (Later.refl _) (by kernel_rfl) (by kernel_rfl) (by kernel_rfl) (fun _ _ _ h => h) (fun o ho => by cases ho; exact ⟨rfl, rfl⟩) ?_ ?_
          rotate_left
          · simp only [List.setIfInBounds_toArray, List.set_cons_succ, List.set_cons_zero]; exact rfl
          refine reg_skip2 15 32 (T' := ?_) (Later.refl _) (by kernel_rfl) (by kernel_rfl) (by kernel_rfl) (fun _ _ _ h => h) (fun o ho => by cases ho; exact ⟨rfl, rfl⟩) ?_ ?_
          rotate_left
          · simp only [List.setIfInBounds_toArray, List.set_cons_succ, List.set_cons_zero]; exact rfl
          refine reg_skip2 16 33 (T' := ?_) (Later.refl _) (by kernel_rfl) (by kernel_rfl) (by kernel_rfl) (fun _ _ _ h => h) (fun o ho => by cases ho; exact ⟨rfl, rfl⟩) ?_ ?_
          rotate_left
          · simp only [List.setIfInBounds_toArray, List.set_cons_succ, List.set_cons_zero]; exact rfl
          refine reg_skip2 17 34 (T' := ?_) (Later.refl _) (by kernel_rfl) (by kernel_rfl) (by kernel_rfl) (fun _ _ _ h => h) (fun o ho => by cases ho; exact ⟨rfl, rfl⟩) ?_ ?_
          rotate_left
          · simp only [List.setIfInBounds_toArray, List.set_cons_succ, List.set_cons_zero]; exact rfl
          refine reg_skip2 18 35 (T' := ?_) (Later.refl _) (by kernel_rfl) (by kernel_rfl) (by kernel_rfl) (fun _ _ _ h => h) (fun o ho => by cases ho; exact ⟨rfl, rfl⟩) ?_ ?_
          rotate_left
          · simp only [List.setIfInBounds_toArray, List.set_cons_succ, List.set_cons_zero]; exact rfl
          refine reg_skip2 19 36 (T' := ?_) (Later.refl _) (by kernel_rfl) (by kernel_rfl) (by kernel_rfl) (fun _ _ _ h => h) (fun o ho => by cases ho; exact ⟨rfl, rfl⟩) ?_ ?_
          rotate_left
          · simp only [List.setIfInBounds_toArray, List.set_cons_succ, List.set_cons_zero]; exact rfl
          refine reg_skip2 20 37 (T' := ?_) (Later.refl _) (by kernel_rfl) (by kernel_rfl) (by kernel_rfl) (fun _ _ _ h => h) (fun o ho => by cases ho; exact ⟨rfl, rfl⟩) ?_ ?_
          rotate_left
          · simp only [List.setIfInBounds_toArray, List.set_cons_succ, List.set_cons_zero]; exact rfl
          refine reg_skip2 21 38 (T' := ?_) (Later.refl _) (by kernel_rfl) (by kernel_rfl) (by kernel_rfl) (fun _ _ _ h => h) (fun o ho => by cases ho; exact ⟨rfl, rfl⟩) ?_ ?_
          rotate_left
          · simp only [List.setIfInBounds_toArray, List.set_cons_succ, List.set_cons_zero]; exact rfl
          refine reg_skip2 22 39 (T' := ?_) (Later.refl _) (by kernel_rfl) (by kernel_rfl) (by kernel_rfl) (fun _ _ _ h => h) (fun o ho => by cases ho; exact ⟨rfl, rfl⟩) ?_ ?_
          rotate_left
          · simp only [List.setIfInBounds_toArray, List.set_cons_succ, List.set_cons_zero]; exact rfl
          refine reg_skip2 23 40 (T' := ?_) (Later.refl _) (by kernel_rfl) (by kernel_rfl) (by kernel_rfl) (fun _ _ _ h => h) (fun o ho => by cases ho; exact ⟨rfl, rfl⟩) ?_ ?_
          rotate_left
          · simp only [List.setIfInBounds_toArray, List.set_cons_succ, List.set_cons_zero]; exact rfl
          refine reg_take2 24 41 (v := ?_) (T' := ?_) (Later.refl _) (by kernel_rfl) (by kernel_rfl) (by kernel_rfl) (fun _ _ _ h => h) (fun o ho => ?_) ?_ ?_
          rotate_left 2
          · cases ho
            refine ⟨rfl, rfl, fun W hW => ?_⟩
            go_simp; (try with_reducible rfl)
          · simp only [List.setIfInBounds_toArray, List.set_cons_succ, List.set_cons_zero]; exact rfl
          refine reg_done (by kernel_rfl) ?_
          obtain ⟨-, e0, e1, e2, e3, e4, e5, e6, e7⟩ := RdVr.cells1 (HA.out.below G.out) k hlt PP.out
          go_wp2_with (at_builtin; refine wpl_appX rfl (.tmp 42) (.tmp 47) rfl Try.underlying24 ver_info rfl w.heap.size _ (onceTo alikeV l k) [(⟨kk, bb, ee, ss, (xx, yy), uu, gg⟩ : Ver)] _ _ _ rfl rfl rfl rfl O.out G.out.size hal.out (by decide) ?_; intro v5 w5 ho5 hg5 hb5)
          have OZ := Lib.hid (show OwnVr w5 w.heap.size v5 (onceTo alikeV l (k + 1)) from by rw [ST.out]; exact ho5)
          have GZ := Lib.hid (G.out.trans hb5)
          clear ho5 hg5 hb5
          go_roundw
          case rel => exact ⟨k + 1, by go_num, by omega, OZ.out, GZ.out⟩
          case measure => simp [intOf]; omega
    · have zl : decide ((k : Int) < (l.length : Int)) = false := by rw [decide_eq_false_iff_not]; omega
      have hke : k = l.length := by omega
      rw [hke] at O
      go_wp2_with fail
      go_ret
      exact ⟨_, rfl, O.out, G.out⟩
end Go.Proofs.Ytnioiojafnkmhaa
