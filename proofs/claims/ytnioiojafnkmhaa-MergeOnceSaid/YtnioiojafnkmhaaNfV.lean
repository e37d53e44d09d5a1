/- Layer 10, the project's: lists on their way to be one, from their beginning (versions). -/
import Derived.Test.YtnioiojafnkmhaaNeV
import Derived.Test.YtnioiojafnkmhaaMc
namespace Go.Proofs.Ytnioiojafnkmhaa
open Go.RowKit
set_option linter.unusedVariables false

section
variable {T : TypeId → Bool} {Kp : Nat → Prop}
set_option maxHeartbeats 4000000 in
set_option maxRecDepth 100000 in
theorem begin_ver (hT : FreeV T) (va : Value) (ls : List (List Ver)) (U : World) (ha : RdPP verL Kp U.heap.size U va ls) (hl : ls.flatten.length ≤ 1000) :
    Calls Try.prog 35 #[cmpF, va] U fun e W' => ∃ ys, e = .returned (.pointer (some ⟨U.heap.size, 0, none⟩)) ∧ StV Kp U.heap.size U.heap.size ys W' ys ∧ Tw T U.heap.size U W' ∧ HeapTo (ltR lessV) ys ys.length ∧ Rests ls ys ∧ ys.length ≤ 1000 := by
  have HA := Lib.hid ha
  have HL := Lib.hid hl
  obtain ⟨A, ca, rfl, hla, hca⟩ := ha.form
  have hB0 := alloc_below U (.cells #[cmpF, .slice none 0 0] 79)
  have S0 := Lib.hid (show StV Kp U.heap.size U.heap.size [] (U.alloc (.cells #[cmpF, .slice none 0 0] 79)) [] from ⟨⟨_, Box.new U _ _ _ rfl, OwnX.nil _ _⟩, Nat.le_refl _, (fun _ h => by cases h), (fun _ h => h)⟩)
  have T0 := Lib.hid (Tw.of_below (T := T) (B := U.heap.size) hB0)
  clear ha hl hB0
  unfold cmpF at *
  go_enter Try.func35, Try.ntmps35
  go_wp2_with fail
  go_loopw [13] (fun i wr => ∃ (k : Nat) (ys : List (Rst Ver)), i = .int .i64 k ∧ k ≤ ls.length ∧ StV Kp U.heap.size U.heap.size ys wr ys ∧ Tw T U.heap.size U wr ∧ HeapTo (ltR lessV) ys ys.length ∧ Rests (ls.take k) ys ∧ ys.length ≤ (ls.take k).flatten.length) (fun i _ => ls.length - (intOf i).toNat)
  case atStart => exact ⟨0, [], rfl, Nat.zero_le _, S0.out, T0.out, (fun k a b _ h => by cases h), Rests.nil, Nat.le_refl _⟩
  case round =>
    obtain ⟨k, ys, rfl, hk, hst, htw, hhe, hre, hln⟩ := hrel
    rename World => wo
    have R1 := Lib.hid hst
    have R2 := Lib.hid htw
    have R3 := Lib.hid hhe
    have R4 := Lib.hid hre
    have R5 := Lib.hid hln
    clear hst htw hhe hre hln S0 T0
    by_cases hlt : k < ls.length
    · have zl : decide ((k : Int) < (ls.length : Int)) = true := by simp; omega
      have hka : (k : Int) < 9223372036854775807 := by omega
      obtain ⟨b, o, a1, m1, rfl, hbb, c0, r1⟩ := (HA.out.below (R2.out.below (Nat.le_refl _) (Nat.le_refl _))).at k hlt
      have FT := Lib.hid (List.take_succ_eq_append_getElem hlt)
      have FL := Lib.hid (Nat.le_trans (flat_len ls k hlt) HL.out)
      generalize ls[k] = q at *
      have RQ := Lib.hid r1
      clear r1 hbb
      have PC := Lib.hid (show Calls Try.prog 44 #[.pointer (some ⟨U.heap.size, 0, none⟩), .pointer (some ⟨wo.heap.size, 0, none⟩)] (wo.alloc (.cells #[.slice a1 q.length m1, .int .i64 k] 83)) fun e w5 => (∃ v, e = .returned v) ∧
          ∃ zs, StV Kp U.heap.size U.heap.size zs w5 zs ∧ Tw T U.heap.size U w5 ∧ HeapTo (ltR lessV) zs zs.length ∧ Rests (ls.take (k + 1)) zs ∧ zs.length ≤ (ls.take (k + 1)).flatten.length from by
        have hba := alloc_below wo (.cells #[.slice a1 q.length m1, .int .i64 k] 83)
        have hb : Box (wo.alloc (.cells #[.slice a1 q.length m1, .int .i64 k] 83)) wo.heap.size #[.slice a1 q.length m1, .int .i64 k] 83 := Box.new wo _ _ _ rfl
        have hs1 := St.later R1.out hba
        have ht1 := (ownT_tw (T := T) (B := U.heap.size) (β := Unit) U).alloc (s := ()) (.cells #[.slice a1 q.length m1, .int .i64 k] 83) R2.out
        have hsz := R2.out.size
        have hlk : (ls.take k).length = k := by rw [List.length_take]; omega
        have hfl : (ls.take (k + 1)).flatten.length = (ls.take k).flatten.length + q.length := by rw [FT.out, List.flatten_append, List.length_append]; simp
        have h5 := R5.out
        cases q with
        | nil =>
          refine (put0_ver (M := U.heap.size) wo.heap.size k a1 m1 _ hb).mono ?_
          rintro e w5 ⟨he, rfl⟩
          exact ⟨he, ys, hs1, ht1, R3.out, FT.out ▸ R4.out.none, by rw [hfl]; omega⟩
        | cons x t =>
          have hat : ∀ r ∈ ys, r.at_ ≠ wo.heap.size := fun r hr e => by
            obtain ⟨-, s, hbx, -⟩ := St.rests R1.out r hr
            have := hbx.lt
            omega
          have hst := St.more hs1 (a := ⟨wo.heap.size, (ls.take k).length, x, t⟩) hsz ⟨_, by rw [hlk]; exact hb, RQ.out.below (hba.mono hsz)⟩
          have h6 := FL.out
          refine (put_ver (pool := ⟨wo.heap.size, (ls.take k).length, x, t⟩ :: ys) (ownT_tw (T := T) (β := Unit) U) hT () ys ⟨wo.heap.size, (ls.take k).length, x, t⟩ List.mem_cons_self (by omega) _ hst ht1 R3.out).mono ?_
          rintro e w5 ⟨he, zs, ⟨h1, h2⟩, h3, h4⟩
          exact ⟨he, zs, h1.self, h2, h4, FT.out ▸ (R4.out.more wo.heap.size x t hat).perm h3, by rw [h3.length_eq, List.length_cons, hfl, List.length_cons]; omega⟩)
      clear R1 R2 R3 R4 R5 FT FL RQ
      go_wp2_with fail
      refine PC.out.mono ?_
      rintro z w5 ⟨⟨v5, rfl⟩, zs, hst, htw, hhe, hre, hln⟩
      have R1 := Lib.hid hst
      have R2 := Lib.hid htw
      have R3 := Lib.hid hhe
      have R4 := Lib.hid hre
      have R5 := Lib.hid hln
      clear hst htw hhe hre hln c0 PC
      go_wp2_with fail
      go_roundw
      case rel => exact ⟨k + 1, zs, by go_num, by omega, R1.out, R2.out, R3.out, R4.out, R5.out⟩
      case measure => simp [intOf]; omega
    · have hkl : k = ls.length := by omega
      subst hkl
      rw [List.take_length] at R4 R5
      have R6 := Lib.hid (Nat.le_trans R5.out HL.out)
      have zl : decide ((ls.length : Int) < (ls.length : Int)) = false := by simp
      clear R5 hlt
      go_wp2_with fail
      go_ret
      exact ⟨ys, rfl, R1.out, R2.out, R3.out, R4.out, R6.out⟩
end
end Go.Proofs.Ytnioiojafnkmhaa
