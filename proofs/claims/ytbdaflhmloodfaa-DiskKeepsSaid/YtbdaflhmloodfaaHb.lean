/- Layer 7, the project's disk: names, quotas, the power, what there is to see of it. -/
import Derived.Test.YtbdaflhmloodfaaHa
import Derived.Deep.RegionWith
namespace Go.Proofs.Ytbdaflhmloodfaa
open Go.RowKit
set_option linter.unusedVariables false

set_option maxHeartbeats 2000000 in
theorem p_mayStand (c : UInt8) (w : World) : Calls Try.prog 56 #[.int .u8 (c.toNat : Int)] w fun e w' => e = .returned (.bool (nameC c)) ∧ w = w' := by
  have hx := c.toNat_lt
  have HN := Lib.hid (show nameC c = ((decide (97 ≤ c.toNat) && decide (c.toNat ≤ 122)) || (decide (48 ≤ c.toNat) && decide (c.toNat ≤ 57)) || decide (c.toNat = 46) || decide (c.toNat = 45)) from rfl)
  generalize nameC c = r at *
  generalize c.toNat = n at *
  go_enter Try.func56, Try.ntmps56
  go_wp2_with fail
  all_goals
    go_ret
    exact ⟨ret_bool (by rw [HN.out, Bool.eq_iff_iff]; (try simp); (try omega)), rfl⟩

set_option maxHeartbeats 2000000 in
theorem p_isName (s : ByteArray) (w : World) (hs : s.size ≤ 9223372036854775807) :
    Calls Try.prog 38 #[.string s] w fun e w' => e = .returned (.bool (nameB s.data.toList)) ∧ w = w' := by
  have hsl : s.data.toList.length = s.size := by simp
  have HB := Lib.hid (show nameB s.data.toList = (s.data.toList.all nameC && decide (1 ≤ s.size) && decide (s.size ≤ 20)) from by unfold nameB; rw [hsl])
  generalize hr : nameB s.data.toList = r at *
  clear hr
  by_cases h1 : 1 ≤ s.size
  · by_cases h2 : s.size ≤ 20
    · have hH := Lib.hid (show r = s.data.toList.all nameC from by rw [HB.out]; simp [h1, h2])
      have z1 : decide ((s.size : Int) < 1) = false := by rw [decide_eq_false_iff_not]; omega
      have z2 : decide ((20 : Int) < (s.size : Int)) = false := by rw [decide_eq_false_iff_not]; omega
      clear HB
      go_enter Try.func38, Try.ntmps38
      go_wp2_with fail
      go_loopw [3, 14] (fun _ i wr => ∃ k : Nat, i = .int .i64 k ∧ k ≤ s.size ∧ (s.data.toList.take k).all nameC = true ∧ wr = w) (fun _ i _ => s.size - (intOf i).toNat)
      case atStart => exact ⟨0, rfl, Nat.zero_le _, by simp, rfl⟩
      case round =>
        obtain ⟨k, rfl, hk, hall, rfl⟩ := hrel
        have HALL := Lib.hid hall
        clear hall
        by_cases hlt : k < s.size
        · have hts := Lib.hid (take_snocD s k hlt)
          have HF := Lib.hid (show nameC s[k] = false → r = false from fun h => by
            rw [hH.out, Bool.eq_false_iff]
            intro h3
            have h4 : s[k] ∈ s.data.toList := by
              have : s[k] ∈ s.data.toList.take (k + 1) := by rw [hts.out]; simp
              exact List.mem_of_mem_take this
            rw [List.all_eq_true.1 h3 _ h4] at h
            cases h)
          have HG := Lib.hid (show nameC s[k] = true → (s.data.toList.take (k + 1)).all nameC = true from fun h => by
            rw [hts.out, List.all_append, HALL.out]; simp [h])
          clear hts
          have zl : decide ((k : Int) < (s.size : Int)) = true := by simp; omega
          generalize hc : s[k] = c at *
          cases hq : nameC c
          · have HF2 := Lib.hid (HF.out hq)
            have HQ := Lib.hid hq
            clear hq
            go_wp2_with (go_at_call 56; refine (p_mayStand c _).mono ?_; rintro e w' ⟨rfl, rfl⟩; rw [HQ.out])
            go_ret
            exact ⟨ret_bool HF2.out.symm, rfl⟩
          · have HG2 := Lib.hid (HG.out hq)
            have HQ := Lib.hid hq
            clear hq
            go_wp2_with (go_at_call 56; refine (p_mayStand c _).mono ?_; rintro e w' ⟨rfl, rfl⟩; rw [HQ.out])
            go_roundw
            case rel => exact ⟨k + 1, by go_num, by omega, HG2.out, by trivial⟩
            case measure => simp [intOf]; omega
        · have hk2 : k = s.size := by omega
          subst hk2
          have HR := Lib.hid (show r = true from by
            rw [hH.out]
            have := HALL.out
            rwa [List.take_of_length_le (by omega)] at this)
          have zl : decide ((s.size : Int) < (s.size : Int)) = false := by simp
          go_wp2_with fail
          go_ret
          exact ⟨ret_bool HR.out.symm, rfl⟩
    · have hH := Lib.hid (show r = false from by rw [HB.out]; simp [h2])
      have z1 : decide ((s.size : Int) < 1) = false := by rw [decide_eq_false_iff_not]; omega
      have z2 : decide ((20 : Int) < (s.size : Int)) = true := by simp; omega
      go_enter Try.func38, Try.ntmps38
      go_wp2_with fail
      go_ret
      exact ⟨ret_bool hH.out.symm, rfl⟩
  · have hH := Lib.hid (show r = false from by rw [HB.out]; simp [h1])
    have z1 : decide ((s.size : Int) < 1) = true := by simp; omega
    go_enter Try.func38, Try.ntmps38
    go_wp2_with fail
    go_ret
    exact ⟨ret_bool hH.out.symm, rfl⟩

theorem p_mayQuota (q : Int) (w : World) : Calls Try.prog 27 #[.int .i64 q] w fun e w' => e = .returned (.bool (decide (0 ≤ q ∧ q ≤ 16777216))) ∧ w = w' := by
  have HN := Lib.hid (show decide (0 ≤ q ∧ q ≤ 16777216) = (decide (0 ≤ q) && decide (q ≤ 16777216)) from by simp)
  generalize hr : decide (0 ≤ q ∧ q ≤ 16777216) = r at *
  clear hr
  go_enter Try.func27, Try.ntmps27
  go_wp2_with fail
  all_goals
    go_ret
    exact ⟨ret_bool (by rw [HN.out, Bool.eq_iff_iff]; (try simp); (try omega)), rfl⟩

theorem p_nothing (w : World) : Calls Try.prog 41 #[] w fun e w' => e = .returned (.tuple #[]) ∧ w = w' := by
  go_enter Try.func41, Try.ntmps41
  go_wp2_with fail
  go_end0
  exact ⟨rfl, rfl⟩

/-- New: where the quota may not be. -/
theorem p_new_bad (w : World) (q : Int) (h : ¬ (0 ≤ q ∧ q ≤ 16777216)) : Calls Try.prog 10 #[.int .i64 q] w fun e w' => e = .returned (.pointer none) ∧ w = w' := by
  have hd := Lib.hid (show decide (0 ≤ q ∧ q ≤ 16777216) = false from decide_eq_false h)
  clear h
  go_enter Try.func10, Try.ntmps10
  go_wp2_with (go_at_call 27; refine (p_mayQuota q _).mono ?_; rintro e w' ⟨rfl, rfl⟩; rw [hd.out])
  go_ret
  exact ⟨rfl, rfl⟩
theorem p_new (w : World) (q : Int) (S : Nat → Prop) (h : 0 ≤ q ∧ q ≤ 16777216) (hS : ∀ i, w.heap.size ≤ i → S i) :
    Calls Try.prog 10 #[.int .i64 q] w fun e w' => ∃ g, e = .returned (.pointer (some ⟨g, 0, none⟩)) ∧ w.heap.size ≤ g ∧ RdM w' S g (.pointer (some ⟨g, 0, none⟩)) ⟨[], q, -1, false⟩ ∧ Below w.heap.size w w' := by
  have hd := Lib.hid (show decide (0 ≤ q ∧ q ≤ 16777216) = true from decide_eq_true h)
  clear h
  have hmm := @run_makeMap Try.prog
  go_enter Try.func10, Try.ntmps10
  go_wp2_with (go_at_call 27; refine (p_mayQuota q _).mono ?_; rintro e w' ⟨rfl, rfl⟩; rw [hd.out])
  go_ret
  refine ⟨w.heap.size + 1, rfl, by omega, ⟨rfl, w.heap.size, fun _ => 0, fun _ => .slice none 0 0, ⟨hS _ (by omega), ⟨-1, Box.new _ _ _ _ (by simp), by omega, by omega, fun _ => .inl rfl⟩, ?_⟩⟩, ((Below.refl _ _).alloc (Nat.le_refl _) _).alloc (by simp) _⟩
  exact (⟨hS _ (Nat.le_refl _), ⟨.map [], World.ownsMap_made w Try.prog 9 ptrE, ⟨fun k => ⟨(fun e => by cases e), (fun ⟨f, hf, _⟩ => by cases hf)⟩, (fun f hf => by cases hf), rfl⟩⟩, (fun f hf => by cases hf), (fun f hf => by cases hf), List.Pairwise.nil, (fun f hf => by cases hf)⟩ : FilesR (w.alloc (.map #[] 0)) S [] w.heap.size _ _).on (alloc_below _ _)
end Go.Proofs.Ytbdaflhmloodfaa
