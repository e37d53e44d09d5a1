/- Layer 9: what is found in a run, by the project: Of, Range, Last. -/
import Derived.Test.YtefjdmlmmoeoaaaWj
namespace Go.Proofs.Ytefjdmlmmoeoaaa
open Go.RowKit Go.Shelf
set_option linter.unusedVariables false
attribute [local go_sem] Oper.semAt_some

theorem run_collect (g : Nat) (lb : Array Value) (eg : ∀ args w, (callFunc g args).run Try.prog w = .ok (.enter g args) w) (n₀ N : Nat) (S Sp : List Ver → Prop) (w : World) (hn : n₀ ≤ w.heap.size) (hN : N ≤ 1000000)
    (hT : Tells9 Try.prog False T9 n₀ g lb (fun v : Ver => #[verV v]) S Sp N w) :
    Calls Try.prog 42 #[.func (.func g) #[] lb] w fun e w' => ∃ v' xs, e = .returned v' ∧ S xs ∧ OwnVr w' w.heap.size v' xs ∧ Below w.heap.size w w' := by
  have AP := Lib.hid (run_appendSeq g lb eg n₀ N S Sp w hn hN hT)
  go_enter Try.func42, Try.ntmps42
  go_wp2_with fail
  refine AP.out.mono ?_
  rintro z w1 ⟨v1, xs, rfl, hs, ho, hb⟩
  go_wp2_with fail
  go_ret
  exact ⟨v1, xs, rfl, hs, ho, hb⟩

/-- The closures. -/
theorem asks_of (key : ByteArray) (s : Nat) (ht : T9 9 = false) : Asks 44 #[.pointer (some ⟨s, 0, none⟩)] (fun v => decide (v.key = key)) (fun W => Boxed W s 9 (.string key)) := by
  intro v W hA
  obtain ⟨kk, bb, ee, ss, ⟨xx, yy⟩, uu, gg⟩ := v
  have c0 := (hA.alloc (.cells #[.string kk, .int .i64 bb, .int .i64 ee, .int .i64 ss, .int .i64 xx, .int .i64 yy, .string uu, .bool gg] 42)).cell
  have hq : (kk.toList == key.toList) = decide (kk = key) := by
    rw [Bool.eq_iff_iff, beq_iff_eq, decide_eq_true_iff]; exact bytes_listR kk key
  have HQ := Lib.hid hq
  simp only
  clear hA hq
  unfold verV
  show Calls Try.prog 44 #[.agg #[.string kk, .int .i64 bb, .int .i64 ee, .int .i64 ss, .int .i64 xx, .int .i64 yy, .string uu, .bool gg], .pointer (some ⟨s, 0, none⟩)] W _
  go_enter Try.func44, Try.ntmps44
  go_wp2_with fail
  go_ret
  exact ⟨ret_bool HQ.out, alloc_below W _⟩

theorem asks_range (fr tt : ByteArray) (s1 s2 : Nat) : Asks 45 #[.pointer (some ⟨s1, 0, none⟩), .pointer (some ⟨s2, 0, none⟩)] (fun v => !Op.bytesLess v.key.toList fr.toList && Op.bytesLess v.key.toList tt.toList) (fun W => Boxed W s1 9 (.string fr) ∧ Boxed W s2 9 (.string tt)) := by
  intro v W hA
  obtain ⟨kk, bb, ee, ss, ⟨xx, yy⟩, uu, gg⟩ := v
  have c0 := (hA.1.alloc (.cells #[.string kk, .int .i64 bb, .int .i64 ee, .int .i64 ss, .int .i64 xx, .int .i64 yy, .string uu, .bool gg] 42)).cell
  have c1 := (hA.2.alloc (.cells #[.string kk, .int .i64 bb, .int .i64 ee, .int .i64 ss, .int .i64 xx, .int .i64 yy, .string uu, .bool gg] 42)).cell
  simp only
  clear hA
  unfold verV
  show Calls Try.prog 45 #[.agg #[.string kk, .int .i64 bb, .int .i64 ee, .int .i64 ss, .int .i64 xx, .int .i64 yy, .string uu, .bool gg], .pointer (some ⟨s1, 0, none⟩), .pointer (some ⟨s2, 0, none⟩)] W _
  have hle : (Op.bytesLess fr.toList kk.toList || fr.toList == kk.toList) = !Op.bytesLess kk.toList fr.toList := by
    rcases str_three kk.toList fr.toList with ⟨h, -⟩ | ⟨h, -⟩ | ⟨h, -⟩
    · have h2 := Ord.less_asymm _ _ h
      have h3 : (fr.toList == kk.toList) = false := by rw [beq_eq_false_iff_ne]; intro e; rw [e, Ord.less_irrefl] at h; cases h
      rw [h, h2, h3]; rfl
    · rw [h, Ord.less_irrefl]; simp
    · rw [h, Ord.less_asymm _ _ h]; rfl
  have HLE := Lib.hid hle
  clear hle
  go_enter Try.func45, Try.ntmps45
  cases h1 : (Op.bytesLess fr.toList kk.toList || fr.toList == kk.toList)
  · rw [h1] at HLE
    go_wp2_with fail
    go_ret
    exact ⟨ret_bool (by rw [← HLE.out]; rfl), alloc_below W _⟩
  · rw [h1] at HLE
    go_wp2_with fail
    go_ret
    exact ⟨ret_bool (by rw [← HLE.out]; rfl), alloc_below W _⟩

theorem asks_last (key : ByteArray) (br ep : Int) (s1 s2 s3 : Nat) : Asks 46 #[.pointer (some ⟨s1, 0, none⟩), .pointer (some ⟨s2, 0, none⟩), .pointer (some ⟨s3, 0, none⟩)] (fun v => decide (v.key = key) && decide (v.b = br) && decide (v.e ≤ ep))
    (fun W => Boxed W s1 9 (.string key) ∧ Boxed W s2 3 (.int .i64 br) ∧ Boxed W s3 3 (.int .i64 ep)) := by
  intro v W hA
  obtain ⟨kk, bb, ee, ss, ⟨xx, yy⟩, uu, gg⟩ := v
  have c0 := (hA.1.alloc (.cells #[.string kk, .int .i64 bb, .int .i64 ee, .int .i64 ss, .int .i64 xx, .int .i64 yy, .string uu, .bool gg] 42)).cell
  have c1 := (hA.2.1.alloc (.cells #[.string kk, .int .i64 bb, .int .i64 ee, .int .i64 ss, .int .i64 xx, .int .i64 yy, .string uu, .bool gg] 42)).cell
  have c2 := (hA.2.2.alloc (.cells #[.string kk, .int .i64 bb, .int .i64 ee, .int .i64 ss, .int .i64 xx, .int .i64 yy, .string uu, .bool gg] 42)).cell
  have hq : (kk.toList == key.toList) = decide (kk = key) := by
    rw [Bool.eq_iff_iff, beq_iff_eq, decide_eq_true_iff]; exact bytes_listR kk key
  have hb : (bb == br) = decide (bb = br) := by rw [Bool.eq_iff_iff]; simp
  have HQ := Lib.hid hq
  have HB := Lib.hid hb
  simp only
  clear hA hq hb
  unfold verV
  show Calls Try.prog 46 #[.agg #[.string kk, .int .i64 bb, .int .i64 ee, .int .i64 ss, .int .i64 xx, .int .i64 yy, .string uu, .bool gg], .pointer (some ⟨s1, 0, none⟩), .pointer (some ⟨s2, 0, none⟩), .pointer (some ⟨s3, 0, none⟩)] W _
  go_enter Try.func46, Try.ntmps46
  cases h1 : (kk.toList == key.toList)
  · rw [h1] at HQ
    go_wp2_with fail
    go_ret
    exact ⟨ret_bool (by rw [← HQ.out]; rfl), alloc_below W _⟩
  · rw [h1] at HQ
    cases h2 : (bb == br)
    · rw [h2] at HB
      go_wp2_with fail
      go_ret
      exact ⟨ret_bool (by rw [← HQ.out, ← HB.out]; rfl), alloc_below W _⟩
    · rw [h2] at HB
      go_wp2_with fail
      go_ret
      exact ⟨ret_bool (by rw [← HQ.out, ← HB.out]; rfl), alloc_below W _⟩
end Go.Proofs.Ytefjdmlmmoeoaaa
