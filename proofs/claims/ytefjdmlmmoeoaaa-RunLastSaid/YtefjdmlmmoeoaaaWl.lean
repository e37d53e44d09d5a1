/- Layer 9: Of and Range, by the project. -/
import Derived.Test.YtefjdmlmmoeoaaaWk
import Derived.Test.YtefjdmlmmoeoaaaWm
namespace Go.Proofs.Ytefjdmlmmoeoaaa
open Go.RowKit Go.Shelf
set_option linter.unusedVariables false

theorem boxed_kept {W W' : World} (h : CKept W W') {s : Nat} {t : TypeId} {v : Value} (hb : Boxed W s t v) (ht : T9 t = false) : Boxed W' s t v := h _ _ _ _ hb ht

set_option maxRecDepth 100000 in
set_option maxHeartbeats 2000000 in
theorem run_of (p : Value) (l : List Ver) (base : Nat) (key : ByteArray) (w : World) (hp : RunAt w base p l) (hok : okTo l l.length = true) (hl : l.length ≤ 20000) :
    Calls Try.prog 19 #[p, .string key] w fun e w' => ∃ v', e = .returned v' ∧ OwnVr w' w.heap.size v' (l.filter fun v => decide (v.key = key)) ∧ Below w.heap.size w w' := by
  have RP := Lib.hid hp
  have HM := Lib.hid (fun ls (h : Told9 l key key ls) => told_filter hok (fun v => decide (v.key = key)) key key (fun v hv => by
    rw [decide_eq_true_iff] at hv
    rw [hv, kcmp_self]; exact ⟨Int.le_refl _, Int.le_refl _⟩) h)
  obtain ⟨nr, vb, rfl, -⟩ := hp
  have hm8 : 8 * many8 l ≤ 1000000 := by unfold many8; omega
  have B0 := Lib.hid (Boxed.new w 9 (.string key))
  have hB := alloc_below w (.cells #[.string key] 9)
  have c0 := B0.out.cell
  go_enter Try.func19, Try.ntmps19
  go_wp2_with fail
  have hs1 : (w.alloc (.cells #[.string key] 9)).heap.size = w.heap.size + 1 := by simp
  generalize w.alloc (.cells #[.string key] 9) = W1 at *
  refine (run_those _ nr rfl key key (.func 44) #[.pointer (some ⟨w.heap.size, 0, none⟩)] W1).mono ?_
  rintro z W2 ⟨rfl, hw2⟩
  have m1 := Boxed.new W1 28 (.pointer (some ⟨nr, 0, none⟩))
  have m2 := Boxed.new (W1.alloc (.cells #[.pointer (some ⟨nr, 0, none⟩)] 28)) 9 (.string key)
  have m3 := Boxed.new ((W1.alloc (.cells #[.pointer (some ⟨nr, 0, none⟩)] 28)).alloc (.cells #[.string key] 9)) 9 (.string key)
  have m4 := Boxed.new (((W1.alloc (.cells #[.pointer (some ⟨nr, 0, none⟩)] 28)).alloc (.cells #[.string key] 9)).alloc (.cells #[.string key] 9)) 74 (.func (.func 44) #[] #[.pointer (some ⟨w.heap.size, 0, none⟩)])
  have m1 := ((m1.alloc (.cells #[.string key] 9)).alloc (.cells #[.string key] 9)).alloc (.cells #[.func (.func 44) #[] #[.pointer (some ⟨w.heap.size, 0, none⟩)]] 74)
  have m2 := (m2.alloc (.cells #[.string key] 9)).alloc (.cells #[.func (.func 44) #[] #[.pointer (some ⟨w.heap.size, 0, none⟩)]] 74)
  have m3 := m3.alloc (.cells #[.func (.func 44) #[] #[.pointer (some ⟨w.heap.size, 0, none⟩)]] 74)
  simp only [World.size_alloc, hs1] at m1 m2 m3 m4
  have hB2 : Below W1.heap.size W1 W2 := by
    rw [hw2]; exact ((((Below.refl _ W1).alloc (Nat.le_refl _) _).alloc (by simp) _).alloc (by simp; omega) _).alloc (by simp; omega) _
  rw [← hw2] at m1 m2 m3 m4
  have G2 := hB.trans (hB2.mono (by omega))
  have TL := Lib.hid (those_tells w W2 base _ l key key _ _ _ _ 44 _ _ _ (enters_of Try.func44 (by kernel_rfl) rfl) (asks_of key w.heap.size (by decide)) (fun W W' h hk => boxed_kept hk h (by decide)) ((hB2.block _ B0.out.lt).trans B0.out) G2 RP.out hl m1 m2 m3 m4)
  have GG := Lib.hid G2
  clear hw2 m1 m2 m3 m4 hB2 G2 hB
  go_wp2_with fail
  refine (run_collect _ _ (enters_of Try.func67 (by kernel_rfl) rfl) w.heap.size _ _ _ W2 GG.out.size hm8 TL.out).mono ?_
  rintro z W3 ⟨v3, xs, rfl, ⟨ls, hls, rfl⟩, ho3, hb3⟩
  rw [HM.out ls hls] at ho3
  go_wp2_with fail
  go_ret
  exact ⟨v3, rfl, OwnX.mono ho3 GG.out.size, GG.out.trans (hb3.mono GG.out.size)⟩
set_option maxRecDepth 100000 in
set_option maxHeartbeats 2000000 in
theorem run_range (p : Value) (l : List Ver) (base : Nat) (fr tt : ByteArray) (w : World) (hp : RunAt w base p l) (hok : okTo l l.length = true) (hl : l.length ≤ 20000) :
    Calls Try.prog 21 #[p, .string fr, .string tt] w fun e w' => ∃ v', e = .returned v' ∧ OwnVr w' w.heap.size v' (l.filter fun v => !Op.bytesLess v.key.toList fr.toList && Op.bytesLess v.key.toList tt.toList) ∧ Below w.heap.size w w' := by
  have RP := Lib.hid hp
  have HM := Lib.hid (fun ls (h : Told9 l fr tt ls) => told_filter hok (fun v => !Op.bytesLess v.key.toList fr.toList && Op.bytesLess v.key.toList tt.toList) fr tt (fun v hv => by
    simp only [Bool.and_eq_true, Bool.not_eq_true'] at hv
    have h1 := (cmpStr_neg v.key.toList tt.toList).2 hv.2
    have h2 : ¬ Ord.cmpStr v.key.toList fr.toList < 0 := fun h => by rw [(cmpStr_neg _ _).1 h] at hv; cases hv.1
    have h3 := kcmp_anti fr v.key
    unfold kcmp at h3 ⊢
    omega) h)
  obtain ⟨nr, vb, rfl, -⟩ := hp
  have hm8 : 8 * many8 l ≤ 1000000 := by unfold many8; omega
  have B0 := Lib.hid ((Boxed.new w 9 (.string fr)).alloc (.cells #[.string tt] 9))
  have B1 := Boxed.new (w.alloc (.cells #[.string fr] 9)) 9 (.string tt)
  rw [World.size_alloc] at B1
  have B1 := Lib.hid B1
  have hB : Below w.heap.size w ((w.alloc (.cells #[.string fr] 9)).alloc (.cells #[.string tt] 9)) := ((Below.refl _ w).alloc (Nat.le_refl _) _).alloc (by simp) _
  have c0 := B0.out.cell
  have c1 := B1.out.cell
  go_enter Try.func21, Try.ntmps21
  go_wp2_with fail
  have hs1 : ((w.alloc (.cells #[.string fr] 9)).alloc (.cells #[.string tt] 9)).heap.size = w.heap.size + 2 := by simp
  generalize (w.alloc (.cells #[.string fr] 9)).alloc (.cells #[.string tt] 9) = W1 at *
  refine (run_those _ nr rfl fr tt (.func 45) #[.pointer (some ⟨w.heap.size, 0, none⟩), .pointer (some ⟨w.heap.size + 1, 0, none⟩)] W1).mono ?_
  rintro z W2 ⟨rfl, hw2⟩
  have m1 := Boxed.new W1 28 (.pointer (some ⟨nr, 0, none⟩))
  have m2 := Boxed.new (W1.alloc (.cells #[.pointer (some ⟨nr, 0, none⟩)] 28)) 9 (.string fr)
  have m3 := Boxed.new ((W1.alloc (.cells #[.pointer (some ⟨nr, 0, none⟩)] 28)).alloc (.cells #[.string fr] 9)) 9 (.string tt)
  have m4 := Boxed.new (((W1.alloc (.cells #[.pointer (some ⟨nr, 0, none⟩)] 28)).alloc (.cells #[.string fr] 9)).alloc (.cells #[.string tt] 9)) 74 (.func (.func 45) #[] #[.pointer (some ⟨w.heap.size, 0, none⟩), .pointer (some ⟨w.heap.size + 1, 0, none⟩)])
  have m1 := ((m1.alloc (.cells #[.string fr] 9)).alloc (.cells #[.string tt] 9)).alloc (.cells #[.func (.func 45) #[] #[.pointer (some ⟨w.heap.size, 0, none⟩), .pointer (some ⟨w.heap.size + 1, 0, none⟩)]] 74)
  have m2 := (m2.alloc (.cells #[.string tt] 9)).alloc (.cells #[.func (.func 45) #[] #[.pointer (some ⟨w.heap.size, 0, none⟩), .pointer (some ⟨w.heap.size + 1, 0, none⟩)]] 74)
  have m3 := m3.alloc (.cells #[.func (.func 45) #[] #[.pointer (some ⟨w.heap.size, 0, none⟩), .pointer (some ⟨w.heap.size + 1, 0, none⟩)]] 74)
  simp only [World.size_alloc, hs1] at m1 m2 m3 m4
  have hB2 : Below W1.heap.size W1 W2 := by
    rw [hw2]; exact ((((Below.refl _ W1).alloc (Nat.le_refl _) _).alloc (by simp) _).alloc (by simp; omega) _).alloc (by simp; omega) _
  rw [← hw2] at m1 m2 m3 m4
  have G2 := hB.trans (hB2.mono (by omega))
  have TL := Lib.hid (those_tells w W2 base _ l fr tt _ _ _ _ 45 _ _ _ (enters_of Try.func45 (by kernel_rfl) rfl) (asks_range fr tt w.heap.size (w.heap.size + 1)) (fun W W' h hk => ⟨boxed_kept hk h.1 (by decide), boxed_kept hk h.2 (by decide)⟩) ⟨(hB2.block _ B0.out.lt).trans B0.out, (hB2.block _ B1.out.lt).trans B1.out⟩ G2 RP.out hl m1 m2 m3 m4)
  have GG := Lib.hid G2
  clear hw2 m1 m2 m3 m4 hB2 G2 hB
  go_wp2_with fail
  refine (run_collect _ _ (enters_of Try.func67 (by kernel_rfl) rfl) w.heap.size _ _ _ W2 GG.out.size hm8 TL.out).mono ?_
  rintro z W3 ⟨v3, xs, rfl, ⟨ls, hls, rfl⟩, ho3, hb3⟩
  rw [HM.out ls hls] at ho3
  go_wp2_with fail
  go_ret
  exact ⟨v3, rfl, OwnX.mono ho3 GG.out.size, GG.out.trans (hb3.mono GG.out.size)⟩
end Go.Proofs.Ytefjdmlmmoeoaaa
