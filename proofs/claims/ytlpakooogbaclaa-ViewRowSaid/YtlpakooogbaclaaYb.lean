/- Layer 14: the first number that is not 0 (cmp.Or); the closure by which the project sorts. -/
import Derived.Test.YtlpakooogbaclaaYa
import Derived.Test.YtlpakooogbaclaaGw
namespace Go.Proofs.Ytlpakooogbaclaa
open Go.RowKit
set_option linter.unusedVariables false

set_option maxHeartbeats 1000000 in
theorem p_or (va : Value) (l : List Int) (w : World) (ha : RdI w w.heap.size va l) (hl : l.length ≤ 1000000) :
    Calls Try.prog 33 #[va] w fun e w' => e = .returned (.int .i64 (firstN l)) ∧ Below w.heap.size w w' := by
  obtain ⟨A, c, rfl, hla, hc, hcell⟩ := ha
  go_enter Try.func33, Try.ntmps33
  go_wp2_with fail
  go_loopw [8] (fun i wr => ∃ k : Nat, i = .int .i64 k ∧ k ≤ l.length ∧ firstN l = firstN (l.drop k) ∧ Below w.heap.size w wr) (fun i _ => l.length - (intOf i).toNat)
  case atStart => exact ⟨0, rfl, Nat.zero_le _, rfl, Below.refl _ _⟩
  case round =>
    obtain ⟨k, rfl, hk, hf, hb⟩ := hrel
    have HF := Lib.hid hf
    have G := Lib.hid hb
    clear hf hb
    by_cases hlt : k < l.length
    · obtain ⟨b, o, rfl, hbb, hcl⟩ := hcell (by omega)
      have c1 : wr.cell? ⟨b, o + k, none⟩ = some (.int .i64 l[k]) := (G.out.cell (p := ⟨b, o + k, none⟩) hbb).trans (hcl k l[k] (List.getElem?_eq_getElem hlt))
      have HS := Lib.hid (show firstN (l.drop k) = lex l[k] (firstN (l.drop (k + 1))) from by rw [List.drop_eq_getElem_cons hlt]; rfl)
      clear hcl hcell
      generalize l[k] = x at *
      by_cases hx : x = 0
      · subst hx
        have HZ := Lib.hid (show firstN l = firstN (l.drop (k + 1)) from by rw [HF.out, HS.out]; rfl)
        go_wp2_with fail
        go_roundw
        case rel => exact ⟨k + 1, by go_num, by omega, HZ.out, G.out⟩
        case measure => simp [intOf]; omega
      · have hne : (x != 0) = true := by simpa [bne] using hx
        have HZ := Lib.hid (show firstN l = x from by rw [HF.out, HS.out]; exact if_pos hx)
        go_wp2_with fail
        go_ret
        exact ⟨ret_i HZ.out.symm, G.out⟩
    · have HZ := Lib.hid (show firstN l = 0 from by rw [HF.out, List.drop_of_length_le (by omega)]; rfl)
      go_wp2_with fail
      go_ret
      exact ⟨ret_i HZ.out.symm, G.out⟩

def cmpP (p : List (Int × Int)) (a b : Ver) : Int := firstN [Ord.cmpInt (legV p b) (legV p a), Ord.cmpInt a.e b.e, Ord.cmpInt a.s b.s, Ord.cmpInt a.sp.1 b.sp.1]
theorem cmp_neg (x y : Int) : Ord.cmpInt x y < 0 ↔ x < y := by unfold Ord.cmpInt; split <;> (try split) <;> omega
theorem cmp_zero (x y : Int) : Ord.cmpInt x y = 0 ↔ x = y := by unfold Ord.cmpInt; split <;> (try split) <;> omega
theorem lex_neg (x y : Int) : lex x y < 0 ↔ (x < 0 ∨ x = 0 ∧ y < 0) := by unfold lex; split <;> omega
theorem ltC_cmp (p : List (Int × Int)) : ltC (cmpP p) = ltP p := by
  funext a b
  have hf : ∀ a b c d : Int, firstN [a, b, c, d] = lex a (lex b (lex c (lex d 0))) := fun _ _ _ _ => rfl
  have h1 := ltS_iff a b
  unfold ltC cmpP ltP
  rw [hf, h1]
  simp only [lex_neg, cmp_neg, cmp_zero]
  by_cases h : legV p a = legV p b
  · rw [if_neg (fun k => k h), decide_eq_decide]; rw [h]; omega
  · rw [if_pos h, decide_eq_decide]; omega

/-- The path, as the closure has it. -/
def PathW (pb B : Nat) (va : Value) (p : List (Int × Int)) (W : World) : Prop := Box W pb #[va] 23 ∧ RdX lgL W B va p ∧ B ≤ W.heap.size
set_option maxHeartbeats 4000000 in
set_option maxRecDepth 100000 in
theorem asks_order (pb B : Nat) (va : Value) (p : List (Int × Int)) (hl : p.length ≤ 1000) : AsksC 32 #[.pointer (some ⟨pb, 0, none⟩)] (cmpP p) (PathW pb B va p) := by
  intro a b W hA
  obtain ⟨h1, h2, h3⟩ := hA
  have HC := Lib.hid (show cmpP p a b = firstN [Ord.cmpInt (legV p b) (legV p a), Ord.cmpInt a.e b.e, Ord.cmpInt a.s b.s, Ord.cmpInt a.sp.1 b.sp.1] from rfl)
  have K1 := Lib.hid (fun w => Ord.cmp_int (legV p b) (legV p a) w)
  have K2 := Lib.hid (fun w => Ord.cmp_int a.e b.e w)
  have K3 := Lib.hid (fun w => Ord.cmp_int a.s b.s w)
  have K4 := Lib.hid (fun w => Ord.cmp_int a.sp.1 b.sp.1 w)
  have L1 := Lib.hid (show legI p a.b a.e = legV p a from rfl)
  have L2 := Lib.hid (show legI p b.b b.e = legV p b from rfl)
  have LG := Lib.hid (fun W' (h : Below W.heap.size W W') b e q => p_legOf va p b e q W' B (h2.below (h.mono h3)) (Nat.le_trans h3 h.size) hl)
  generalize cmpP p a b = res at *
  generalize legV p a = l1 at *
  generalize legV p b = l2 at *
  generalize Ord.cmpInt l2 l1 = q1 at *
  generalize Ord.cmpInt a.e b.e = q2 at *
  generalize Ord.cmpInt a.s b.s = q3 at *
  generalize Ord.cmpInt a.sp.1 b.sp.1 = q4 at *
  obtain ⟨k1, b1, e1, s1, ⟨x1, y1⟩, u1, g1⟩ := a
  obtain ⟨k2, b2, e2, s2, ⟨x2, y2⟩, u2, g2⟩ := b
  unfold verV
  simp only at *
  rw [show (#[.agg #[.string k1, .int .i64 b1, .int .i64 e1, .int .i64 s1, .int .i64 x1, .int .i64 y1, .string u1, .bool g1], .agg #[.string k2, .int .i64 b2, .int .i64 e2, .int .i64 s2, .int .i64 x2, .int .i64 y2, .string u2, .bool g2]] ++ #[.pointer (some ⟨pb, 0, none⟩)] : Array Value) = #[.agg #[.string k1, .int .i64 b1, .int .i64 e1, .int .i64 s1, .int .i64 x1, .int .i64 y1, .string u1, .bool g1], .agg #[.string k2, .int .i64 b2, .int .i64 e2, .int .i64 s2, .int .i64 x2, .int .i64 y2, .string u2, .bool g2], .pointer (some ⟨pb, 0, none⟩)] from rfl]
  have BP := Lib.hid (h1.later ((alloc_below W (.cells #[.string k1, .int .i64 b1, .int .i64 e1, .int .i64 s1, .int .i64 x1, .int .i64 y1, .string u1, .bool g1] 50)).alloc (by simp) (.cells #[.string k2, .int .i64 b2, .int .i64 e2, .int .i64 s2, .int .i64 x2, .int .i64 y2, .string u2, .bool g2] 50)))
  have B1 := Lib.hid (Box.new W #[.string k1, .int .i64 b1, .int .i64 e1, .int .i64 s1, .int .i64 x1, .int .i64 y1, .string u1, .bool g1] 50 _ rfl)
  have B1 := Lib.hid (B1.out.alloc (.cells #[.string k2, .int .i64 b2, .int .i64 e2, .int .i64 s2, .int .i64 x2, .int .i64 y2, .string u2, .bool g2] 50))
  have B2 := Lib.hid (Box.new (W.alloc (.cells #[.string k1, .int .i64 b1, .int .i64 e1, .int .i64 s1, .int .i64 x1, .int .i64 y1, .string u1, .bool g1] 50)) #[.string k2, .int .i64 b2, .int .i64 e2, .int .i64 s2, .int .i64 x2, .int .i64 y2, .string u2, .bool g2] 50 _ rfl)
  have G := Lib.hid ((alloc_below W (.cells #[.string k1, .int .i64 b1, .int .i64 e1, .int .i64 s1, .int .i64 x1, .int .i64 y1, .string u1, .bool g1] 50)).trans ((alloc_below (W.alloc (.cells #[.string k1, .int .i64 b1, .int .i64 e1, .int .i64 s1, .int .i64 x1, .int .i64 y1, .string u1, .bool g1] 50)) (.cells #[.string k2, .int .i64 b2, .int .i64 e2, .int .i64 s2, .int .i64 x2, .int .i64 y2, .string u2, .bool g2] 50)).mono (by simp)))
  have hs1 : (W.alloc (.cells #[.string k1, .int .i64 b1, .int .i64 e1, .int .i64 s1, .int .i64 x1, .int .i64 y1, .string u1, .bool g1] 50)).heap.size = W.heap.size + 1 := by simp
  rw [hs1] at B2
  clear hs1 h1 h2
  go_enter Try.func32, Try.ntmps32
  go_wp2_with fail
  generalize (W.alloc (.cells #[.string k1, .int .i64 b1, .int .i64 e1, .int .i64 s1, .int .i64 x1, .int .i64 y1, .string u1, .bool g1] 50)).alloc (.cells #[.string k2, .int .i64 b2, .int .i64 e2, .int .i64 s2, .int .i64 x2, .int .i64 y2, .string u2, .bool g2] 50) = w0 at *
  have BP := Lib.hid (show Box w0.drew pb #[va] 23 from BP.out)
  have B1 := Lib.hid (show Box w0.drew W.heap.size #[.string k1, .int .i64 b1, .int .i64 e1, .int .i64 s1, .int .i64 x1, .int .i64 y1, .string u1, .bool g1] 50 from B1.out)
  have B2 := Lib.hid (show Box w0.drew (W.heap.size + 1) #[.string k2, .int .i64 b2, .int .i64 e2, .int .i64 s2, .int .i64 x2, .int .i64 y2, .string u2, .bool g2] 50 from B2.out)
  have GD := Lib.hid G.out.drew
  have LG := Lib.hid (fun W' (h : Below w0.drew.heap.size w0.drew W') b e q => LG.out W' (GD.out.trans (h.mono GD.out.size)) b e q)
  have G0 := Lib.hid (Below.refl w0.drew.heap.size w0.drew)
  refine reg_start (by kernel_rfl) ?_
  refine reg_take2 0 6 (v := ?_) (T' := ?_) (Later.refl _) (by kernel_rfl) (by kernel_rfl) (by kernel_rfl) (fun _ _ _ h => h) (fun o ho => ?_) ?_ ?_
  rotate_left 2
  · cases ho
    refine ⟨rfl, rfl, fun W hW => ?_⟩
    have c := (BP.out.later hW).cell 0 _ rfl
    go_simp; (try with_reducible rfl)
  · simp only [List.setIfInBounds_toArray, List.set_cons_succ, List.set_cons_zero]; exact rfl
  refine reg_take2 1 7 (v := ?_) (T' := ?_) (Later.refl _) (by kernel_rfl) (by kernel_rfl) (by kernel_rfl) (fun _ _ _ h => h) (fun o ho => ?_) ?_ ?_
  rotate_left 2
  · cases ho
    refine ⟨rfl, rfl, fun W hW => ?_⟩
    go_simp; (try with_reducible rfl)
  · simp only [List.setIfInBounds_toArray, List.set_cons_succ, List.set_cons_zero]; exact rfl
  refine reg_take2 2 8 (v := ?_) (T' := ?_) (Later.refl _) (by kernel_rfl) (by kernel_rfl) (by kernel_rfl) (fun _ _ _ h => h) (fun o ho => ?_) ?_ ?_
  rotate_left 2
  · cases ho
    refine ⟨rfl, rfl, fun W hW => ?_⟩
    have BW := B2.out.later hW
    have c1 := BW.cell 1 (.int .i64 b2) rfl
    have c2 := BW.cell 2 (.int .i64 e2) rfl
    have c3 := BW.cell 3 (.int .i64 s2) rfl
    go_simp; (try with_reducible rfl)
  · simp only [List.setIfInBounds_toArray, List.set_cons_succ, List.set_cons_zero]; exact rfl
  refine reg_take2 4 10 (v := ?_) (T' := ?_) (Later.refl _) (by kernel_rfl) (by kernel_rfl) (by kernel_rfl) (fun _ _ _ h => h) (fun o ho => ?_) ?_ ?_
  rotate_left 2
  · cases ho
    refine ⟨rfl, rfl, fun W hW => ?_⟩
    have c := (BP.out.later hW).cell 0 _ rfl
    go_simp; (try with_reducible rfl)
  · simp only [List.setIfInBounds_toArray, List.set_cons_succ, List.set_cons_zero]; exact rfl
  refine reg_take2 5 11 (v := ?_) (T' := ?_) (Later.refl _) (by kernel_rfl) (by kernel_rfl) (by kernel_rfl) (fun _ _ _ h => h) (fun o ho => ?_) ?_ ?_
  rotate_left 2
  · cases ho
    refine ⟨rfl, rfl, fun W hW => ?_⟩
    go_simp; (try with_reducible rfl)
  · simp only [List.setIfInBounds_toArray, List.set_cons_succ, List.set_cons_zero]; exact rfl
  refine reg_take2 6 12 (v := ?_) (T' := ?_) (Later.refl _) (by kernel_rfl) (by kernel_rfl) (by kernel_rfl) (fun _ _ _ h => h) (fun o ho => ?_) ?_ ?_
  rotate_left 2
  · cases ho
    refine ⟨rfl, rfl, fun W hW => ?_⟩
    have BW := B1.out.later hW
    have c1 := BW.cell 1 (.int .i64 b1) rfl
    have c2 := BW.cell 2 (.int .i64 e1) rfl
    have c3 := BW.cell 3 (.int .i64 s1) rfl
    go_simp; (try with_reducible rfl)
  · simp only [List.setIfInBounds_toArray, List.set_cons_succ, List.set_cons_zero]; exact rfl
  refine reg_take2 9 15 (v := ?_) (T' := ?_) (Later.refl _) (by kernel_rfl) (by kernel_rfl) (by kernel_rfl) (fun _ _ _ h => h) (fun o ho => ?_) ?_ ?_
  rotate_left 2
  · cases ho
    refine ⟨rfl, rfl, fun W hW => ?_⟩
    go_simp; (try with_reducible rfl)
  · simp only [List.setIfInBounds_toArray, List.set_cons_succ, List.set_cons_zero]; exact rfl
  refine reg_take2 10 16 (v := ?_) (T' := ?_) (Later.refl _) (by kernel_rfl) (by kernel_rfl) (by kernel_rfl) (fun _ _ _ h => h) (fun o ho => ?_) ?_ ?_
  rotate_left 2
  · cases ho
    refine ⟨rfl, rfl, fun W hW => ?_⟩
    go_simp; (try with_reducible rfl)
  · simp only [List.setIfInBounds_toArray, List.set_cons_succ, List.set_cons_zero]; exact rfl
  refine reg_take2 11 17 (v := ?_) (T' := ?_) (Later.refl _) (by kernel_rfl) (by kernel_rfl) (by kernel_rfl) (fun _ _ _ h => h) (fun o ho => ?_) ?_ ?_
  rotate_left 2
  · cases ho
    refine ⟨rfl, rfl, fun W hW => ?_⟩
    have BW := B1.out.later hW
    have c2 := BW.cell 2 (.int .i64 e1) rfl
    go_simp; (try with_reducible rfl)
  · simp only [List.setIfInBounds_toArray, List.set_cons_succ, List.set_cons_zero]; exact rfl
  refine reg_take2 12 18 (v := ?_) (T' := ?_) (Later.refl _) (by kernel_rfl) (by kernel_rfl) (by kernel_rfl) (fun _ _ _ h => h) (fun o ho => ?_) ?_ ?_
  rotate_left 2
  · cases ho
    refine ⟨rfl, rfl, fun W hW => ?_⟩
    go_simp; (try with_reducible rfl)
  · simp only [List.setIfInBounds_toArray, List.set_cons_succ, List.set_cons_zero]; exact rfl
  refine reg_take2 13 19 (v := ?_) (T' := ?_) (Later.refl _) (by kernel_rfl) (by kernel_rfl) (by kernel_rfl) (fun _ _ _ h => h) (fun o ho => ?_) ?_ ?_
  rotate_left 2
  · cases ho
    refine ⟨rfl, rfl, fun W hW => ?_⟩
    go_simp; (try with_reducible rfl)
  · simp only [List.setIfInBounds_toArray, List.set_cons_succ, List.set_cons_zero]; exact rfl
  refine reg_take2 14 20 (v := ?_) (T' := ?_) (Later.refl _) (by kernel_rfl) (by kernel_rfl) (by kernel_rfl) (fun _ _ _ h => h) (fun o ho => ?_) ?_ ?_
  rotate_left 2
  · cases ho
    refine ⟨rfl, rfl, fun W hW => ?_⟩
    have BW := B2.out.later hW
    have c2 := BW.cell 2 (.int .i64 e2) rfl
    go_simp; (try with_reducible rfl)
  · simp only [List.setIfInBounds_toArray, List.set_cons_succ, List.set_cons_zero]; exact rfl
  refine reg_take2 16 22 (v := ?_) (T' := ?_) (Later.refl _) (by kernel_rfl) (by kernel_rfl) (by kernel_rfl) (fun _ _ _ h => h) (fun o ho => ?_) ?_ ?_
  rotate_left 2
  · cases ho
    refine ⟨rfl, rfl, fun W hW => ?_⟩
    go_simp; (try with_reducible rfl)
  · simp only [List.setIfInBounds_toArray, List.set_cons_succ, List.set_cons_zero]; exact rfl
  refine reg_take2 17 23 (v := ?_) (T' := ?_) (Later.refl _) (by kernel_rfl) (by kernel_rfl) (by kernel_rfl) (fun _ _ _ h => h) (fun o ho => ?_) ?_ ?_
  rotate_left 2
  · cases ho
    refine ⟨rfl, rfl, fun W hW => ?_⟩
    go_simp; (try with_reducible rfl)
  · simp only [List.setIfInBounds_toArray, List.set_cons_succ, List.set_cons_zero]; exact rfl
  refine reg_take2 18 24 (v := ?_) (T' := ?_) (Later.refl _) (by kernel_rfl) (by kernel_rfl) (by kernel_rfl) (fun _ _ _ h => h) (fun o ho => ?_) ?_ ?_
  rotate_left 2
  · cases ho
    refine ⟨rfl, rfl, fun W hW => ?_⟩
    have BW := B1.out.later hW
    have c3 := BW.cell 3 (.int .i64 s1) rfl
    go_simp; (try with_reducible rfl)
  · simp only [List.setIfInBounds_toArray, List.set_cons_succ, List.set_cons_zero]; exact rfl
  refine reg_take2 19 25 (v := ?_) (T' := ?_) (Later.refl _) (by kernel_rfl) (by kernel_rfl) (by kernel_rfl) (fun _ _ _ h => h) (fun o ho => ?_) ?_ ?_
  rotate_left 2
  · cases ho
    refine ⟨rfl, rfl, fun W hW => ?_⟩
    go_simp; (try with_reducible rfl)
  · simp only [List.setIfInBounds_toArray, List.set_cons_succ, List.set_cons_zero]; exact rfl
  refine reg_take2 20 26 (v := ?_) (T' := ?_) (Later.refl _) (by kernel_rfl) (by kernel_rfl) (by kernel_rfl) (fun _ _ _ h => h) (fun o ho => ?_) ?_ ?_
  rotate_left 2
  · cases ho
    refine ⟨rfl, rfl, fun W hW => ?_⟩
    go_simp; (try with_reducible rfl)
  · simp only [List.setIfInBounds_toArray, List.set_cons_succ, List.set_cons_zero]; exact rfl
  refine reg_take2 21 27 (v := ?_) (T' := ?_) (Later.refl _) (by kernel_rfl) (by kernel_rfl) (by kernel_rfl) (fun _ _ _ h => h) (fun o ho => ?_) ?_ ?_
  rotate_left 2
  · cases ho
    refine ⟨rfl, rfl, fun W hW => ?_⟩
    have BW := B2.out.later hW
    have c3 := BW.cell 3 (.int .i64 s2) rfl
    go_simp; (try with_reducible rfl)
  · simp only [List.setIfInBounds_toArray, List.set_cons_succ, List.set_cons_zero]; exact rfl
  refine reg_take2 23 29 (v := ?_) (T' := ?_) (Later.refl _) (by kernel_rfl) (by kernel_rfl) (by kernel_rfl) (fun _ _ _ h => h) (fun o ho => ?_) ?_ ?_
  rotate_left 2
  · cases ho
    refine ⟨rfl, rfl, fun W hW => ?_⟩
    go_simp; (try with_reducible rfl)
  · simp only [List.setIfInBounds_toArray, List.set_cons_succ, List.set_cons_zero]; exact rfl
  refine reg_take2 24 30 (v := ?_) (T' := ?_) (Later.refl _) (by kernel_rfl) (by kernel_rfl) (by kernel_rfl) (fun _ _ _ h => h) (fun o ho => ?_) ?_ ?_
  rotate_left 2
  · cases ho
    refine ⟨rfl, rfl, fun W hW => ?_⟩
    go_simp; (try with_reducible rfl)
  · simp only [List.setIfInBounds_toArray, List.set_cons_succ, List.set_cons_zero]; exact rfl
  refine reg_take2 25 31 (v := ?_) (T' := ?_) (Later.refl _) (by kernel_rfl) (by kernel_rfl) (by kernel_rfl) (fun _ _ _ h => h) (fun o ho => ?_) ?_ ?_
  rotate_left 2
  · cases ho
    refine ⟨rfl, rfl, fun W hW => ?_⟩
    have BW := B1.out.later hW
    have c4 := BW.cell 4 (.int .i64 x1) rfl
    go_simp; (try with_reducible rfl)
  · simp only [List.setIfInBounds_toArray, List.set_cons_succ, List.set_cons_zero]; exact rfl
  refine reg_take2 26 32 (v := ?_) (T' := ?_) (Later.refl _) (by kernel_rfl) (by kernel_rfl) (by kernel_rfl) (fun _ _ _ h => h) (fun o ho => ?_) ?_ ?_
  rotate_left 2
  · cases ho
    refine ⟨rfl, rfl, fun W hW => ?_⟩
    go_simp; (try with_reducible rfl)
  · simp only [List.setIfInBounds_toArray, List.set_cons_succ, List.set_cons_zero]; exact rfl
  refine reg_take2 27 33 (v := ?_) (T' := ?_) (Later.refl _) (by kernel_rfl) (by kernel_rfl) (by kernel_rfl) (fun _ _ _ h => h) (fun o ho => ?_) ?_ ?_
  rotate_left 2
  · cases ho
    refine ⟨rfl, rfl, fun W hW => ?_⟩
    go_simp; (try with_reducible rfl)
  · simp only [List.setIfInBounds_toArray, List.set_cons_succ, List.set_cons_zero]; exact rfl
  refine reg_take2 28 34 (v := ?_) (T' := ?_) (Later.refl _) (by kernel_rfl) (by kernel_rfl) (by kernel_rfl) (fun _ _ _ h => h) (fun o ho => ?_) ?_ ?_
  rotate_left 2
  · cases ho
    refine ⟨rfl, rfl, fun W hW => ?_⟩
    have BW := B2.out.later hW
    have c4 := BW.cell 4 (.int .i64 x2) rfl
    go_simp; (try with_reducible rfl)
  · simp only [List.setIfInBounds_toArray, List.set_cons_succ, List.set_cons_zero]; exact rfl
  refine reg_call2 3 9 (Later.refl _) (by kernel_rfl) 35 #[va, .agg #[.int .i64 b2, .int .i64 e2, .int .i64 s2]] (fun o ho => by cases ho; exact ⟨rfl, rfl, fun W => by go_simp⟩) ?_
  refine (LG.out _ (Below.refl _ _) b2 e2 s2).mono ?_
  rw [L2.out]
  rintro z y1 ⟨rfl, hy1⟩
  have BP := Lib.hid (BP.out.later hy1)
  have B1 := Lib.hid (B1.out.later hy1)
  have B2 := Lib.hid (B2.out.later hy1)
  have Gy1 := Lib.hid (G0.out.trans (hy1.mono G0.out.size))
  refine ⟨_, _, rfl, hy1, (by simp only [List.setIfInBounds_toArray, List.set_cons_succ, List.set_cons_zero]; exact rfl), ?_⟩
  clear hy1
  refine reg_call2 7 13 (Later.refl _) (by kernel_rfl) 35 #[va, .agg #[.int .i64 b1, .int .i64 e1, .int .i64 s1]] (fun o ho => by cases ho; exact ⟨rfl, rfl, fun W => by go_simp⟩) ?_
  refine (LG.out _ Gy1.out b1 e1 s1).mono ?_
  rw [L1.out]
  rintro z y2 ⟨rfl, hy2⟩
  have BP := Lib.hid (BP.out.later hy2)
  have B1 := Lib.hid (B1.out.later hy2)
  have B2 := Lib.hid (B2.out.later hy2)
  have Gy2 := Lib.hid (Gy1.out.trans (hy2.mono Gy1.out.size))
  refine ⟨_, _, rfl, hy2, (by simp only [List.setIfInBounds_toArray, List.set_cons_succ, List.set_cons_zero]; exact rfl), ?_⟩
  clear hy2
  refine reg_call2 8 14 (Later.refl _) (by kernel_rfl) 34 #[.int .i64 l2, .int .i64 l1] (fun o ho => by cases ho; exact ⟨rfl, rfl, fun W => by go_simp⟩) ?_
  refine (K1.out _).mono ?_
  rintro z yy ⟨rfl, rfl⟩
  refine ⟨_, _, rfl, Later.refl _, (by simp only [List.setIfInBounds_toArray, List.set_cons_succ, List.set_cons_zero]; exact rfl), ?_⟩
  refine reg_call2 15 21 (Later.refl _) (by kernel_rfl) 34 #[.int .i64 e1, .int .i64 e2] (fun o ho => by cases ho; exact ⟨rfl, rfl, fun W => by go_simp⟩) ?_
  refine (K2.out _).mono ?_
  rintro z yy ⟨rfl, rfl⟩
  refine ⟨_, _, rfl, Later.refl _, (by simp only [List.setIfInBounds_toArray, List.set_cons_succ, List.set_cons_zero]; exact rfl), ?_⟩
  refine reg_call2 22 28 (Later.refl _) (by kernel_rfl) 34 #[.int .i64 s1, .int .i64 s2] (fun o ho => by cases ho; exact ⟨rfl, rfl, fun W => by go_simp⟩) ?_
  refine (K3.out _).mono ?_
  rintro z yy ⟨rfl, rfl⟩
  refine ⟨_, _, rfl, Later.refl _, (by simp only [List.setIfInBounds_toArray, List.set_cons_succ, List.set_cons_zero]; exact rfl), ?_⟩
  refine reg_call2 29 35 (Later.refl _) (by kernel_rfl) 34 #[.int .i64 x1, .int .i64 x2] (fun o ho => by cases ho; exact ⟨rfl, rfl, fun W => by go_simp⟩) ?_
  refine (K4.out _).mono ?_
  rintro z yy ⟨rfl, rfl⟩
  refine ⟨_, _, rfl, Later.refl _, (by simp only [List.setIfInBounds_toArray, List.set_cons_succ, List.set_cons_zero]; exact rfl), ?_⟩
  refine reg_make2 30 36 (v := ?_) (w' := ?_) (T' := ?_) (Later.refl _) (by kernel_rfl) (fun o ho => ?_) ?_ ?_ ?_
  rotate_left 3
  · cases ho
    refine ⟨rfl, rfl, ?_⟩
    go_simp; constructor <;> with_reducible rfl
  · exact Later.alloc _ _
  · simp only [List.setIfInBounds_toArray, List.set_cons_succ, List.set_cons_zero]; exact rfl
  refine reg_call2 31 37 (Later.refl _) (by kernel_rfl) 33 #[.slice (some ⟨y2.heap.size, 0, none⟩) 4 4] (fun o ho => by cases ho; exact ⟨rfl, rfl, fun W => by go_simp⟩) ?_
  refine (p_or _ [q1, q2, q3, q4] _ (RdV.lit y2 _ _ [q1, q2, q3, q4] 4 _ rfl rfl (by simp) (by simp)) (by simp)).mono ?_
  rintro z y3 ⟨rfl, hb3⟩
  have G5 := Lib.hid (Gy2.out.trans (((alloc_below y2 _).trans (hb3.mono (by simp))).mono Gy2.out.size))
  refine ⟨_, _, rfl, hb3, (by simp only [List.setIfInBounds_toArray, List.set_cons_succ, List.set_cons_zero]; exact rfl), ?_⟩
  clear hb3
  refine reg_take2 32 5 (v := ?_) (T' := ?_) (Later.refl _) (by kernel_rfl) (by kernel_rfl) (by kernel_rfl) (fun _ _ _ h => h) (fun o ho => ?_) ?_ ?_
  rotate_left 2
  · cases ho
    refine ⟨rfl, rfl, fun W hW => ?_⟩
    go_simp; (try with_reducible rfl)
  · simp only [List.setIfInBounds_toArray, List.set_cons_succ, List.set_cons_zero]; exact rfl
  refine reg_done (by kernel_rfl) ?_
  have G := Lib.hid (GD.out.trans (G5.out.mono GD.out.size))
  go_wp2_with fail
  go_ret
  exact ⟨ret_i HC.out.symm, G.out⟩

end Go.Proofs.Ytlpakooogbaclaa
