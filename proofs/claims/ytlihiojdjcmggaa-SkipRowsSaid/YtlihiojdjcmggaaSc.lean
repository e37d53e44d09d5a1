/- Layer 12: Put and Drop, by the document. -/
import Derived.Test.YtlihiojdjcmggaaSb
namespace Go.Proofs.Ytlihiojdjcmggaa
open Go.RowKit
set_option linter.unusedVariables false

def dropI (l : List It) (key : ByteArray) : List It × Bool := if hereI l key = true then (l.take (atI key l) ++ l.drop (atI key l + 1), true) else (l, false)
def clampI (n : Int) : Int := if n < 1 then 1 else if 8 < n then 8 else n
def levI (l : List It) (k : Nat) : Int := match l[k]? with | some x => x.level | none => 0
def putI (l : List It) (key : ByteArray) (lv v : Int) : List It × Bool :=
  if hereI l key = true then (l.take (atI key l) ++ [⟨key, levI l (atI key l), v⟩] ++ l.drop (atI key l + 1), false)
  else (l.take (atI key l) ++ [⟨key, clampI lv, v⟩] ++ l.drop (atI key l), true)
theorem take_len {α : Type} (l : List α) (k : Nat) : (l.take k).length ≤ l.length := by rw [List.length_take]; omega
theorem drop_len {α : Type} (l : List α) (k : Nat) : (l.drop k).length ≤ l.length := by rw [List.length_drop]; omega
theorem put_len (l : List It) (key : ByteArray) (lv v : Int) : (putI l key lv v).1.length ≤ l.length + 1 := by
  have h0 := at_le key l
  unfold putI
  split
  · rename_i h
    obtain ⟨h1, -⟩ := here_lt h
    simp only [List.length_append, List.length_take, List.length_drop, List.length_singleton]; omega
  · simp only [List.length_append, List.length_take, List.length_drop, List.length_singleton]; omega
theorem drop_lenI (l : List It) (key : ByteArray) : (dropI l key).1.length ≤ l.length := by
  unfold dropI
  split
  · simp only [List.length_append, List.length_take, List.length_drop]; omega
  · exact Nat.le_refl _

theorem ret_vb {v : Value} {c d : Bool} (h : c = d) : Ending.returned (.tuple #[v, .bool c]) = .returned (.tuple #[v, .bool d]) := by rw [h]
set_option maxHeartbeats 4000000 in
set_option maxRecDepth 100000 in
theorem ref_drop (va : Value) (l : List It) (key : ByteArray) (w : World) (B : Nat) (ho : OwnX itL 46 w B va l) (hB : B ≤ w.heap.size) (hl : l.length ≤ 100000) :
    Calls Try.prog 23 #[va, .string key] w fun z w' => ∃ v', z = .returned (.tuple #[v', .bool (dropI l key).2]) ∧ OwnX itL 46 w' B v' (dropI l key).1 ∧ Below w.heap.size w w' := by
  have HO := Lib.hid ho
  have HA := Lib.hid ho.rd
  have HB := Lib.hid hB
  have AT := Lib.hid (fun w1 h => ref_atK va l key w1 h hl)
  have HLL := Lib.hid hl
  have HL := Lib.hid (at_le key l)
  have HH := Lib.hid (fun h => (here_lt (l := l) (key := key) h).1)
  have F1 : hereI l key = true → dropI l key = (l.take (atI key l) ++ l.drop (atI key l + 1), true) := fun h => by rw [dropI, if_pos h]
  have F0 : hereI l key = false → dropI l key = (l, false) := fun h => by rw [dropI, if_neg (by rw [h]; decide)]
  generalize dropI l key = res at *
  generalize hereI l key = hh at *
  generalize atI key l = q at *
  obtain ⟨A, ca, rfl, -⟩ := ho.rd
  clear ho hl hB
  go_enter Try.func23, Try.ntmps23
  go_wp2_with fail
  refine (AT.out _ HA.out).mono ?_
  rintro z w1 ⟨rfl, hb⟩
  have G := Lib.hid hb
  have HA1 := Lib.hid (HA.out.on hb)
  have O1 := Lib.hid (HO.out.on hb)
  clear hb
  cases hh
  · have HN := Lib.hid (F0 rfl)
    clear F0 F1
    go_wp2_with fail
    go_ret2
    exact ⟨(.slice A l.length ca), ret_vb (by rw [HN.out]), by rw [HN.out]; exact O1.out, G.out⟩
  · have HN := Lib.hid (F1 rfl)
    have hq := HH.out rfl
    obtain ⟨A2, c2, h2, r2⟩ := slX_head HA1.out Try.underlying25 it_size q (q : Int) rfl HL.out
    obtain ⟨A3, c3, h3, r3⟩ := slX_tail HA1.out Try.underlying25 it_size (q + 1) ((q : Int) + 1) (by omega) hq
    have R2 := Lib.hid r2
    have R3 := Lib.hid r3
    have L2 := Lib.hid (take_len l q)
    have L3 := Lib.hid (drop_len l (q + 1))
    have hw : IntKind.i64.wrap ((q : Int) + 1) = (q : Int) + 1 := by rw [IntKind.wrap_i64]; have := HLL.out; omega
    clear F0 F1 r2 r3 hq
    go_wp2_with (at_builtin; first
      | (refine wpl_appX_rd rfl (.tmp 18) (.tmp 21) rfl Try.underlying25 it_info rfl w.heap.size _ _ _ [] (l.take q) rfl rfl (OwnX.nil _ _) R2.out G.out.size (by have := L2.out; have := HLL.out; simp only [List.length_nil]; omega) (by decide) ?_; intro v5 w5 ho5 hg5 hb5; have O5 := Lib.hid ho5; have G5 := Lib.hid (G.out.trans hb5); have B5 := Lib.hid (hg5.below (Nat.le_refl _) (fun k hk => by cases hk)); clear ho5 hg5 hb5)
      | (refine wpl_appX_rd rfl (.tmp 23) (.tmp 27) rfl Try.underlying25 it_info rfl w.heap.size _ _ _ ([] ++ l.take q) (l.drop (q + 1)) rfl rfl O5.out (R3.out.on B5.out) G5.out.size (by have := L2.out; have := L3.out; have := HLL.out; simp only [List.nil_append]; omega) (by decide) ?_; intro v6 w6 ho6 hg6 hb6; have O6 := Lib.hid ho6; have G6 := Lib.hid (G5.out.trans hb6); clear ho6 hg6 hb6))
    go_ret2
    exact ⟨v6, ret_vb (by rw [HN.out]), by rw [HN.out]; exact OwnX.mono O6.out HB.out, G6.out⟩

set_option maxHeartbeats 4000000 in
set_option maxRecDepth 100000 in
theorem ref_put (va : Value) (l : List It) (key : ByteArray) (lv v : Int) (w : World) (ha : RdX itL w w.heap.size va l) (hl : l.length ≤ 100000) :
    Calls Try.prog 21 #[va, .string key, .int .i64 lv, .int .i64 v] w fun z w' => ∃ v', z = .returned (.tuple #[v', .bool (putI l key lv v).2]) ∧ OwnX itL 46 w' w.heap.size v' (putI l key lv v).1 ∧ Below w.heap.size w w' := by
  have HA := Lib.hid ha
  have AT := Lib.hid (fun w1 h => ref_atK va l key w1 h hl)
  have HLL := Lib.hid hl
  have HL := Lib.hid (at_le key l)
  have HH := Lib.hid (fun h => (here_lt (l := l) (key := key) h).1)
  have F1 : hereI l key = true → putI l key lv v = (l.take (atI key l) ++ [⟨key, levI l (atI key l), v⟩] ++ l.drop (atI key l + 1), false) := fun h => by rw [putI, if_pos h]
  have F0 : hereI l key = false → ∀ c, clampI lv = c → putI l key lv v = (l.take (atI key l) ++ [⟨key, c, v⟩] ++ l.drop (atI key l), true) := fun h c hc => by rw [putI, if_neg (by rw [h]; decide), hc]
  generalize putI l key lv v = res at *
  generalize hereI l key = hh at *
  generalize atI key l = q at *
  obtain ⟨A, ca, rfl, -⟩ := id ha
  clear ha hl
  rcases Int.lt_or_le lv 1 with h1 | h1
  case' inl =>
    have z1 : decide (lv < 1) = true := by rw [decide_eq_true_eq]; exact h1
    have F0 := Lib.hid (fun h => F0 h 1 (by rw [clampI, if_pos h1]))
  case' inr =>
    have z1 : decide (lv < 1) = false := by rw [decide_eq_false_iff_not]; omega
    rcases Int.lt_or_le 8 lv with h2 | h2
    case' inl =>
      have z2 : decide (8 < lv) = true := by rw [decide_eq_true_eq]; exact h2
      have F0 := Lib.hid (fun h => F0 h 8 (by rw [clampI, if_neg (by omega), if_pos h2]))
    case' inr =>
      have z2 : decide (8 < lv) = false := by rw [decide_eq_false_iff_not]; omega
      have F0 := Lib.hid (fun h => F0 h lv (by rw [clampI, if_neg (by omega), if_neg (by omega)]))
  case inl =>
    go_enter Try.func21, Try.ntmps21
    go_wp2_with fail
    refine (AT.out _ HA.out).mono ?_
    rintro z w1 ⟨rfl, hb⟩
    have G := Lib.hid hb
    have HA1 := Lib.hid (HA.out.on hb)
    obtain ⟨A2, c2, h2, r2⟩ := slX_head HA1.out Try.underlying25 it_size q (q : Int) rfl HL.out
    have R2 := Lib.hid r2
    have L2 := Lib.hid (take_len l q)
    clear hb r2
    cases hh
    · have HN := Lib.hid (F0.out rfl)
      obtain ⟨A3, c3, h3, r3⟩ := slX_tail HA1.out Try.underlying25 it_size q (q : Int) rfl HL.out
      have R3 := Lib.hid r3
      have L3 := Lib.hid (drop_len l q)
      clear F0 F1 r3
      go_wp2_with (at_builtin; first
        | (refine wpl_appX_rd rfl (.tmp 23) (.tmp 26) rfl Try.underlying25 it_info rfl w1.heap.size _ _ _ [] (l.take q) rfl rfl (OwnX.nil _ _) R2.out (Nat.le_refl _) (by have := L2.out; have := HLL.out; simp only [List.length_nil]; omega) (by decide) ?_; intro v5 w5 ho5 hg5 hb5; have O5 := Lib.hid ho5; have G5 := Lib.hid hb5; clear ho5 hg5 hb5)
        | (refine wpl_appX (L := itL) rfl (.tmp 46) (.tmp 51) rfl Try.underlying25 it_info rfl w1.heap.size _ ([] ++ l.take q) [(⟨key, 1, v⟩ : It)] _ _ _ rfl rfl rfl rfl O5.out G5.out.size (by have := L2.out; have := HLL.out; simp only [List.nil_append, List.length_singleton]; omega) (by decide) ?_; intro v6 w6 ho6 hg6 hb6; have O6 := Lib.hid ho6; have G6 := Lib.hid (G5.out.trans hb6); clear ho6 hg6 hb6)
        | (refine wpl_appX_rd rfl (.tmp 53) (.tmp 56) rfl Try.underlying25 it_info rfl w1.heap.size _ _ _ ([] ++ l.take q ++ [(⟨key, 1, v⟩ : It)]) (l.drop (q)) rfl rfl O6.out (R3.out.below G6.out) G6.out.size (by have := L2.out; have := L3.out; have := HLL.out; simp only [List.nil_append, List.length_append, List.length_singleton]; omega) (by decide) ?_; intro v7 w7 ho7 hg7 hb7; have O7 := Lib.hid ho7; have G7 := Lib.hid (G6.out.trans hb7); clear ho7 hg7 hb7))
      go_ret2
      exact ⟨v7, ret_vb (by rw [HN.out]), by rw [HN.out]; exact OwnX.mono O7.out G.out.size, G.out.trans (G7.out.mono G.out.size)⟩
    · have HN := Lib.hid (F1 rfl)
      have hq := HH.out rfl
      have hqi : (q : Int) < (l.length : Int) := by omega
      obtain ⟨A3, c3, h3, r3⟩ := slX_tail HA1.out Try.underlying25 it_size (q + 1) ((q : Int) + 1) (by omega) hq
      have R3 := Lib.hid r3
      have L3 := Lib.hid (drop_len l (q + 1))
      obtain ⟨x, hx⟩ : ∃ x, l[q] = x := ⟨_, rfl⟩
      have HLV := Lib.hid (show levI l q = x.level from by unfold levI; rw [List.getElem?_eq_getElem hq, hx])
      rw [HLV.out] at HN
      obtain ⟨xk, xl, xv⟩ := x
      have HX := Lib.hid hx
      have HQ := Lib.hid hq
      obtain ⟨bq, oq, rfl, -, -, -, -⟩ := RdX.it HA1.out q hq hx
      have hw : IntKind.i64.wrap ((q : Int) + 1) = (q : Int) + 1 := by rw [IntKind.wrap_i64]; have := HLL.out; omega
      clear F0 F1 r3 hx HLV
      go_wp2_with (at_builtin; first
        | (refine wpl_appX_rd rfl (.tmp 23) (.tmp 26) rfl Try.underlying25 it_info rfl w1.heap.size _ _ _ [] (l.take q) rfl rfl (OwnX.nil _ _) R2.out (Nat.le_refl _) (by have := L2.out; have := HLL.out; simp only [List.length_nil]; omega) (by decide) ?_; intro v5 w5 ho5 hg5 hb5; have O5 := Lib.hid ho5; have G5 := Lib.hid hb5; obtain ⟨bq, oq, hq0, -, e0, e1, e2⟩ := RdX.it (HA1.out.below G5.out) q HQ.out HX.out; cases hq0; clear ho5 hg5 hb5)
        | (refine wpl_appX (L := itL) rfl (.tmp 29) (.tmp 38) rfl Try.underlying25 it_info rfl w1.heap.size _ ([] ++ l.take q) [(⟨key, xl, v⟩ : It)] _ _ _ rfl rfl rfl rfl O5.out G5.out.size (by have := L2.out; have := HLL.out; simp only [List.nil_append, List.length_singleton]; omega) (by decide) ?_; intro v6 w6 ho6 hg6 hb6; have O6 := Lib.hid ho6; have G6 := Lib.hid (G5.out.trans hb6); clear ho6 hg6 hb6)
        | (refine wpl_appX_rd rfl (.tmp 40) (.tmp 44) rfl Try.underlying25 it_info rfl w1.heap.size _ _ _ ([] ++ l.take q ++ [(⟨key, xl, v⟩ : It)]) (l.drop (q + 1)) rfl rfl O6.out (R3.out.below G6.out) G6.out.size (by have := L2.out; have := L3.out; have := HLL.out; simp only [List.nil_append, List.length_append, List.length_singleton]; omega) (by decide) ?_; intro v7 w7 ho7 hg7 hb7; have O7 := Lib.hid ho7; have G7 := Lib.hid (G6.out.trans hb7); clear ho7 hg7 hb7))
      go_ret2
      exact ⟨v7, ret_vb (by rw [HN.out]), by rw [HN.out]; exact OwnX.mono O7.out G.out.size, G.out.trans (G7.out.mono G.out.size)⟩
  case inr.inl =>
    go_enter Try.func21, Try.ntmps21
    go_wp2_with fail
    refine (AT.out _ HA.out).mono ?_
    rintro z w1 ⟨rfl, hb⟩
    have G := Lib.hid hb
    have HA1 := Lib.hid (HA.out.on hb)
    obtain ⟨A2, c2, h2, r2⟩ := slX_head HA1.out Try.underlying25 it_size q (q : Int) rfl HL.out
    have R2 := Lib.hid r2
    have L2 := Lib.hid (take_len l q)
    clear hb r2
    cases hh
    · have HN := Lib.hid (F0.out rfl)
      obtain ⟨A3, c3, h3, r3⟩ := slX_tail HA1.out Try.underlying25 it_size q (q : Int) rfl HL.out
      have R3 := Lib.hid r3
      have L3 := Lib.hid (drop_len l q)
      clear F0 F1 r3
      go_wp2_with (at_builtin; first
        | (refine wpl_appX_rd rfl (.tmp 23) (.tmp 26) rfl Try.underlying25 it_info rfl w1.heap.size _ _ _ [] (l.take q) rfl rfl (OwnX.nil _ _) R2.out (Nat.le_refl _) (by have := L2.out; have := HLL.out; simp only [List.length_nil]; omega) (by decide) ?_; intro v5 w5 ho5 hg5 hb5; have O5 := Lib.hid ho5; have G5 := Lib.hid hb5; clear ho5 hg5 hb5)
        | (refine wpl_appX (L := itL) rfl (.tmp 46) (.tmp 51) rfl Try.underlying25 it_info rfl w1.heap.size _ ([] ++ l.take q) [(⟨key, 8, v⟩ : It)] _ _ _ rfl rfl rfl rfl O5.out G5.out.size (by have := L2.out; have := HLL.out; simp only [List.nil_append, List.length_singleton]; omega) (by decide) ?_; intro v6 w6 ho6 hg6 hb6; have O6 := Lib.hid ho6; have G6 := Lib.hid (G5.out.trans hb6); clear ho6 hg6 hb6)
        | (refine wpl_appX_rd rfl (.tmp 53) (.tmp 56) rfl Try.underlying25 it_info rfl w1.heap.size _ _ _ ([] ++ l.take q ++ [(⟨key, 8, v⟩ : It)]) (l.drop (q)) rfl rfl O6.out (R3.out.below G6.out) G6.out.size (by have := L2.out; have := L3.out; have := HLL.out; simp only [List.nil_append, List.length_append, List.length_singleton]; omega) (by decide) ?_; intro v7 w7 ho7 hg7 hb7; have O7 := Lib.hid ho7; have G7 := Lib.hid (G6.out.trans hb7); clear ho7 hg7 hb7))
      go_ret2
      exact ⟨v7, ret_vb (by rw [HN.out]), by rw [HN.out]; exact OwnX.mono O7.out G.out.size, G.out.trans (G7.out.mono G.out.size)⟩
    · have HN := Lib.hid (F1 rfl)
      have hq := HH.out rfl
      have hqi : (q : Int) < (l.length : Int) := by omega
      obtain ⟨A3, c3, h3, r3⟩ := slX_tail HA1.out Try.underlying25 it_size (q + 1) ((q : Int) + 1) (by omega) hq
      have R3 := Lib.hid r3
      have L3 := Lib.hid (drop_len l (q + 1))
      obtain ⟨x, hx⟩ : ∃ x, l[q] = x := ⟨_, rfl⟩
      have HLV := Lib.hid (show levI l q = x.level from by unfold levI; rw [List.getElem?_eq_getElem hq, hx])
      rw [HLV.out] at HN
      obtain ⟨xk, xl, xv⟩ := x
      have HX := Lib.hid hx
      have HQ := Lib.hid hq
      obtain ⟨bq, oq, rfl, -, -, -, -⟩ := RdX.it HA1.out q hq hx
      have hw : IntKind.i64.wrap ((q : Int) + 1) = (q : Int) + 1 := by rw [IntKind.wrap_i64]; have := HLL.out; omega
      clear F0 F1 r3 hx HLV
      go_wp2_with (at_builtin; first
        | (refine wpl_appX_rd rfl (.tmp 23) (.tmp 26) rfl Try.underlying25 it_info rfl w1.heap.size _ _ _ [] (l.take q) rfl rfl (OwnX.nil _ _) R2.out (Nat.le_refl _) (by have := L2.out; have := HLL.out; simp only [List.length_nil]; omega) (by decide) ?_; intro v5 w5 ho5 hg5 hb5; have O5 := Lib.hid ho5; have G5 := Lib.hid hb5; obtain ⟨bq, oq, hq0, -, e0, e1, e2⟩ := RdX.it (HA1.out.below G5.out) q HQ.out HX.out; cases hq0; clear ho5 hg5 hb5)
        | (refine wpl_appX (L := itL) rfl (.tmp 29) (.tmp 38) rfl Try.underlying25 it_info rfl w1.heap.size _ ([] ++ l.take q) [(⟨key, xl, v⟩ : It)] _ _ _ rfl rfl rfl rfl O5.out G5.out.size (by have := L2.out; have := HLL.out; simp only [List.nil_append, List.length_singleton]; omega) (by decide) ?_; intro v6 w6 ho6 hg6 hb6; have O6 := Lib.hid ho6; have G6 := Lib.hid (G5.out.trans hb6); clear ho6 hg6 hb6)
        | (refine wpl_appX_rd rfl (.tmp 40) (.tmp 44) rfl Try.underlying25 it_info rfl w1.heap.size _ _ _ ([] ++ l.take q ++ [(⟨key, xl, v⟩ : It)]) (l.drop (q + 1)) rfl rfl O6.out (R3.out.below G6.out) G6.out.size (by have := L2.out; have := L3.out; have := HLL.out; simp only [List.nil_append, List.length_append, List.length_singleton]; omega) (by decide) ?_; intro v7 w7 ho7 hg7 hb7; have O7 := Lib.hid ho7; have G7 := Lib.hid (G6.out.trans hb7); clear ho7 hg7 hb7))
      go_ret2
      exact ⟨v7, ret_vb (by rw [HN.out]), by rw [HN.out]; exact OwnX.mono O7.out G.out.size, G.out.trans (G7.out.mono G.out.size)⟩
  case inr.inr =>
    go_enter Try.func21, Try.ntmps21
    go_wp2_with fail
    refine (AT.out _ HA.out).mono ?_
    rintro z w1 ⟨rfl, hb⟩
    have G := Lib.hid hb
    have HA1 := Lib.hid (HA.out.on hb)
    obtain ⟨A2, c2, h2, r2⟩ := slX_head HA1.out Try.underlying25 it_size q (q : Int) rfl HL.out
    have R2 := Lib.hid r2
    have L2 := Lib.hid (take_len l q)
    clear hb r2
    cases hh
    · have HN := Lib.hid (F0.out rfl)
      obtain ⟨A3, c3, h3, r3⟩ := slX_tail HA1.out Try.underlying25 it_size q (q : Int) rfl HL.out
      have R3 := Lib.hid r3
      have L3 := Lib.hid (drop_len l q)
      clear F0 F1 r3
      go_wp2_with (at_builtin; first
        | (refine wpl_appX_rd rfl (.tmp 23) (.tmp 26) rfl Try.underlying25 it_info rfl w1.heap.size _ _ _ [] (l.take q) rfl rfl (OwnX.nil _ _) R2.out (Nat.le_refl _) (by have := L2.out; have := HLL.out; simp only [List.length_nil]; omega) (by decide) ?_; intro v5 w5 ho5 hg5 hb5; have O5 := Lib.hid ho5; have G5 := Lib.hid hb5; clear ho5 hg5 hb5)
        | (refine wpl_appX (L := itL) rfl (.tmp 46) (.tmp 51) rfl Try.underlying25 it_info rfl w1.heap.size _ ([] ++ l.take q) [(⟨key, lv, v⟩ : It)] _ _ _ rfl rfl rfl rfl O5.out G5.out.size (by have := L2.out; have := HLL.out; simp only [List.nil_append, List.length_singleton]; omega) (by decide) ?_; intro v6 w6 ho6 hg6 hb6; have O6 := Lib.hid ho6; have G6 := Lib.hid (G5.out.trans hb6); clear ho6 hg6 hb6)
        | (refine wpl_appX_rd rfl (.tmp 53) (.tmp 56) rfl Try.underlying25 it_info rfl w1.heap.size _ _ _ ([] ++ l.take q ++ [(⟨key, lv, v⟩ : It)]) (l.drop (q)) rfl rfl O6.out (R3.out.below G6.out) G6.out.size (by have := L2.out; have := L3.out; have := HLL.out; simp only [List.nil_append, List.length_append, List.length_singleton]; omega) (by decide) ?_; intro v7 w7 ho7 hg7 hb7; have O7 := Lib.hid ho7; have G7 := Lib.hid (G6.out.trans hb7); clear ho7 hg7 hb7))
      go_ret2
      exact ⟨v7, ret_vb (by rw [HN.out]), by rw [HN.out]; exact OwnX.mono O7.out G.out.size, G.out.trans (G7.out.mono G.out.size)⟩
    · have HN := Lib.hid (F1 rfl)
      have hq := HH.out rfl
      have hqi : (q : Int) < (l.length : Int) := by omega
      obtain ⟨A3, c3, h3, r3⟩ := slX_tail HA1.out Try.underlying25 it_size (q + 1) ((q : Int) + 1) (by omega) hq
      have R3 := Lib.hid r3
      have L3 := Lib.hid (drop_len l (q + 1))
      obtain ⟨x, hx⟩ : ∃ x, l[q] = x := ⟨_, rfl⟩
      have HLV := Lib.hid (show levI l q = x.level from by unfold levI; rw [List.getElem?_eq_getElem hq, hx])
      rw [HLV.out] at HN
      obtain ⟨xk, xl, xv⟩ := x
      have HX := Lib.hid hx
      have HQ := Lib.hid hq
      obtain ⟨bq, oq, rfl, -, -, -, -⟩ := RdX.it HA1.out q hq hx
      have hw : IntKind.i64.wrap ((q : Int) + 1) = (q : Int) + 1 := by rw [IntKind.wrap_i64]; have := HLL.out; omega
      clear F0 F1 r3 hx HLV
      go_wp2_with (at_builtin; first
        | (refine wpl_appX_rd rfl (.tmp 23) (.tmp 26) rfl Try.underlying25 it_info rfl w1.heap.size _ _ _ [] (l.take q) rfl rfl (OwnX.nil _ _) R2.out (Nat.le_refl _) (by have := L2.out; have := HLL.out; simp only [List.length_nil]; omega) (by decide) ?_; intro v5 w5 ho5 hg5 hb5; have O5 := Lib.hid ho5; have G5 := Lib.hid hb5; obtain ⟨bq, oq, hq0, -, e0, e1, e2⟩ := RdX.it (HA1.out.below G5.out) q HQ.out HX.out; cases hq0; clear ho5 hg5 hb5)
        | (refine wpl_appX (L := itL) rfl (.tmp 29) (.tmp 38) rfl Try.underlying25 it_info rfl w1.heap.size _ ([] ++ l.take q) [(⟨key, xl, v⟩ : It)] _ _ _ rfl rfl rfl rfl O5.out G5.out.size (by have := L2.out; have := HLL.out; simp only [List.nil_append, List.length_singleton]; omega) (by decide) ?_; intro v6 w6 ho6 hg6 hb6; have O6 := Lib.hid ho6; have G6 := Lib.hid (G5.out.trans hb6); clear ho6 hg6 hb6)
        | (refine wpl_appX_rd rfl (.tmp 40) (.tmp 44) rfl Try.underlying25 it_info rfl w1.heap.size _ _ _ ([] ++ l.take q ++ [(⟨key, xl, v⟩ : It)]) (l.drop (q + 1)) rfl rfl O6.out (R3.out.below G6.out) G6.out.size (by have := L2.out; have := L3.out; have := HLL.out; simp only [List.nil_append, List.length_append, List.length_singleton]; omega) (by decide) ?_; intro v7 w7 ho7 hg7 hb7; have O7 := Lib.hid ho7; have G7 := Lib.hid (G6.out.trans hb7); clear ho7 hg7 hb7))
      go_ret2
      exact ⟨v7, ret_vb (by rw [HN.out]), by rw [HN.out]; exact OwnX.mono O7.out G.out.size, G.out.trans (G7.out.mono G.out.size)⟩
end Go.Proofs.Ytlihiojdjcmggaa
