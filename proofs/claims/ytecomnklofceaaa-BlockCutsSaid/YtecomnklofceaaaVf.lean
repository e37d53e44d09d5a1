/- Layer 2: a number's bytes, read, by a jump back to its next byte. -/
import Derived.Test.YtecomnklofceaaaVV
namespace Go.Proofs.Ytecomnklofceaaa
open Go.RowKit
set_option linter.unusedVariables false

theorem drop_at {l : List UInt8} {k : Nat} (h : k < l.length) : l.drop k = l[k] :: l.drop (k + 1) := List.drop_eq_getElem_cons h

theorem i64_or_nat (a b : Nat) (ha : a < 9223372036854775808) (hb : b < 9223372036854775808) : bits .or .i64 (a : Int) (b : Int) = ((a ||| b : Nat) : Int) := by
  have hx : a ||| b < 2 ^ 63 := Nat.or_lt_two_pow (by omega) (by omega)
  show IntKind.i64.wrap ((BitVec.ofInt 64 (a : Int) ||| BitVec.ofInt 64 (b : Int)).toNat : Int) = _
  rw [BitVec.toNat_or, BitVec.ofInt_natCast, BitVec.ofInt_natCast, BitVec.toNat_ofNat, BitVec.toNat_ofNat, Nat.mod_eq_of_lt (by omega), Nat.mod_eq_of_lt (by omega)]
  simp only [IntKind.wrap, IntKind.bits, IntKind.signed]
  generalize a ||| b = x at *
  simp
  omega

theorem or_step (acc x k : Nat) (hk : k ≤ 8) (ha : acc < 128 ^ k) (hx : x < 256) :
    bits .or .i64 (acc : Int) (wrap64 ((x : Int) % 128 * 2 ^ (7 * k))) = ((acc + x % 128 * 128 ^ k : Nat) : Int) ∧ acc + x % 128 * 128 ^ k < 128 ^ (k + 1) := by
  have e : (2 : Nat) ^ (7 * k) = 128 ^ k := by rw [Nat.pow_mul]
  have e2 : ((x : Int) % 128 * 2 ^ (7 * k)) = ((x % 128 * 128 ^ k : Nat) : Int) := by rw [← e]; simp
  have hy : x % 128 < 128 := Nat.mod_lt _ (by omega)
  have h1 : x % 128 * 128 ^ k + 128 ^ k ≤ 128 ^ (k + 1) := by
    rw [Nat.pow_succ]
    have := Nat.mul_le_mul_right (128 ^ k) (show x % 128 + 1 ≤ 128 from hy)
    rw [Nat.add_mul, Nat.one_mul] at this
    omega
  have h2 : 128 ^ (k + 1) ≤ 9223372036854775808 := by
    have := Nat.pow_le_pow_right (show 0 < 128 from by omega) (show k + 1 ≤ 9 from by omega)
    simpa using this
  have hor : acc ||| x % 128 * 128 ^ k = acc + x % 128 * 128 ^ k := by
    rw [Nat.or_comm, ← e, Nat.mul_comm, ← Nat.two_pow_add_eq_or_of_lt (by rw [e]; exact ha)]
    omega
  refine ⟨?_, by omega⟩
  rw [e2, show wrap64 ((x % 128 * 128 ^ k : Nat) : Int) = ((x % 128 * 128 ^ k : Nat) : Int) from by unfold wrap64; omega, i64_or_nat _ _ (by omega) (by omega), hor]

set_option maxHeartbeats 3200000 in
set_option maxRecDepth 1000000 in
theorem read_number (B : Nat) (v : Value) (l : List UInt8) (w : World) (h : RdB w B v l) (hl : l.length ≤ 1000000000) :
    Calls Try.prog 61 #[v] w fun e w' => e = .returned (.tuple #[.int .i64 (rdN l).1, .int .i64 (rdN l).2.1, .int .i64 (rdN l).2.2]) ∧ w' = w := by
  have H := Lib.hid h
  obtain ⟨A, c, rfl, hlc, hc, -⟩ := h
  go_enter Try.func61, Try.ntmps61
  go_wp2
  refine wp_scope_jumps 0 (fun a' w' => ∃ (k acc : Nat) (u5 u6 u7 u8 u9 u10 u11 u12 u13 u14 u15 u16 u17 u18 u19 u20 u21 u22 u23 u24 u25 u26 u27 u28 u29 u30 u31 u32 u33 u34 u35 u36 u37 u38 u39 u40 : Value), (k ≤ 9 ∧ k ≤ l.length ∧ acc < 128 ^ k ∧ rdGo (l.drop k) k acc = rdN l ∧ w' = w) ∧ a' = { tmps := #[.slice A l.length c, undef, .int .i64 acc, .int .i64 k, .int .i64 0, u5, u6, u7, u8, u9, u10, u11, u12, u13, u14, u15, u16, u17, u18, u19, u20, u21, u22, u23, u24, u25, u26, u27, u28, u29, u30, u31, u32, u33, u34, u35, u36, u37, u38, u39, u40], defers := [] })
    (fun a' _ => 9 - (intOf (a'.tmps.getD 3 undef)).toNat) rfl ?first ?pass
  case' first =>
    go_wp2
    go_step3
    simp only [Exit.then]
    rename_i K hK
    refine hK _ _ ?_
    clear hK K
    refine (?_ : ∀ (k acc : Nat) (u5 u6 u7 u8 u9 u10 u11 u12 u13 u14 u15 u16 u17 u18 u19 u20 u21 u22 u23 u24 u25 u26 u27 u28 u29 u30 u31 u32 u33 u34 u35 u36 u37 u38 u39 u40 : Value) (w' : World), (k ≤ 9 ∧ k ≤ l.length ∧ acc < 128 ^ k ∧ rdGo (l.drop k) k acc = rdN l ∧ w' = w) → Code.wp Try.prog _ _ { tmps := #[.slice A l.length c, undef, .int .i64 (acc : Int), .int .i64 (k : Int), .int .i64 0, u5, u6, u7, u8, u9, u10, u11, u12, u13, u14, u15, u16, u17, u18, u19, u20, u21, u22, u23, u24, u25, u26, u27, u28, u29, u30, u31, u32, u33, u34, u35, u36, u37, u38, u39, u40], defers := [] } w') 0 0 undef undef undef undef undef undef undef undef undef undef undef undef undef undef undef undef undef undef undef undef undef undef undef undef undef undef undef undef undef undef undef undef undef undef undef undef w ⟨by omega, Nat.zero_le _, by simp, rfl, rfl⟩
    intro k acc u5 u6 u7 u8 u9 u10 u11 u12 u13 u14 u15 u16 u17 u18 u19 u20 u21 u22 u23 u24 u25 u26 u27 u28 u29 u30 u31 u32 u33 u34 u35 u36 u37 u38 u39 u40 w' hf
  case' pass =>
    rintro a' w' ⟨k, acc, u5, u6, u7, u8, u9, u10, u11, u12, u13, u14, u15, u16, u17, u18, u19, u20, u21, u22, u23, u24, u25, u26, u27, u28, u29, u30, u31, u32, u33, u34, u35, u36, u37, u38, u39, u40, hf, rfl⟩
  all_goals
    obtain ⟨hk9, hk, hacc, hp, rfl⟩ := hf
    by_cases h9 : k = 9
    · subst h9
      rw [rdGo_nine] at hp
      have HP := Lib.hid hp
      clear hp
      go_wp2
      simp only [Exit.jump]
      go_ret3
      exact ⟨by rw [← HP.out]; rfl, rfl⟩
    · have z9 : ((k : Int) == 9) = false := by simp; omega
      by_cases hlt : k < l.length
      · obtain ⟨A', c', e1, _, _, hcell⟩ := H.out
        obtain ⟨b, o, rfl, hb, hcell2⟩ := hcell (by omega)
        cases e1
        have c1 : w'.cell? ⟨b, o + k, none⟩ = some (.int .u8 (l[k].toNat : Int)) := hcell2 k l[k] (List.getElem?_eq_getElem hlt)
        rw [drop_at hlt] at hp
        have zl : ((k : Int) == (l.length : Int)) = false := by simp; omega
        clear hcell hcell2
        generalize l[k] = x at c1 hp
        have hx := x.toNat_lt
        obtain ⟨hor, hN⟩ := or_step acc x.toNat k (by omega) hacc hx
        by_cases hm : 128 ≤ x.toNat
        · rw [rdGo_more x _ k acc h9 hm] at hp
          generalize acc + x.toNat % 128 * 128 ^ k = N at *
          have HP := Lib.hid hp
          have HN := Lib.hid hN
          clear hacc hp hN
          go_wp2
          rw [show ((k : Int) + 1) = ((k + 1 : Nat) : Int) from by omega]
          go_step3
          first
            | exact ⟨rfl, k + 1, N, _, _, _, _, _, _, _, _, _, _, _, _, _, _, _, _, _, _, _, _, _, _, _, _, _, _, _, _, _, _, _, _, _, _, _, _, ⟨by omega, by omega, HN.out, HP.out, rfl⟩, rfl⟩
            | exact ⟨rfl, ⟨k + 1, N, _, _, _, _, _, _, _, _, _, _, _, _, _, _, _, _, _, _, _, _, _, _, _, _, _, _, _, _, _, _, _, _, _, _, _, _, ⟨by omega, by omega, HN.out, HP.out, rfl⟩, rfl⟩, by simp [intOf]; omega⟩
        · by_cases hbig : 4611686018427387904 ≤ acc + x.toNat % 128 * 128 ^ k
          · rw [rdGo_bad x _ k acc h9 hm (.inl hbig)] at hp
            generalize acc + x.toNat % 128 * 128 ^ k = N at *
            have HP := Lib.hid hp
            have hI : (4611686018427387904 : Int) ≤ (N : Int) := by omega
            have hm1 : (x.toNat : Int) < 128 := by omega
            clear hacc hp hN hbig hm
            go_wp2
            simp only [Exit.jump]
            go_ret3
            exact ⟨by rw [← HP.out]; rfl, rfl⟩
          · by_cases hz : x.toNat = 0
            · by_cases hk0 : 0 < k
              · rw [rdGo_bad x _ k acc h9 hm (.inr ⟨hz, hk0⟩)] at hp
                have hz1 : ((x.toNat : Int) == 0) = true := by simp; omega
                generalize acc + x.toNat % 128 * 128 ^ k = N at *
                have HP := Lib.hid hp
                have hI : decide ((4611686018427387904 : Int) ≤ (N : Int)) = false := by rw [decide_eq_false_iff_not]; omega
                have hm1 : (x.toNat : Int) < 128 := by omega
                clear hacc hp hN hz hbig hm
                go_wp2
                simp only [Exit.jump]
                go_ret3
                exact ⟨by rw [← HP.out]; rfl, rfl⟩
              · rw [rdGo_end x _ k acc h9 hm (by omega)] at hp
                have hz1 : ((x.toNat : Int) == 0) = true := by simp; omega
                generalize acc + x.toNat % 128 * 128 ^ k = N at *
                have HP := Lib.hid hp
                have hI : decide ((4611686018427387904 : Int) ≤ (N : Int)) = false := by rw [decide_eq_false_iff_not]; omega
                have hm1 : (x.toNat : Int) < 128 := by omega
                clear hacc hp hN hz hbig hm
                go_wp2
                simp only [Exit.jump]
                go_ret3
                exact ⟨by rw [← HP.out]; rfl, rfl⟩
            · rw [rdGo_end x _ k acc h9 hm (by omega)] at hp
              have hz1 : ((x.toNat : Int) == 0) = false := by simp; omega
              generalize acc + x.toNat % 128 * 128 ^ k = N at *
              have HP := Lib.hid hp
              have hI : decide ((4611686018427387904 : Int) ≤ (N : Int)) = false := by rw [decide_eq_false_iff_not]; omega
              have hm1 : (x.toNat : Int) < 128 := by omega
              clear hacc hp hN hz hbig hm
              go_wp2
              simp only [Exit.jump]
              go_ret3
              exact ⟨by rw [← HP.out]; rfl, rfl⟩
      · have hk1 : k = l.length := by omega
        rw [hk1, List.drop_length, rdGo_nil _ _ (by omega)] at hp
        have HP := Lib.hid hp
        clear hp
        have z1 : ((k : Int) == (l.length : Int)) = true := by rw [beq_iff_eq]; omega
        clear hk1
        go_wp2
        simp only [Exit.jump]
        go_ret3
        exact ⟨by rw [← HP.out]; rfl, rfl⟩
end Go.Proofs.Ytecomnklofceaaa
