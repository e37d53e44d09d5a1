/- Layer 8: versions of which some are taken, in order: the document's Good and Sorted, as far as the laws ask. -/
import Derived.Test.YtefjdmlmmoeoaaaTa
import Derived.Test.YtefjdmlmmoeoaaaRR
namespace Go.Proofs.Ytefjdmlmmoeoaaa
open Go.RowKit
set_option linter.unusedVariables false

/-- The cells of the k-th version, by their names. -/
theorem RdVr.cells1 {w : World} {B b o n c : Nat} {l : List Ver} (h : RdVr w B (.slice (some ⟨b, o, none⟩) n c) l) (k : Nat) (hk : k < l.length) {kk uu : ByteArray} {bb ee ss xx yy : Int} {gg : Bool} (e : l[k] = ⟨kk, bb, ee, ss, (xx, yy), uu, gg⟩) : b < B ∧
    w.cell? ⟨b, o + k * 8, none⟩ = some (.string kk) ∧ w.cell? ⟨b, o + k * 8 + 1, none⟩ = some (.int .i64 bb) ∧ w.cell? ⟨b, o + k * 8 + 2, none⟩ = some (.int .i64 ee) ∧ w.cell? ⟨b, o + k * 8 + 3, none⟩ = some (.int .i64 ss) ∧
    w.cell? ⟨b, o + k * 8 + 4, none⟩ = some (.int .i64 xx) ∧ w.cell? ⟨b, o + k * 8 + 5, none⟩ = some (.int .i64 yy) ∧ w.cell? ⟨b, o + k * 8 + 6, none⟩ = some (.string uu) ∧ w.cell? ⟨b, o + k * 8 + 7, none⟩ = some (.bool gg) := by
  obtain ⟨b', o', e2, hb, c0, c1, c2, c3, c4, c5, c6, c7⟩ := h.here k hk
  injection e2 with e2
  injection e2 with e3 e4
  subst e3 e4
  rw [e] at c0 c1 c2 c3 c4 c5 c6 c7
  exact ⟨hb, c0, c1, c2, c3, c4, c5, c6, c7⟩

set_option maxHeartbeats 8000000 in
set_option maxRecDepth 100000 in
/-- Versions that may be, at most so many. -/
theorem ref6_good (va : Value) (l : List Ver) (most : Int) (w : World) (ha : RdVr w w.heap.size va l) (hm : 0 ≤ most ∧ most ≤ 1000) :
    Calls Try.prog 26 #[va, .int .i64 most] w fun e w' => ∃ v' out, e = .returned v' ∧ OwnVr w' w.heap.size v' out ∧ (out.length : Int) ≤ most ∧ (∀ x ∈ out, mayV x = true) ∧ Below w.heap.size w w' := by
  have HA := Lib.hid ha
  obtain ⟨A, ca, rfl, hla, hca, -⟩ := ha
  go_enter Try.func26, Try.ntmps26
  go_wp2_with fail
  go_loopw [5, 6] (fun x i wr => ∃ (k : Nat) (acc : List Ver), i = .int .i64 k ∧ k ≤ l.length ∧ OwnVr wr w.heap.size x acc ∧ (acc.length : Int) ≤ most ∧ (∀ x ∈ acc, mayV x = true) ∧ Below w.heap.size w wr) (fun _ i _ => l.length - (intOf i).toNat)
  case atStart => exact ⟨0, [], rfl, Nat.zero_le _, OwnX.nil _ _, by simpa using hm.1, by simp, Below.refl _ _⟩
  case round =>
    obtain ⟨k, acc, rfl, hk, ho, hal, hmy, hbw⟩ := hrel
    have O := Lib.hid ho
    have HMY := Lib.hid hmy
    have G := Lib.hid hbw
    obtain ⟨OA, oc, eo, -⟩ := ho.rd
    subst eo
    clear ho hmy hbw
    by_cases hlt : k < l.length
    · have zl : decide ((k : Int) < (l.length : Int)) = true := by simp; omega
      by_cases hf : (acc.length : Int) < most
      · have zf : decide ((acc.length : Int) < most) = true := decide_eq_true hf
        obtain ⟨b, o, rfl, hbb, c0, c1, c2, c3, c4, c5, c6, c7⟩ := RdVr.here (HA.out.below G.out) k hlt
        have CV := Lib.hid (fun w => ref6_cut l[k] w)
        have MV := Lib.hid (fun w => ref6_may (cutV l[k]) w (Nat.le_trans (cut_key l[k]) (by decide)))
        generalize l[k] = p at *
        generalize cutV p = q at *
        obtain ⟨kk, bb, ee, ss, ⟨xx, yy⟩, uu, gg⟩ := p
        obtain ⟨kq, bq, eq, sq, ⟨xq, yq⟩, uq, gq⟩ := q
        unfold verV at CV MV
        simp only at CV MV c0 c1 c2 c3 c4 c5 c6 c7
        go_wp2_with fail
        refine (CV.out _).mono ?_
        rintro e w2 ⟨rfl, hb2⟩
        have G2 := Lib.hid ((G.out.trans (hb2.mono G.out.size)).alloc (Nat.le_trans G.out.size hb2.size) (.cells #[.string kq, .int .i64 bq, .int .i64 eq, .int .i64 sq, .int .i64 xq, .int .i64 yq, .string uq, .bool gq] 42))
        have O2 := Lib.hid ((O.out.on hb2).on (alloc_below w2 (.cells #[.string kq, .int .i64 bq, .int .i64 eq, .int .i64 sq, .int .i64 xq, .int .i64 yq, .string uq, .bool gq] 42)))
        have BX := Lib.hid (Box.new w2 #[.string kq, .int .i64 bq, .int .i64 eq, .int .i64 sq, .int .i64 xq, .int .i64 yq, .string uq, .bool gq] 42 _ rfl)
        clear hb2 c0 c1 c2 c3 c4 c5 c6 c7
        go_wp2_with fail
        refine (MV.out _).mono ?_
        rintro e w3 ⟨rfl, hb3⟩
        have G3 := Lib.hid (G2.out.trans (hb3.mono G2.out.size))
        have O3 := Lib.hid (O2.out.on hb3)
        have BX3 := Lib.hid (BX.out.later hb3)
        clear hb3 G2 O2 BX
        cases hmq : mayV ⟨kq, bq, eq, sq, (xq, yq), uq, gq⟩
        · clear hmq
          go_wp2_with fail
          go_roundw
          case rel => exact ⟨k + 1, acc, by go_num, by omega, O3.out, hal, HMY.out, G3.out⟩
          case measure => simp [intOf]; omega
        · have HMQ := Lib.hid hmq
          have c0 := BX3.out.cell 0 (.string kq) rfl
          have c1 := BX3.out.cell 1 (.int .i64 bq) rfl
          have c2 := BX3.out.cell 2 (.int .i64 eq) rfl
          have c3 := BX3.out.cell 3 (.int .i64 sq) rfl
          have c4 := BX3.out.cell 4 (.int .i64 xq) rfl
          have c5 := BX3.out.cell 5 (.int .i64 yq) rfl
          have c6 := BX3.out.cell 6 (.string uq) rfl
          have c7 := BX3.out.cell 7 (.bool gq) rfl
          have hal1 := Lib.hid (show acc.length + 1 ≤ 1000000000 from by omega)
          have hsz := Lib.hid G3.out.size
          clear hmq
          go_wp2_with (at_builtin; go_loud (refine wpl_appX rfl (.tmp 29) (.tmp 31) rfl Try.underlying22 ver_info rfl w.heap.size _ acc [(⟨kq, bq, eq, sq, (xq, yq), uq, gq⟩ : Ver)] _ _ _ rfl rfl rfl rfl O3.out hsz.out hal1.out (by decide) ?_); intro v3 w5 ho3 hg3 hb5)
          have O5 := Lib.hid ho3
          have G5 := Lib.hid (G3.out.trans hb5)
          have HAL5 := Lib.hid (show ((acc ++ [(⟨kq, bq, eq, sq, (xq, yq), uq, gq⟩ : Ver)]).length : Int) ≤ most from by rw [List.length_append, List.length_singleton]; omega)
          have HMY5 := Lib.hid (show ∀ x ∈ acc ++ [(⟨kq, bq, eq, sq, (xq, yq), uq, gq⟩ : Ver)], mayV x = true from fun x hx => by
            rcases List.mem_append.1 hx with hx | hx
            · exact HMY.out x hx
            · rw [List.mem_singleton.1 hx]; exact HMQ.out)
          clear ho3 hg3 hb5
          go_roundw
          case rel => exact ⟨k + 1, _, by go_num, by omega, O5.out, HAL5.out, HMY5.out, G5.out⟩
          case measure => simp [intOf]; omega
      · have zf : decide ((acc.length : Int) < most) = false := by rw [decide_eq_false_iff_not]; exact hf
        go_wp2_with fail
        go_ret
        exact ⟨_, rfl, acc, O.out, hal, HMY.out, G.out⟩
    · have zl : decide ((k : Int) < (l.length : Int)) = false := by rw [decide_eq_false_iff_not]; omega
      go_wp2_with fail
      go_ret
      first | exact ⟨_, rfl, acc, O.out, hal, HMY.out, G.out⟩ | exact ⟨_, acc, rfl, O.out, hal, HMY.out, G.out⟩
end Go.Proofs.Ytefjdmlmmoeoaaa
