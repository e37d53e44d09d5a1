/- Layer 14: the state, by the project: pieces put one over the other. -/
import Derived.Test.YtlpakooogbaclaaYc
import Derived.Test.YtlpakooogbaclaaGi
import Derived.Test.YtlpakooogbaclaaPf
import Derived.Test.YtlpakooogbaclaaPh
import Derived.Test.YtlpakooogbaclaaPi
namespace Go.Proofs.Ytlpakooogbaclaa
open Go.RowKit
set_option linter.unusedVariables false

theorem minus_away {a b : Sp} (h : b.2 ≤ a.1) : (minusF a b).length ≤ 1 := by
  unfold minusF
  split
  · rw [if_neg (by omega)]; simp
  · simp
theorem without_away (s : Sp) : ∀ {l : List Pc}, (∀ p ∈ l, s.2 ≤ p.1.1) → (l.flatMap fun p => (minusF p.1 s).map fun m => (m, p.2)).length ≤ l.length
  | [], _ => Nat.le_refl _
  | p :: r, h => by
    rw [List.flatMap_cons, List.length_append, List.length_map, List.length_cons]
    have h1 := minus_away (h p List.mem_cons_self)
    have h2 := without_away s fun q hq => h q (List.mem_cons_of_mem _ hq)
    omega
theorem without_ord (s : Sp) : ∀ {l : List Pc}, ordB l = true → (withoutF l s).length ≤ l.length + 1 := by
  intro l h
  unfold withoutF
  split
  · have h2 := ((ordB_iff l).1 h).2
    clear h
    induction l with
    | nil => simp
    | cons p r ih =>
      rw [List.flatMap_cons, List.length_append, List.length_map, List.length_cons]
      have h3 := List.pairwise_cons.1 h2
      rcases Nat.lt_or_ge 1 (minusF p.1 s).length with h4 | h4
      · have h5 := minus_len p.1 s
        have h6 : s.2 ≤ p.1.2 := by
          unfold minusF at h4
          split at h4
          · split at h4
            · by_cases h7 : s.2 < p.1.2
              · omega
              · rw [if_neg h7] at h4
                split at h4 <;> simp at h4
            · simp at h4
          · simp at h4
        have h8 := without_away s (l := r) fun q hq => Int.le_trans h6 (h3.1 q hq)
        omega
      · have := ih h3.2
        omega
  · omega
theorem stack_len (o : List Ver) : (stackV o).length ≤ 2 * o.length := snoc_ind (P := fun o => (stackV o).length ≤ 2 * o.length) (Nat.zero_le _) (fun l v h => by
  rw [stack_snoc, List.length_append, List.length_singleton]
  unfold putV
  have h1 := ord_stack l
  split
  · have := without_ord v.sp h1; omega
  · unfold overF
    split
    · rw [ins_len]; show (withoutF (stackV l) v.sp).length + 1 ≤ _; have := without_ord v.sp h1; omega
    · omega) o
theorem stack_step {o : List Ver} {k : Nat} (h : k < o.length) : stackV (o.take (k + 1)) = putV (stackV (o.take k)) o[k] := by
  rw [List.take_succ_eq_append_getElem h, stack_snoc]

set_option maxHeartbeats 4000000 in
set_option maxRecDepth 100000 in
theorem p_state (w : World) (va vp : Value) (l : List Ver) (p : List (Int × Int)) (ha : RdVr w w.heap.size va l) (hp : RdX lgL w w.heap.size vp p) (hl : l.length ≤ 20) (hpl : p.length ≤ 1000) :
    Calls Try.prog 18 #[va, vp] w fun z w' => ∃ v', z = .returned v' ∧ OwnPc w' w.heap.size v' (stateV (orderV l p)) ∧ Below w.heap.size w w' := by
  have OR := Lib.hid (p_order w va vp l p ha hp hl hpl)
  have OL := Lib.hid (show (orderV l p).length ≤ 20 from Nat.le_trans (order_len l p) hl)
  obtain ⟨A, ca, rfl, -⟩ := ha
  obtain ⟨Ap, cp, rfl, -⟩ := hp
  obtain ⟨o, ho⟩ : ∃ o, orderV l p = o := ⟨_, rfl⟩
  rw [ho] at OR OL ⊢
  clear hl hpl ho
  go_enter Try.func18, Try.ntmps18
  go_wp2_with fail
  refine (OR.out).mono ?_
  rintro z w1 ⟨v1, rfl, ho1, hb1⟩
  have O1 := Lib.hid ho1
  have G1 := Lib.hid hb1
  obtain ⟨OA, oc, rfl, -⟩ := ho1.rd
  clear ho1 hb1 OR
  go_wp2_with fail
  go_loopw [5, 12] (fun x i wr => ∃ k : Nat, i = .int .i64 k ∧ k ≤ o.length ∧ OwnPc wr w.heap.size x (stackV (o.take k)) ∧ Below w1.heap.size w1 wr) (fun _ i _ => o.length - (intOf i).toNat)
  case atStart => exact ⟨0, rfl, Nat.zero_le _, OwnX.nil _ _, Below.refl _ _⟩
  case round =>
    obtain ⟨k, rfl, hk, hon, hbw⟩ := hrel
    rename World => wo
    have OS := Lib.hid hon
    have G := Lib.hid hbw
    have SL := Lib.hid (show (stackV (o.take k)).length ≤ 40 from by
      have := stack_len (o.take k)
      rw [List.length_take] at this
      have := OL.out
      omega)
    obtain ⟨SA, sc, rfl, -⟩ := hon.rd
    clear hon hbw
    by_cases hlt : k < o.length
    · have zl : decide ((k : Int) < (o.length : Int)) = true := by rw [decide_eq_true_eq]; omega
      have hki : (k : Int) < (o.length : Int) := by omega
      have hw64 : IntKind.i64.wrap ((k : Int) + 1) = (k : Int) + 1 := by rw [IntKind.wrap_i64]; have := OL.out; omega
      have SS := Lib.hid (stack_step hlt)
      obtain ⟨b, oo, rfl, hbb, c0, c1, c2, c3, c4, c5, c6, c7⟩ := RdVr.here (O1.out.on G.out).rd k hlt
      obtain ⟨st, hst⟩ : ∃ st, stackV (o.take k) = st := ⟨_, rfl⟩
      rw [hst] at OS SL SS
      obtain ⟨q, hq⟩ : ∃ q, (o[k]'hlt) = q := ⟨_, rfl⟩
      rw [hq] at SS c0 c1 c2 c3 c4 c5 c6 c7
      have HK := Lib.hid hlt
      rw [hst]
      clear hq hbb hst
      obtain ⟨kk, bb, ee, ss, ⟨xx, yy⟩, uu, gg⟩ := q
      simp only at c0 c1 c2 c3 c4 c5 c6 c7
      have BN := Lib.hid (Box.new wo #[.string kk, .int .i64 bb, .int .i64 ee, .int .i64 ss, .int .i64 xx, .int .i64 yy, .string uu, .bool gg] 50 _ rfl)
      have GN := Lib.hid (alloc_below wo (.cells #[.string kk, .int .i64 bb, .int .i64 ee, .int .i64 ss, .int .i64 xx, .int .i64 yy, .string uu, .bool gg] 50))
      have OW := Lib.hid (fun W h => p_without (.slice SA st.length sc) st (xx, yy) W h (Nat.le_trans SL.out (by decide)))
      have OV := Lib.hid (fun W h => p_over (.slice SA st.length sc) st ((xx, yy), uu) W h (Nat.le_trans SL.out (by decide)))
      unfold spV at OW
      unfold pcV at OV
      simp only at OW OV
      have OS0 := Lib.hid (OS.out.on GN.out).rd
      have G2 := Lib.hid (G.out.trans (GN.out.mono G.out.size))
      cases gg
      · have SN := Lib.hid (show stackV (o.take (k + 1)) = overF st ((xx, yy), uu) from SS.out)
        go_wp2_with fail
        refine (OV.out _ OS0.out).mono ?_
        rintro z w3 ⟨v3, rfl, ho3, hb3⟩
        have G3 := Lib.hid (G2.out.trans (hb3.mono G2.out.size))
        have O3 := Lib.hid (ho3.mono (show w.heap.size ≤ _ from Nat.le_trans G1.out.size G2.out.size))
        clear ho3 hb3 c0 c1 c2 c3 c4 c5 c6 c7
        go_wp2_with fail
        go_roundw
        case rel => exact ⟨k + 1, by go_num, HK.out, by rw [SN.out]; exact O3.out, G3.out⟩
        case measure => have := HK.out; simp [intOf]; omega
      · have SN := Lib.hid (show stackV (o.take (k + 1)) = withoutF st (xx, yy) from SS.out)
        go_wp2_with fail
        refine (OW.out _ OS0.out).mono ?_
        rintro z w3 ⟨v3, rfl, ho3, hb3⟩
        have G3 := Lib.hid (G2.out.trans (hb3.mono G2.out.size))
        have O3 := Lib.hid (ho3.mono (show w.heap.size ≤ _ from Nat.le_trans G1.out.size G2.out.size))
        clear ho3 hb3 c0 c1 c2 c3 c4 c5 c6 c7
        go_wp2_with fail
        go_roundw
        case rel => exact ⟨k + 1, by go_num, HK.out, by rw [SN.out]; exact O3.out, G3.out⟩
        case measure => have := HK.out; simp [intOf]; omega
    · obtain rfl : k = o.length := by omega
      have zl : decide ((o.length : Int) < (o.length : Int)) = false := by simp
      rw [List.take_length] at OS SL ⊢
      have LS := Lib.hid (p_least _ _ wo OS.out.rd (by have := SL.out; omega))
      have G2 := Lib.hid (G1.out.trans (G.out.mono G1.out.size))
      clear hlt
      go_wp2_with fail
      refine (LS.out).mono ?_
      rintro z w2 ⟨v2, rfl, ho2, hb2⟩
      have O2 := Lib.hid (show OwnPc w2 w.heap.size v2 (stateV o) from ho2.mono G2.out.size)
      have G3 := Lib.hid (G2.out.trans (hb2.mono G2.out.size))
      clear ho2 hb2
      go_wp2_with fail
      go_ret
      exact ⟨_, rfl, O2.out, G3.out⟩
end Go.Proofs.Ytlpakooogbaclaa
