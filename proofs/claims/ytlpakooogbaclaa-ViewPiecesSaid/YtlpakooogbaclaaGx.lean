/- Layer 14: versions sorted stably (slices.SortStableFunc of at most 20). -/
import Derived.Test.YtlpakooogbaclaaGw
namespace Go.Proofs.Ytlpakooogbaclaa
open Go.RowKit
set_option linter.unusedVariables false

theorem p_insNone (A : Option Addr) (m cap n fa : Nat) (la : Array Value) (w : World) (hn : n ≤ 1000) :
    Calls Try.prog 72 #[.slice A m cap, .int .i64 n, .int .i64 n, .func (.func fa) #[] la] w fun z w' => (∃ v, z = .returned v) ∧ w' = w := by
  have hw64 : IntKind.i64.wrap ((n : Int) + 1) = (n : Int) + 1 := by rw [IntKind.wrap_i64]; omega
  go_enter Try.func72, Try.ntmps72
  go_wp2_with fail
  go_loopw [8] (fun x wr => x = .int .i64 ((n : Int) + 1) ∧ wr = w) (fun x _ => 0)
  case atStart => exact ⟨rfl, rfl⟩
  case round =>
    obtain ⟨rfl, rfl⟩ := hrel
    have zl : decide ((n : Int) + 1 < (n : Int)) = false := by rw [decide_eq_false_iff_not]; omega
    go_wp2_with fail
    refine bodyPost_end (v := .tuple #[]) (results_none rfl _ _ _) rfl ?_
    exact ⟨⟨_, rfl⟩, rfl⟩

set_option maxHeartbeats 4000000 in
set_option maxRecDepth 100000 in
theorem p_stable (va : Value) (base : Nat) (l : List Ver) (fa : Nat) (la : Array Value) (c : Ver → Ver → Int) (A : World → Prop) (eg : ∀ args w, (callFunc fa args).run Try.prog w = .ok (.enter fa args) w) (hAsk : AsksC fa la c A)
    (w : World) (hAw : ∀ W, w.grownBy W va.ownBlock → A W) (ho : OwnVr w base va l) (hl : l.length ≤ 20) :
    Calls Try.prog 56 #[va, .int .i64 l.length, .func (.func fa) #[] la] w fun z w' => (∃ v, z = .returned v) ∧ OwnVr w' base va (sortR (ltC c) l) ∧ w.grownBy w' va.ownBlock := by
  have INS := Lib.hid (show 0 < l.length → ∀ (a b : Int), a = 0 → b = l.length → Calls Try.prog 72 #[va, .int .i64 a, .int .i64 b, .func (.func fa) #[] la] w fun z w' => (∃ v, z = .returned v) ∧ OwnVr w' base va (sortR (ltC c) l) ∧ w.grownBy w' va.ownBlock from fun hp a b ha hb => by
    subst ha hb
    obtain ⟨g, cap, rfl, -, -⟩ := ho.pos hp
    exact p_insSort g cap base l fa la c A eg hAsk w hAw ho (by omega))
  have NON := Lib.hid (show ∀ (n : Nat) (W : World), n ≤ 1000 → Calls Try.prog 72 #[va, .int .i64 n, .int .i64 n, .func (.func fa) #[] la] W fun z w' => (∃ v, z = .returned v) ∧ w' = W from fun n W hn => by
    obtain ⟨A1, c1, rfl, -⟩ := ho.rd
    exact p_insNone A1 l.length c1 n fa la W hn)
  have O := Lib.hid ho
  obtain ⟨A1, c1, rfl, -⟩ := ho.rd
  have HL := Lib.hid hl
  clear ho hAw hAsk
  obtain ⟨n, hn⟩ : ∃ n, l.length = n := ⟨_, rfl⟩
  have HN := Lib.hid hn
  rw [hn] at INS HL O ⊢
  rw [hn] at NON
  clear hn hl
  go_enter Try.func56, Try.ntmps56
  go_wp2_with fail
  go_loopw [7, 8] (fun x y wr => (x = .int .i64 0 ∧ y = .int .i64 20 ∧ wr = w) ∨ (x = .int .i64 20 ∧ y = .int .i64 40 ∧ n = 20 ∧ OwnVr wr base (.slice A1 n c1) (sortR (ltC c) l) ∧ w.grownBy wr (Value.slice A1 n c1).ownBlock)) (fun _ y _ => 40 - (intOf y).toNat)
  case atStart => exact .inl ⟨rfl, rfl, rfl⟩
  case round =>
    have hn20 := HL.out
    rcases hrel with ⟨rfl, rfl, rfl⟩ | ⟨rfl, rfl, h20, hs, hg⟩
    · by_cases h20 : n = 20
      · have zl : decide ((20 : Int) ≤ (n : Int)) = true := by simp; omega
        have INS := Lib.hid (INS.out (by omega) 0 20 rfl (by omega))
        have H20 := Lib.hid h20
        clear h20 hn20
        go_wp2_with fail
        refine INS.out.mono ?_
        rintro z w1 ⟨⟨v, rfl⟩, hs, hg⟩
        have S1 := Lib.hid hs
        have G1 := Lib.hid hg
        clear hs hg
        go_wp2_with fail
        go_roundw
        case rel => exact .inr ⟨rfl, rfl, H20.out, S1.out, G1.out⟩
        case measure => simp [intOf]
      · have zl : decide ((20 : Int) ≤ (n : Int)) = false := by rw [decide_eq_false_iff_not]; omega
        have zm : decide ((20 : Int) < (n : Int)) = false := by rw [decide_eq_false_iff_not]; omega
        rename World => wo
        have h20' := h20
        have H20 := Lib.hid h20
        have HNL := Lib.hid hn20
        clear h20 h20' hn20
        go_wp2_with fail
        by_cases hz : n = 0
        · have HZ := Lib.hid hz
          subst hz
          have NN := Lib.hid (NON.out 0 wo (by omega))
          refine NN.out.mono ?_
          rintro z w1 ⟨⟨v, rfl⟩, rfl⟩
          have HL0 := Lib.hid (show l = [] from List.eq_nil_of_length_eq_zero HN.out)
          have SO := Lib.hid (show OwnVr w1 base (.slice A1 0 c1) (sortR (ltC c) l) from by rw [HL0.out]; have := O.out; rw [HL0.out] at this; exact this)
          go_wp2_with fail
          go_loopw [6] (fun x wr => x = .int .i64 20 ∧ wr = w1) (fun _ _ => 0)
          case atStart => exact ⟨rfl, rfl⟩
          case round =>
            obtain ⟨rfl, rfl⟩ := hrel
            go_wp2_with fail
            refine bodyPost_end (v := .tuple #[]) (results_none rfl _ _ _) rfl ?_
            exact ⟨⟨_, rfl⟩, SO.out, World.grownBy.refl _ _⟩
        · have INS := Lib.hid (INS.out (by omega) 0 n rfl rfl)
          clear hz
          refine INS.out.mono ?_
          rintro z w1 ⟨⟨v, rfl⟩, hs, hg⟩
          have S1 := Lib.hid hs
          have G1 := Lib.hid hg
          clear hs hg
          go_wp2_with fail
          go_loopw [6] (fun x wr => x = .int .i64 20 ∧ wr = w1) (fun _ _ => 0)
          case atStart => exact ⟨rfl, rfl⟩
          case round =>
            obtain ⟨rfl, rfl⟩ := hrel
            go_wp2_with fail
            refine bodyPost_end (v := .tuple #[]) (results_none rfl _ _ _) rfl ?_
            exact ⟨⟨_, rfl⟩, S1.out, G1.out⟩
    · have zl : decide ((40 : Int) ≤ (n : Int)) = false := by rw [decide_eq_false_iff_not]; omega
      have zm : decide ((20 : Int) < (n : Int)) = false := by rw [decide_eq_false_iff_not]; omega
      rename World => wo
      have S1 := Lib.hid hs
      have G1 := Lib.hid hg
      have NN := Lib.hid (show Calls Try.prog 72 #[.slice A1 n c1, .int .i64 20, .int .i64 n, .func (.func fa) #[] la] wo fun z w' => (∃ v, z = .returned v) ∧ w' = wo from by
        have := NON.out 20 wo (by omega)
        rw [h20]
        rw [h20] at this
        exact this)
      have H20 := Lib.hid h20
      clear hs hg h20 hn20
      go_wp2_with fail
      refine NN.out.mono ?_
      rintro z w1 ⟨⟨v, rfl⟩, rfl⟩
      go_wp2_with fail
      go_loopw [6] (fun x wr => x = .int .i64 20 ∧ wr = w1) (fun _ _ => 0)
      case atStart => exact ⟨rfl, rfl⟩
      case round =>
        obtain ⟨rfl, rfl⟩ := hrel
        go_wp2_with fail
        refine bodyPost_end (v := .tuple #[]) (results_none rfl _ _ _) rfl ?_
        exact ⟨⟨_, rfl⟩, S1.out, G1.out⟩

theorem p_sortStable (va : Value) (base : Nat) (l : List Ver) (fa : Nat) (la : Array Value) (c : Ver → Ver → Int) (A : World → Prop) (eg : ∀ args w, (callFunc fa args).run Try.prog w = .ok (.enter fa args) w) (hAsk : AsksC fa la c A)
    (w : World) (hAw : ∀ W, w.grownBy W va.ownBlock → A W) (ho : OwnVr w base va l) (hl : l.length ≤ 20) :
    Calls Try.prog 31 #[va, .func (.func fa) #[] la] w fun z w' => (∃ v, z = .returned v) ∧ OwnVr w' base va (sortR (ltC c) l) ∧ w.grownBy w' va.ownBlock := by
  have ST := Lib.hid (p_stable va base l fa la c A eg hAsk w hAw ho hl)
  obtain ⟨A1, c1, rfl, -⟩ := ho.rd
  clear ho hAw hAsk hl
  go_enter Try.func31, Try.ntmps31
  go_wp2_with fail
  refine ST.out.mono ?_
  rintro z w1 ⟨⟨v, rfl⟩, hs, hg⟩
  have S1 := Lib.hid hs
  have G1 := Lib.hid hg
  clear hs hg
  go_wp2_with fail
  refine bodyPost_end (v := .tuple #[]) (results_none rfl _ _ _) rfl ?_
  exact ⟨⟨_, rfl⟩, S1.out, G1.out⟩
end Go.Proofs.Ytlpakooogbaclaa
