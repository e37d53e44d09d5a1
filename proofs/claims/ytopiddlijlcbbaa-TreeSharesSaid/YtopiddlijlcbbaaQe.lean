/- Layer 11: the nearest branch of two; branches that may be, made of any: by the document. -/
import Derived.Test.YtopiddlijlcbbaaQd
namespace Go.Proofs.Ytopiddlijlcbbaa
open Go.RowKit
set_option linter.unusedVariables false

theorem first_drop {p : List (Int × Int)} {i : Nat} (hi : i < p.length) {x y : Int} (hx : p[i] = (x, y)) (q : List (Int × Int)) : firstIn q (p.drop i) = if q.any (fun o => o.1 == x) = true then x else firstIn q (p.drop (i + 1)) := by
  rw [List.drop_eq_getElem_cons hi, firstIn, hx]
theorem any_drop {q : List (Int × Int)} {k : Nat} (hk : k < q.length) {x y : Int} (hx : q[k] = (x, y)) (z : Int) : (q.drop k).any (fun o => o.1 == z) = ((x == z) || (q.drop (k + 1)).any (fun o => o.1 == z)) := by
  rw [List.drop_eq_getElem_cons hk, List.any_cons, hx]
set_option maxHeartbeats 4000000 in
set_option maxRecDepth 100000 in
theorem ref_common (va : Value) (l : List Br) (a b : Int) (w : World) (ha : RdX brL w w.heap.size va l) :
    Calls Try.prog 22 #[va, .int .i64 a, .int .i64 b] w fun z w' => z = .returned (.int .i64 (commonT l a b)) ∧ Below w.heap.size w w' := by
  have HA := Lib.hid ha
  have PA := Lib.hid (ref_path (a.toNat + 1) va l a 0 w (Nat.lt_succ_self _) ha)
  have PL := Lib.hid (path_few l a 0)
  have QL := Lib.hid (path_few l b 0)
  have HC := Lib.hid (show commonT l a b = firstIn (pathT l b 0) (pathT l a 0) from rfl)
  have PB := Lib.hid (fun w h => ref_path (b.toNat + 1) va l b 0 w (Nat.lt_succ_self _) h)
  generalize pathT l a 0 = p at *
  generalize pathT l b 0 = q at *
  generalize commonT l a b = R at *
  obtain ⟨A, ca, rfl, -⟩ := ha
  go_enter Try.func22, Try.ntmps22
  go_wp2_with fail
  refine PA.out.mono ?_
  rintro z w1 ⟨v1, rfl, ho1, hb1⟩
  have O1 := Lib.hid ho1.rd
  have G := Lib.hid hb1
  obtain ⟨A1, c1, ev1, -⟩ := ho1.rd
  subst ev1
  clear ho1 hb1 PA
  go_wp2_with fail
  refine (PB.out _ ((HA.out.below G.out).more G.out.size)).mono ?_
  rintro z w2 ⟨v2, rfl, ho2, hb2⟩
  have O1 := Lib.hid (O1.out.on hb2)
  have O2 := Lib.hid ho2.rd
  have G := Lib.hid (G.out.trans (hb2.mono G.out.size))
  obtain ⟨A2, c2, ev2, -⟩ := ho2.rd
  subst ev2
  clear ho2 hb2 PB
  go_wp2_with fail
  go_loopw [9] (fun i wr => ∃ j : Nat, i = .int .i64 j ∧ j ≤ p.length ∧ R = firstIn q (p.drop j) ∧ Below w2.heap.size w2 wr) (fun i _ => p.length - (intOf i).toNat)
  case atStart => exact ⟨0, rfl, Nat.zero_le _, by rw [List.drop_zero]; exact HC.out, Below.refl _ _⟩
  case round =>
    obtain ⟨j, rfl, hj, hR, hbw⟩ := hrel
    rename World => wo
    have GW := Lib.hid hbw
    have HR := Lib.hid hR
    clear hbw hR HC
    by_cases hlt : j < p.length
    · have zl : decide ((j : Int) < (p.length : Int)) = true := by simp; omega
      have hji : (j : Int) < (p.length : Int) := by omega
      have hw64 : IntKind.i64.wrap ((j : Int) + 1) = (j : Int) + 1 := by rw [IntKind.wrap_i64]; have := PL.out; omega
      obtain ⟨g, hg⟩ : ∃ g, p[j] = g := ⟨_, rfl⟩
      obtain ⟨x, y⟩ := g
      have HS := Lib.hid (first_drop hlt hg q)
      have HG := Lib.hid hg
      obtain ⟨bb, o, rfl, -, -, -⟩ := RdX.lg O1.out j hlt hg
      have HLT := Lib.hid hlt
      clear hg
      go_wp2_with fail
      go_loopw [10] (fun i wr => ∃ k : Nat, i = .int .i64 k ∧ k ≤ q.length ∧ (q.any fun o => o.1 == x) = ((q.drop k).any fun o => o.1 == x) ∧ Below w2.heap.size w2 wr) (fun i _ => q.length - (intOf i).toNat)
      case atStart => exact ⟨0, rfl, Nat.zero_le _, by rw [List.drop_zero], GW.out⟩
      case round =>
        obtain ⟨k, rfl, hk, hA, hbw⟩ := hrel
        rename World => wi
        have GI := Lib.hid hbw
        have HQ := Lib.hid hA
        clear hbw hA GW
        by_cases hkt : k < q.length
        · have zk : decide ((k : Int) < (q.length : Int)) = true := by simp; omega
          have hki : (k : Int) < (q.length : Int) := by omega
          have hk64 : IntKind.i64.wrap ((k : Int) + 1) = (k : Int) + 1 := by rw [IntKind.wrap_i64]; have := QL.out; omega
          obtain ⟨g, hg⟩ : ∃ g, q[k] = g := ⟨_, rfl⟩
          obtain ⟨u, v⟩ := g
          have HD := Lib.hid (any_drop hkt hg x)
          obtain ⟨b2, o2, rfl, -, d0, d1⟩ := RdX.lg (O2.out.below GI.out) k hkt hg
          obtain ⟨b3, o3, he3, -, e0, e1⟩ := RdX.lg (O1.out.below GI.out) j HLT.out HG.out
          cases he3
          clear hg
          cases c1 : (u == x)
          · have c2 : (x == u) = false := by rw [beq_eq_false_iff_ne] at c1 ⊢; exact fun e => c1 e.symm
            have HN := Lib.hid (show (q.any fun o => o.1 == x) = ((q.drop (k + 1)).any fun o => o.1 == x) from by rw [HQ.out, HD.out, c1]; rfl)
            clear HQ HD
            go_wp2_with fail
            go_quiet (fail)
            have GI := Lib.hid (GI.out.drewN nq)
            go_wp2_with fail
            go_roundw
            case rel => exact ⟨k + 1, by go_num, by omega, HN.out, GI.out⟩
            case measure => simp [intOf]; omega
          · have c2 : (x == u) = true := by rw [beq_iff_eq] at c1 ⊢; exact c1.symm
            have HN := Lib.hid (show R = x from by rw [HR.out, HS.out, HQ.out, HD.out, c1]; rfl)
            clear HQ HD HS HR
            go_wp2_with fail
            go_quiet (fail)
            have GI := Lib.hid (GI.out.drewN nq)
            obtain ⟨b3, o3, he3, -, e0, e1⟩ := RdX.lg (O1.out.below GI.out) j HLT.out HG.out
            cases he3
            clear d0 d1
            go_wp2_with fail
            go_ret
            exact ⟨ret_int HN.out.symm, G.out.trans (GI.out.mono G.out.size)⟩
        · have hkl : k = q.length := by omega
          subst hkl
          have HN := Lib.hid (show R = firstIn q (p.drop (j + 1)) from by rw [HR.out, HS.out, HQ.out, List.drop_length]; rfl)
          have zk : decide ((q.length : Int) < (q.length : Int)) = false := by simp
          clear hkt HQ HS HR
          go_wp2_with fail
          go_roundw
          case rel => exact ⟨j + 1, by go_num, by omega, HN.out, GI.out⟩
          case measure => simp [intOf]; omega
    · have hjl : j = p.length := by omega
      subst hjl
      have HN := Lib.hid (show R = -1 from by rw [HR.out, List.drop_length]; rfl)
      have zl : decide ((p.length : Int) < (p.length : Int)) = false := by simp
      clear hlt
      go_wp2_with fail
      go_ret
      exact ⟨ret_int HN.out.symm, G.out.trans (GW.out.mono G.out.size)⟩
end Go.Proofs.Ytopiddlijlcbbaa
