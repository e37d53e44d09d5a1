/- Layer 11: branches that may be, made of any: by the document. -/
import Derived.Test.YtopiddlijlcbbaaQe
namespace Go.Proofs.Ytopiddlijlcbbaa
open Go.RowKit
set_option linter.unusedVariables false

/-- A number counted round. -/
def roundN (n : Int) (m : Nat) : Nat := (if n < 0 then -(n + 1) else n).toNat % m
theorem round_lt (n : Int) {m : Nat} (hm : 0 < m) : roundN n m < m := Nat.mod_lt _ hm
set_option maxHeartbeats 1000000 in
theorem ref_round (n : Int) (m : Nat) (hm : 0 < m) (hmm : m ≤ 1000) (hn : -9223372036854775808 ≤ n ∧ n ≤ 9223372036854775807) (w : World) :
    Calls Try.prog 28 #[.int .i64 n, .int .i64 (m : Int)] w fun z w' => z = .returned (.int .i64 ((roundN n m : Nat) : Int)) ∧ w' = w := by
  obtain ⟨p, hp⟩ : ∃ p : Nat, (n < 0 ∧ n = -((p : Int) + 1)) ∨ (0 ≤ n ∧ n = (p : Int)) := by
    rcases Int.lt_or_le n 0 with h | h
    · exact ⟨(-(n + 1)).toNat, .inl ⟨h, by omega⟩⟩
    · exact ⟨n.toNat, .inr ⟨h, by omega⟩⟩
  have hR : roundN n m = p % m := by
    unfold roundN
    rcases hp with ⟨h, e⟩ | ⟨h, e⟩
    · rw [if_pos h, e]; congr 1; omega
    · rw [if_neg (by omega), e]; congr 1
  rw [hR]
  have hq1 : (p : Int) % (m : Int) = ((p % m : Nat) : Int) := by rw [Int.natCast_emod]
  have hq2 : Int.tmod (p : Int) (m : Int) = ((p % m : Nat) : Int) := rfl
  have hz : ((m : Int) == 0) = false := by rw [beq_eq_false_iff_ne]; omega
  have hm1 : ((m : Int) == -1) = false := by rw [beq_eq_false_iff_ne]; omega
  clear hR
  generalize p % m = r at *
  rcases hp with ⟨hneg, hp⟩ | ⟨hneg, hp⟩
  case' inl =>
    subst hp
    have hnn : -(-((p : Int) + 1) + 1) = (p : Int) := by omega
    have zn : decide (-((p : Int) + 1) < 0) = true := by simp only [decide_eq_true_eq]; omega
    have wn : IntKind.i64.wrap (-((p : Int) + 1) + 1) = -((p : Int) + 1) + 1 := by rw [IntKind.wrap_i64]; omega
    have wm : IntKind.i64.wrap (p : Int) = (p : Int) := by rw [IntKind.wrap_i64]; omega
  case' inr =>
    subst hp
    have zn : decide ((p : Int) < 0) = false := by simp only [decide_eq_false_iff_not]; omega
  all_goals
    clear hneg hn
    go_enter Try.func28, Try.ntmps28
    go_wp2_with fail
    go_ret
    exact ⟨rfl, rfl⟩

def goodB (n : Nat) (b : Br) : Br := ⟨((roundN b.par n : Nat) : Int), ((roundN b.fork 12 : Nat) : Int), ((roundN b.floor 8 : Nat) : Int), b.drop⟩
def goodGo (out : List Br) : List Br → List Br
  | [] => out
  | b :: r => goodGo (out ++ [goodB out.length b]) r
def goodT (l : List Br) : List Br := goodGo [⟨-1, 0, 0, false⟩] (l.take 7)
theorem good_go : ∀ (l out : List Br), out ≠ [] → okFrom 0 out = true → okFrom 0 (goodGo out l) = true ∧ (goodGo out l).length = out.length + l.length
  | [], out, h, ho => ⟨ho, rfl⟩
  | b :: r, out, h, ho => by
    have hl : 0 < out.length := List.length_pos_iff.2 h
    have h1 := round_lt b.par hl
    have h2 := round_lt b.fork (show 0 < 12 by decide)
    have h3 := round_lt b.floor (show 0 < 8 by decide)
    have hb : brOk out.length (goodB out.length b) = true := by
      have e0 : (out.length == 0) = false := by rw [beq_eq_false_iff_ne]; omega
      have e1 : decide (((roundN b.floor 8 : Nat) : Int) < 0) = false := by rw [decide_eq_false_iff_not]; omega
      have e2 : decide (10000 < ((roundN b.floor 8 : Nat) : Int)) = false := by rw [decide_eq_false_iff_not]; omega
      have e3 : decide (((roundN b.fork 12 : Nat) : Int) < 0) = false := by rw [decide_eq_false_iff_not]; omega
      have e4 : decide (10000 < ((roundN b.fork 12 : Nat) : Int)) = false := by rw [decide_eq_false_iff_not]; omega
      have e5 : decide (((roundN b.par out.length : Nat) : Int) < 0) = false := by rw [decide_eq_false_iff_not]; omega
      have e6 : decide ((out.length : Int) ≤ ((roundN b.par out.length : Nat) : Int)) = false := by rw [decide_eq_false_iff_not]; omega
      unfold goodB brOk
      simp only [e0, e1, e2, e3, e4, e5, e6]
      simp
    have ho' : okFrom 0 (out ++ [goodB out.length b]) = true := by
      rw [okFrom_at] at ho ⊢
      intro i c hi
      rw [List.getElem?_append] at hi
      split at hi
      · exact ho i c hi
      · have := (List.getElem?_eq_some_iff.1 hi).1
        simp at this
        have hie : i = out.length := by omega
        subst hie
        simp at hi
        subst hi
        rw [Nat.zero_add]
        exact hb
    have := good_go r (out ++ [goodB out.length b]) (by simp) ho'
    refine ⟨this.1, ?_⟩
    rw [goodGo, this.2, List.length_append, List.length_singleton, List.length_cons]
    omega
theorem good_len (l : List Br) : 1 ≤ (goodT l).length ∧ (goodT l).length ≤ 8 := by
  have := (good_go (l.take 7) [⟨-1, 0, 0, false⟩] (by simp) (by decide)).2
  unfold goodT
  rw [this, List.length_singleton, List.length_take]
  omega
theorem good_may (l : List Br) : mayT (goodT l) = true := by
  have h1 := good_len l
  rw [may_mid h1.1 (by omega)]
  exact (good_go (l.take 7) [⟨-1, 0, 0, false⟩] (by simp) (by decide)).1
theorem br_info : (Try.prog.info? 37).map (fun i => (i.zero, i.size, i.bytes)) = some (some (.agg #[.int .i64 0, .int .i64 0, .int .i64 0, .bool false]), brL.sz, 32) := by kernel_rfl

/-- The numbers of branches are such. -/
def OkBr (l : List Br) : Prop := ∀ b ∈ l, (-9223372036854775808 ≤ b.par ∧ b.par ≤ 9223372036854775807) ∧ (-9223372036854775808 ≤ b.fork ∧ b.fork ≤ 9223372036854775807) ∧ (-9223372036854775808 ≤ b.floor ∧ b.floor ≤ 9223372036854775807)
set_option maxHeartbeats 4000000 in
set_option maxRecDepth 100000 in
theorem ref_good (va : Value) (l : List Br) (w : World) (ha : RdX brL w w.heap.size va l) (hok : OkBr l) :
    Calls Try.prog 23 #[va] w fun z w' => ∃ v', z = .returned v' ∧ OwnX brL 37 w' w.heap.size v' (goodT l) ∧ Below w.heap.size w w' := by
  have HA := Lib.hid ha
  have HO := Lib.hid hok
  have RN := Lib.hid ref_round
  obtain ⟨A, ca, rfl, hla, hca, -⟩ := ha
  have O0 := Lib.hid (OwnX.new (L := brL) (e := 37) w #[.int .i64 (-1), .int .i64 0, .int .i64 0, .bool false] [⟨-1, 0, 0, false⟩] 1 rfl rfl (by simp))
  have G0 := Lib.hid (alloc_below w (.cells #[.int .i64 (-1), .int .i64 0, .int .i64 0, .bool false] 37))
  clear hok hla hca
  go_enter Try.func23, Try.ntmps23
  go_wp2_with fail
  go_loopw [3, 4] (fun x i wr => ∃ (k : Nat) (r : List Br), i = .int .i64 k ∧ k ≤ l.length ∧ k ≤ 7 ∧ goodT l = goodGo r ((l.take 7).drop k) ∧ r.length = k + 1 ∧ OwnX brL 37 wr w.heap.size x r ∧ Below w.heap.size w wr) (fun _ i _ => l.length - (intOf i).toNat)
  case atStart => exact ⟨0, _, rfl, Nat.zero_le _, Nat.zero_le _, rfl, rfl, O0.out, G0.out⟩
  case round =>
    obtain ⟨k, r, rfl, hk, hk7, hR, hrl, ho, hbw⟩ := hrel
    rename World => wo
    have G := Lib.hid hbw
    have O := Lib.hid ho
    have HR := Lib.hid hR
    have HRL := Lib.hid hrl
    obtain ⟨A3, c3, ev3, -⟩ := ho.rd
    subst ev3
    clear hbw hR ho O0 G0
    by_cases hlt : k < l.length
    · have zl : decide ((k : Int) < (l.length : Int)) = true := by simp; omega
      have zln : decide (k < l.length) = true := by simp; omega
      by_cases h7 : k < 7
      · have z7 : decide ((k : Int) < 7) = true := by simp; omega
        have z7n : decide (k < 7) = true := by simp; omega
        have hki : (k : Int) < (l.length : Int) := by omega
        obtain ⟨x, hx⟩ : ∃ x, l[k] = x := ⟨_, rfl⟩
        have HXO := Lib.hid (HO.out x (by rw [← hx]; exact List.getElem_mem hlt))
        obtain ⟨p, f, q, d⟩ := x
        obtain ⟨bb, o, rfl, -, e0, e1, e2, e3⟩ := RdX.br (HA.out.below G.out) k hlt hx
        have HN := Lib.hid (show goodT l = goodGo (r ++ [goodB r.length ⟨p, f, q, d⟩]) ((l.take 7).drop (k + 1)) from by
          have hk2 : k < (l.take 7).length := by rw [List.length_take]; omega
          rw [HR.out, List.drop_eq_getElem_cons hk2, goodGo, List.getElem_take, hx])
        have K1 := Lib.hid (RN.out p r.length (by omega) (by omega) HXO.out.1)
        have K2 := Lib.hid (RN.out f 12 (by decide) (by decide) HXO.out.2.1)
        have K3 := Lib.hid (RN.out q 8 (by decide) (by decide) HXO.out.2.2)
        unfold goodB at HN
        simp only at HN
        generalize roundN p r.length = P at *
        generalize roundN f 12 = F at *
        generalize roundN q 8 = Q at *
        clear hx hrl HXO
        have K2 := Lib.hid (show ∀ w, Calls Try.prog 28 #[.int .i64 f, .int .i64 12] w _ from K2.out)
        have K3 := Lib.hid (show ∀ w, Calls Try.prog 28 #[.int .i64 q, .int .i64 8] w _ from K3.out)
        go_wp2_with fail
        refine (K1.out _).mono ?_
        rintro z w1 ⟨rfl, rfl⟩
        go_wp2_with fail
        refine (K2.out _).mono ?_
        rintro z w1 ⟨rfl, rfl⟩
        go_wp2_with fail
        refine (K3.out _).mono ?_
        rintro z w1 ⟨rfl, rfl⟩
        have hb1 := alloc_below wo (.cells #[.int .i64 (P : Int), .int .i64 (F : Int), .int .i64 q, .bool d] 37)
        have BX := Lib.hid (Box.new wo #[.int .i64 (P : Int), .int .i64 (F : Int), .int .i64 q, .bool d] 37 wo.heap.size rfl)
        have GS := Lib.hid G.out.size
        have HV := Lib.hid (show ∀ n, (Value.slice A3 r.length c3).ownBlock = some n → n ≠ wo.heap.size from fun n hn => by have := (O.out.lt n hn).2; omega)
        have O := Lib.hid (O.out.on hb1)
        have G := Lib.hid (G.out.trans (hb1.mono G.out.size))
        clear hb1 K1 K2 K3
        generalize wo.alloc (.cells #[.int .i64 (P : Int), .int .i64 (F : Int), .int .i64 q, .bool d] 37) = W1 at *
        have HSZ := Lib.hid (show (W1.setCell ⟨wo.heap.size, 2, none⟩ (.int .i64 (Q : Int))).heap.size = W1.heap.size from by simp [World.setCell])
        have z2 := BX.out.cell 2 (.int .i64 q) rfl
        have f2 := BX.out.frozen 2
        have y0 := (BX.out.set 2 (.int .i64 (Q : Int))).cell 0 (.int .i64 (P : Int)) rfl
        have y1 := (BX.out.set 2 (.int .i64 (Q : Int))).cell 1 (.int .i64 (F : Int)) rfl
        have y2 := (BX.out.set 2 (.int .i64 (Q : Int))).cell 2 (.int .i64 (Q : Int)) rfl
        have y3 := (BX.out.set 2 (.int .i64 (Q : Int))).cell 3 (.bool d) rfl
        have O := Lib.hid (O.out.apart (n := wo.heap.size) (w' := W1.setCell ⟨wo.heap.size, 2, none⟩ (.int .i64 (Q : Int))) (fun i hi _ => Below.heap_setCell W1 _ _ i hi) (fun e => HV.out _ e rfl))
        have G := Lib.hid (G.out.setCell (p := ⟨wo.heap.size, 2, none⟩) GS.out (.int .i64 (Q : Int)))
        go_wp2_with (at_builtin; refine wpl_appX (L := brL) rfl (.tmp 36) (.tmp 38) rfl Try.underlying22 br_info rfl w.heap.size _ r [(⟨(P : Int), (F : Int), (Q : Int), d⟩ : Br)] _ 1 1 rfl rfl (by rw [HSZ.out]; rfl) rfl O.out G.out.size (by rw [List.length_singleton]; have := HRL.out; omega) (by decide) ?_; intro v5 w5 ho5 hg5 hb5)
        have OZ := Lib.hid ho5
        have GZ := Lib.hid (G.out.trans hb5)
        clear ho5 hg5 hb5
        go_roundw
        case rel => exact ⟨k + 1, _, by go_num, by omega, by omega, HN.out, by rw [List.length_append, List.length_singleton]; have := HRL.out; omega, OZ.out, GZ.out⟩
        case measure => simp [intOf]; omega
      · have z7 : decide ((k : Int) < 7) = false := by rw [decide_eq_false_iff_not]; omega
        have z7n : decide (k < 7) = false := by rw [decide_eq_false_iff_not]; omega
        have HN := Lib.hid (show goodT l = r from by rw [HR.out, List.drop_eq_nil_of_le (by rw [List.length_take]; omega)]; rfl)
        clear h7 hlt
        go_wp2_with fail
        go_ret
        exact ⟨_, rfl, by rw [HN.out]; exact O.out, G.out⟩
    · have hkl : k = l.length := by omega
      have zl : decide ((k : Int) < (l.length : Int)) = false := by rw [decide_eq_false_iff_not]; omega
      have zln : decide (k < l.length) = false := by rw [decide_eq_false_iff_not]; omega
      have HN := Lib.hid (show goodT l = r from by rw [HR.out, List.drop_eq_nil_of_le (by rw [List.length_take]; omega)]; rfl)
      clear hlt hkl
      go_wp2_with fail
      go_ret
      exact ⟨_, rfl, by rw [HN.out]; exact O.out, G.out⟩
end Go.Proofs.Ytopiddlijlcbbaa
