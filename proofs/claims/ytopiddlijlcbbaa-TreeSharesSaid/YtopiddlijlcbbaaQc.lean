/- Layer 11: a branch's path, by the document. -/
import Derived.Test.YtopiddlijlcbbaaQb
namespace Go.Proofs.Ytopiddlijlcbbaa
open Go.RowKit
set_option linter.unusedVariables false

theorem lg_info : (Try.prog.info? 28).map (fun i => (i.zero, i.size, i.bytes)) = some (some (.agg #[.int .i64 0, .int .i64 0]), lgL.sz, 16) := by kernel_rfl
set_option maxHeartbeats 4000000 in
set_option maxRecDepth 100000 in
theorem ref_path : ∀ (n : Nat) (va : Value) (l : List Br) (b e : Int) (w : World), b.toNat < n → RdX brL w w.heap.size va l →
    Calls Try.prog 12 #[va, .int .i64 b, .int .i64 e] w fun z w' => ∃ v', z = .returned v' ∧ OwnX lgL 28 w' w.heap.size v' (pathT l b e) ∧ Below w.heap.size w w' := by
  intro n
  induction n with
  | zero => intro va l b e w hn; omega
  | succ n ih =>
    intro va l b e w hn ha
    have HA := Lib.hid ha
    have MY := Lib.hid (ref_may va l w ha)
    have IH := Lib.hid ih
    obtain ⟨A, ca, rfl, -⟩ := ha
    clear ih
    cases hm : mayT l
    · have HP := Lib.hid (path_none (l := l) (b := b) (e := e) (by rw [hm]; simp))
      rw [hm] at MY
      clear hm hn
      go_enter Try.func12, Try.ntmps12
      go_wp2_with fail
      refine MY.out.mono ?_
      rintro z w1 ⟨rfl, hb1⟩
      have G := Lib.hid hb1
      clear hb1
      go_wp2_with fail
      go_ret
      exact ⟨_, rfl, by rw [HP.out]; exact OwnX.nil _ _, G.out⟩
    have ML := Lib.hid (may_len hm).2
    rw [hm] at MY
    rcases Int.lt_or_le b 0 with h0 | h0
    · have z1 : decide (b < 0) = true := by simp; omega
      have HP := Lib.hid (path_none (l := l) (b := b) (e := e) (by omega))
      clear hm hn h0
      go_enter Try.func12, Try.ntmps12
      go_wp2_with fail
      refine MY.out.mono ?_
      rintro z w1 ⟨rfl, hb1⟩
      have G := Lib.hid hb1
      clear hb1
      go_wp2_with fail
      go_ret
      exact ⟨_, rfl, by rw [HP.out]; exact OwnX.nil _ _, G.out⟩
    obtain ⟨k, rfl⟩ : ∃ k : Nat, b = (k : Int) := ⟨b.toNat, by omega⟩
    have z1 : decide ((k : Int) < 0) = false := by simp
    rcases Nat.lt_or_ge k l.length with hk | hk
    · have z2 : decide ((l.length : Int) ≤ (k : Int)) = false := by rw [decide_eq_false_iff_not]; omega
      have z2n : decide (l.length ≤ k) = false := by rw [decide_eq_false_iff_not]; omega
      have HST := Lib.hid (path_step hm (List.getElem?_eq_getElem hk) e)
      have HPF := Lib.hid (path_few l (k : Int) e)
      have HOK := Lib.hid (may_at hm (List.getElem?_eq_getElem hk))
      obtain ⟨x, hx⟩ : ∃ x, l[k] = x := ⟨_, rfl⟩
      rw [hx] at HST HOK
      obtain ⟨p, f, q, d⟩ := x
      obtain ⟨bb, o, rfl, -, -⟩ := RdX.br HA.out k hk hx
      have HX := Lib.hid hx
      have HN := Lib.hid hn
      have HK := Lib.hid hk
      clear hm hn h0 hx
      go_enter Try.func12, Try.ntmps12
      go_wp2_with fail
      refine MY.out.mono ?_
      rintro z w1 ⟨rfl, hb1⟩
      have G := Lib.hid hb1
      have hb2 := alloc_below w1 (.cells #[.int .i64 (k : Int), .int .i64 e] 28)
      have O := Lib.hid ((OwnX.new (L := lgL) (e := 28) w1 #[.int .i64 (k : Int), .int .i64 e] [((k : Int), e)] 1 rfl rfl (by simp)).mono G.out.size)
      have G := Lib.hid (G.out.trans (hb2.mono G.out.size))
      have hki : (k : Int) < (l.length : Int) := by omega
      obtain ⟨bb2, o2, hbo, -, e0, e1, e2, e3⟩ := RdX.br (HA.out.below G.out) k HK.out HX.out
      cases hbo
      clear hb1 hb2
      rcases Int.lt_or_le p 0 with hp | hp
      · have zp : decide (p < 0) = true := by simp; omega
        have HPZ := Lib.hid (show pathT l (k : Int) e = [((k : Int), e)] from by rw [HST.out, if_pos hp])
        clear hp
        go_wp2_with fail
        go_ret
        exact ⟨_, rfl, by rw [HPZ.out]; exact O.out, G.out⟩
      · have zp : decide (p < 0) = false := by rw [decide_eq_false_iff_not]; omega
        have hk0 : 0 < k := by
          rcases Nat.eq_zero_or_pos k with rfl | h
          · have := ok_zero HOK.out; simp only at this; omega
          · exact h
        have hu := ok_up HOK.out hk0
        simp only at hu
        have HPU := Lib.hid (show p.toNat < n from by have := HN.out; omega)
        obtain ⟨E, hE⟩ : ∃ E, E = if f < e then f else e := ⟨_, rfl⟩
        have HPZ := Lib.hid (show pathT l (k : Int) e = ((k : Int), e) :: pathT l p E from by rw [HST.out, if_neg (by omega), hE])
        have HE := Lib.hid hE
        have HF := Lib.hid (path_few l p E)
        have IHE := Lib.hid (fun (w : World) (h : RdX brL w w.heap.size (.slice (some ⟨bb, o, none⟩) l.length ca) l) => IH.out _ l p E w HPU.out h)
        generalize pathT l p E = PL at IHE HPZ HF
        clear hp hk0 hu hE
        rcases Int.lt_or_le f e with hf | hf
        case' inl =>
          have zf : decide (f < e) = true := by simp; omega
          obtain rfl : E = f := by rw [HE.out, if_pos hf]
        case' inr =>
          have zf : decide (f < e) = false := by rw [decide_eq_false_iff_not]; omega
          obtain rfl : E = e := by rw [HE.out, if_neg (by omega)]
        all_goals
          clear hf HE
          go_wp2_with fail
          refine (IHE.out _ ((HA.out.below G.out).more G.out.size)).mono ?_
          rintro z w2 ⟨v2, rfl, ho2, hb2⟩
          have O := Lib.hid (O.out.on hb2)
          have R2 := Lib.hid ho2.rd
          have G := Lib.hid (G.out.trans (hb2.mono G.out.size))
          obtain ⟨A2, c2, ev2, -⟩ := ho2.rd
          subst ev2
          clear ho2 hb2
          go_wp2_with (at_builtin; refine wpl_appX_rd (L := lgL) rfl (.tmp 48) (.tmp 52) rfl Try.underlying24 lg_info rfl w.heap.size _ _ _ [((k : Int), _)] PL rfl rfl O.out R2.out G.out.size (by rw [List.length_singleton]; have := HF.out; omega) (by decide) ?_; intro v5 w5 ho5 hg5 hb5)
          go_ret
          exact ⟨_, rfl, by rw [HPZ.out]; exact ho5, G.out.trans hb5⟩
    · have z2 : decide ((l.length : Int) ≤ (k : Int)) = true := by simp; omega
      have z2n : decide (l.length ≤ k) = true := by simp; omega
      have HP := Lib.hid (path_none (l := l) (b := (k : Int)) (e := e) (by omega))
      clear hm hn h0 hk
      go_enter Try.func12, Try.ntmps12
      go_wp2_with fail
      refine MY.out.mono ?_
      rintro z w1 ⟨rfl, hb1⟩
      have G := Lib.hid hb1
      clear hb1
      go_wp2_with fail
      go_ret
      exact ⟨_, rfl, by rw [HP.out]; exact OwnX.nil _ _, G.out⟩
end Go.Proofs.Ytopiddlijlcbbaa
