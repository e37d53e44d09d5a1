/- Layer 13: Keep, by the project; what an index answers. -/
import Derived.Test.YtigdkflknhdbgaaDm
import Derived.Test.YtigdkflknhdbgaaDj
import Derived.Test.YtigdkflknhdbgaaDh
namespace Go.Proofs.Ytigdkflknhdbgaa
open Go.RowKit Go.Shelf
set_option linter.unusedVariables false

set_option maxHeartbeats 8000000 in
set_option maxRecDepth 100000 in
theorem ch_keep {n : Nat} (w : World) (S : Nat → Prop) (p : Value) (r : List Ver) (h : Int) (fa : Nat) (q : Ver → Bool) (hc : ChS n w S p r h) (hn : n ≤ 100000) (hr : r.length ≤ 1000) (hq : AsksV fa q) :
    Calls Try.prog 16 #[p, .func (.func fa) #[] #[]] w fun z w' => ∃ v' S' h', z = .returned v' ∧ OwnVr w' w.heap.size v' (r.filter fun v => !q v) ∧ ChS n w' S' p (r.filter q) h' ∧ (∀ i, S' i → S i ∨ w.heap.size ≤ i) ∧ (∀ k, v'.ownBlock = some k → ¬ S' k) ∧ KeptF S w w' := by
  have HC := Lib.hid hc
  have AL := Lib.hid (ch_all w S p r h hc hr)
  have ST := Lib.hid (fun v w => p_stays fa q hq v w)
  have HR := Lib.hid hr
  have HN := Lib.hid hn
  have ASC := Lib.hid (show AscV r from by
    obtain ⟨g, pl, l, Ls, S0, -, -, hl, er, -⟩ := hc
    rw [er]
    exact hl.grp.asc)
  obtain ⟨g, rfl⟩ := hc.ptr
  clear hc hn hr hq
  go_enter Try.func16, Try.ntmps16
  go_wp2_with fail
  refine AL.out.mono ?_
  rintro z w1 ⟨v1, rfl, ho1, hb1⟩
  have R0 := Lib.hid ho1.rd
  have G1 := Lib.hid hb1
  obtain ⟨A1, c1, rfl, -⟩ := ho1.rd
  clear ho1 hb1 AL
  go_wp2_with fail
  go_loopw [5, 11] (fun x i wr => ∃ k : Nat, i = .int .i64 k ∧ k ≤ r.length ∧ OwnVr wr w1.heap.size x ((r.take k).filter fun v => !q v) ∧ Below w1.heap.size w1 wr) (fun _ i _ => r.length - (intOf i).toNat)
  case atStart => exact ⟨0, rfl, Nat.zero_le _, OwnX.nil _ _, Below.refl _ _⟩
  case round =>
    obtain ⟨k, rfl, hk, ho, hbw⟩ := hrel
    rename World => wr
    have G := Lib.hid hbw
    have O := Lib.hid ho
    by_cases hlt : k < r.length
    · have zl : decide ((k : Int) < (r.length : Int)) = true := by simp; omega
      have hki : (k : Int) < (r.length : Int) := by omega
      have hw64 : IntKind.i64.wrap ((k : Int) + 1) = (k : Int) + 1 := by rw [IntKind.wrap_i64]; have := HR.out; omega
      have NX := Lib.hid (take_next (q := q) hlt)
      have LG := Lib.hid (show ((r.take k).filter fun v => !q v).length ≤ 1000 from Nat.le_trans (List.length_filter_le _ _) (by rw [List.length_take]; have := HR.out; omega))
      obtain ⟨x, hx⟩ : ∃ x, r[k] = x := ⟨_, rfl⟩
      have HX := Lib.hid hx
      have SX := Lib.hid (fun w => ST.out x w)
      rw [hx] at NX
      obtain ⟨qx, hqx⟩ : ∃ b, q x = b := ⟨_, rfl⟩
      rw [hqx] at NX SX
      generalize ((r.take k).filter fun v => !q v) = acc at *
      obtain ⟨A5, k5, ev, -⟩ := ho.rd
      subst ev
      obtain ⟨k1, b1, e1, s1, ⟨x1, y1⟩, u1, g1⟩ := x
      unfold verV at SX
      simp only at SX
      obtain ⟨bL, oL, rfl, -, c0, c1, c2, c3, c4, c5, c6, c7⟩ := RdVr.here (R0.out.below G.out) k hlt
      simp only [hx] at c0 c1 c2 c3 c4 c5 c6 c7
      obtain ⟨W1, hW1⟩ : ∃ W1, wr.alloc (.cells #[.string k1, .int .i64 b1, .int .i64 e1, .int .i64 s1, .int .i64 x1, .int .i64 y1, .string u1, .bool g1] 47) = W1 := ⟨_, rfl⟩
      have BX := Lib.hid (show Box W1 wr.heap.size #[.string k1, .int .i64 b1, .int .i64 e1, .int .i64 s1, .int .i64 x1, .int .i64 y1, .string u1, .bool g1] 47 from by rw [← hW1]; exact Box.new wr _ _ _ rfl)
      have hbn : Below wr.heap.size wr W1 := by rw [← hW1]; exact alloc_below _ _
      have O := Lib.hid (O.out.on hbn)
      have G := Lib.hid (G.out.trans (hbn.mono G.out.size))
      have q0 := BX.out.cell 0 _ rfl
      have q1 := BX.out.cell 1 _ rfl
      have q2 := BX.out.cell 2 _ rfl
      have q3 := BX.out.cell 3 _ rfl
      have q4 := BX.out.cell 4 _ rfl
      have q5 := BX.out.cell 5 _ rfl
      have q6 := BX.out.cell 6 _ rfl
      have q7 := BX.out.cell 7 _ rfl
      clear ho hbw hx hqx hbn
      go_wp2_with fail
      clear hW1 q0 q1 q2 q3 q4 q5 q6 q7 c0 c1 c2 c3 c4 c5 c6 c7
      refine (SX.out _).mono ?_
      rintro z w2 ⟨rfl, hb2⟩
      have BX := Lib.hid (BX.out.later hb2)
      have O := Lib.hid (O.out.on hb2)
      have G := Lib.hid (G.out.trans (hb2.mono G.out.size))
      clear hb2 SX
      cases qx
      · have EN := Lib.hid (show ((r.take (k + 1)).filter fun v => !q v) = acc ++ [(⟨k1, b1, e1, s1, (x1, y1), u1, g1⟩ : Ver)] from NX.out)
        have q0 := BX.out.cell 0 _ rfl
        have q1 := BX.out.cell 1 _ rfl
        have q2 := BX.out.cell 2 _ rfl
        have q3 := BX.out.cell 3 _ rfl
        have q4 := BX.out.cell 4 _ rfl
        have q5 := BX.out.cell 5 _ rfl
        have q6 := BX.out.cell 6 _ rfl
        have q7 := BX.out.cell 7 _ rfl
        clear NX
        go_wp2_with (at_builtin; refine wpl_appX (L := verL) rfl (.tmp 19) (.tmp 21) rfl Try.underlying24 ver_info rfl w1.heap.size _ acc [(⟨k1, b1, e1, s1, (x1, y1), u1, g1⟩ : Ver)] _ _ _ rfl rfl rfl rfl O.out G.out.size (by rw [List.length_singleton]; have := LG.out; omega) (by decide) ?_; intro v5 w5 ho5 hg5 hb5)
        go_roundw
        case rel => exact ⟨k + 1, by go_num, by omega, by rw [EN.out]; exact ho5, G.out.trans hb5⟩
        case measure => simp [intOf]; omega
      · have EN := Lib.hid (show ((r.take (k + 1)).filter fun v => !q v) = acc from by rw [NX.out, if_pos rfl, List.append_nil])
        clear NX
        go_wp2_with fail
        go_roundw
        case rel => exact ⟨k + 1, by go_num, by omega, by rw [EN.out]; exact O.out, G.out⟩
        case measure => simp [intOf]; omega
    · have hkl : k = r.length := by omega
      subst hkl
      have zl : decide ((r.length : Int) < (r.length : Int)) = false := by simp
      rw [List.take_length] at O ho
      have GW := Lib.hid (G1.out.trans (G.out.mono G1.out.size))
      have CW := Lib.hid (HC.out.stay fun i hi => GW.out.block i (HC.out.lt i hi))
      have TK := Lib.hid (ch_take wr S _ r h CW.out HN.out HR.out _ _ O.out.rd (asc_filter ASC.out _) (Nat.le_trans (List.length_filter_le _ _) HR.out) fun j hj hs => by
        have h1 := O.out.base j hj
        have h2 := HC.out.lt j hs
        have h3 := G1.out.size
        omega)
      rw [stay_is ASC.out q] at TK
      have ALT := Lib.hid (fun i (hi : S i) => HC.out.lt i hi)
      obtain ⟨go, hgo⟩ : ∃ go, (r.filter fun v => !q v) = go := ⟨_, rfl⟩
      rw [hgo] at O ho
      have HGO := Lib.hid hgo
      clear hgo
      obtain ⟨A5, k5, ev, -⟩ := ho.rd
      subst ev
      clear ho hbw hlt HC
      go_wp2_with fail
      refine TK.out.mono ?_
      rintro z w3 ⟨⟨v, rfl⟩, S', h', hc3, hs3, hk3⟩
      have C3 := Lib.hid hc3
      have S3 := Lib.hid hs3
      have K3 := Lib.hid hk3
      clear hc3 hs3 hk3 TK
      go_wp2_with fail
      go_ret
      have z1 := G1.out.size
      have z2 := G.out.size
      refine ⟨.slice A5 go.length k5, S', h', rfl, (by
        rw [HGO.out]
        exact OwnX.mono (OwnX.stay O.out fun j hj => K3.out.other j (O.out.lt j hj).2 fun hs => by
        have h1 := O.out.base j hj
        have h2 := ALT.out j hs
        omega) z1), C3.out, fun i hi => ?_, fun j hj hs => ?_, ⟨(GW.out.mono (Nat.zero_le _)).trans K3.out.below, fun i hi hns => (K3.out.other i (by omega) hns).trans (GW.out.block i hi)⟩⟩
      · rcases S3.out i hi with h1 | h1
        · exact .inl h1
        · exact .inr (by omega)
      · have h1 := O.out.lt j hj
        rcases S3.out j hs with h2 | h2
        · have h3 := ALT.out j h2
          omega
        · omega

theorem ch_k : ChF ChS where
  lt h := h.lt
  stay h hb := h.stay hb
  more h hm := h.more hm
  ptr h := h.ptr
  new := ch_new
  add w S p r h v lv hc hn hr hk hl := ch_add w S p r h v lv hc hn hr hk hl
  all w S p r h hc hr := ch_all w S p r h hc hr
  of w S p r h key hc hr := ch_of w S p r h key hc hr
  range w S p r h fr tt hc hr := ch_range w S p r h fr tt hc hr
  keys w S p r h hc hr := ch_keys w S p r h hc hr
  len w S p r h hc _ := ch_len w S p r h hc
  keep w S p r h fa q hc hn hr hq := ch_keep w S p r h fa q hc hn hr hq
end Go.Proofs.Ytigdkflknhdbgaa
