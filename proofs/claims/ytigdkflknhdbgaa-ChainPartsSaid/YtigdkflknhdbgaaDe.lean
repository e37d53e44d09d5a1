/- Layer 13: an index in the heap: New, Len, Of. -/
import Derived.Test.YtigdkflknhdbgaaCp
import Derived.Test.YtigdkflknhdbgaaCk
import Derived.Test.YtigdkflknhdbgaaDa
namespace Go.Proofs.Ytigdkflknhdbgaa
open Go.RowKit
set_option linter.unusedVariables false

theorem clone_vers (v : Value) (l : List Ver) (w : World) (h : RdVr w w.heap.size v l) (hl : l.length ≤ 100000) :
    Calls Try.prog 29 #[v] w fun e w' => ∃ v', e = .returned v' ∧ OwnVr w' w.heap.size v' l ∧ Below w.heap.size w w' := by
  have H := Lib.hid h
  obtain ⟨A, c, rfl, hlc, hc, h3⟩ := h
  have hq := fun W => Lib.run_eql_slice_nil (P := Try.prog) W 24 47 A l.length c 0 0 Try.underlying24
  cases A with
  | none =>
    have h0 : l.length = 0 := by
      rcases Nat.eq_zero_or_pos l.length with h0 | h0
      · exact h0
      · obtain ⟨b, o, e, _⟩ := h3 h0; cases e
    have h1 := Lib.hid (List.eq_nil_of_length_eq_zero h0)
    clear h3 h0
    go_enter Try.func29, Try.ntmps29
    go_wp2
    go_ret
    refine ⟨_, rfl, ?_, by go_grown⟩
    rw [h1.out]; exact OwnX.nil _ _
  | some p =>
    clear h3
    have H2 := Lib.hid (H.out.on (alloc_below w (.cells #[] 47)))
    have O := Lib.hid (OwnX.new (L := verL) (e := 47) w #[] [] 0 rfl rfl (by simp))
    go_enter Try.func29, Try.ntmps29
    go_wp2_with (at_builtin; refine wpl_appX_rd rfl (.tmp 5) (.tmp 6) rfl Try.underlying24 ver_info rfl w.heap.size _ _ _ [] l rfl rfl O.out H2.out (by simp) (by simp; omega) (by decide) ?_; intro v1 w1 ho1 hg1 hb1)
    go_ret
    exact ⟨v1, rfl, ho1, (alloc_below w _).trans hb1⟩

/-- p is an index with the versions r, of height h: its own block and its list's (S). -/
def ChS (n : Nat) (w : World) (S : Nat → Prop) (p : Value) (r : List Ver) (h : Int) : Prop :=
  ∃ (g : Nat) (pl : Value) (l : List Skp.It) (Ls : List (List Ver)) (S0 : Nat → Prop), p = .pointer (some ⟨g, 0, none⟩) ∧ Box w g #[pl, .int .i64 (r.length : Int)] 67 ∧ ChL n w S0 pl l Ls ∧ r = Ls.flatten ∧ h = Skp.heightI l ∧ ¬ S0 g ∧ ∀ k, S k ↔ k = g ∨ S0 k
section
variable {n m : Nat} {w w' : World} {S : Nat → Prop} {p : Value} {r : List Ver} {h : Int}
theorem ChS.lt (hc : ChS n w S p r h) (i : Nat) (hi : S i) : i < w.heap.size := by
  obtain ⟨g, pl, l, Ls, S0, -, hb, hl, -, -, -, hS⟩ := hc
  rcases (hS i).1 hi with rfl | h1
  · exact hb.lt
  · exact hl.lt h1
theorem ChS.stay (hc : ChS n w S p r h) (hb : ∀ i, S i → w'.heap[i]? = w.heap[i]?) : ChS n w' S p r h := by
  obtain ⟨g, pl, l, Ls, S0, e, hbx, hl, er, eh, hg, hS⟩ := hc
  exact ⟨g, pl, l, Ls, S0, e, (hb g ((hS g).2 (.inl rfl))).trans hbx, hl.stay fun k hk => hb k ((hS k).2 (.inr hk)), er, eh, hg, hS⟩
theorem ChS.more (hc : ChS n w S p r h) (hm : n ≤ m) : ChS m w S p r h := by
  obtain ⟨g, pl, l, Ls, S0, e, hbx, hl, h4⟩ := hc
  exact ⟨g, pl, l, Ls, S0, e, hbx, hl.more hm, h4⟩
theorem ChS.ptr (hc : ChS n w S p r h) : ∃ g, p = .pointer (some ⟨g, 0, none⟩) := by
  obtain ⟨g, pl, l, Ls, S0, e, -⟩ := hc
  exact ⟨g, e⟩
theorem ChL.keys_len {S : Nat → Prop} {l : List Skp.It} {Ls : List (List Ver)} (hl : ChL n w S p l Ls) : l.length ≤ Ls.flatten.length := by
  obtain ⟨mk, M, -, -, -, -, hg, -⟩ := hl
  exact hg.len_part
theorem ChL.grp {S : Nat → Prop} {l : List Skp.It} {Ls : List (List Ver)} (hl : ChL n w S p l Ls) : GrpV l Ls := by
  obtain ⟨mk, M, -, -, -, -, hg, -⟩ := hl
  exact hg
theorem ChL.ptr {S : Nat → Prop} {l : List Skp.It} {Ls : List (List Ver)} (hl : ChL n w S p l Ls) : ∃ b, p = .pointer (some ⟨b, 0, none⟩) := by
  obtain ⟨mk, M, -, e, -⟩ := hl
  exact ⟨_, e⟩
end

set_option maxHeartbeats 1000000 in
theorem ch_new (w : World) : Calls Try.prog 20 #[] w fun z w' => ∃ p S, z = .returned p ∧ ChS 0 w' S p [] 0 ∧ (∀ i, S i → w.heap.size ≤ i) ∧ Below w.heap.size w w' := by
  have NW := Lib.hid (chl_new w)
  go_enter Try.func20, Try.ntmps20
  go_wp2_with fail
  refine NW.out.mono ?_
  rintro z w1 ⟨p, S, rfl, hc, hs, hb⟩
  obtain ⟨b, rfl⟩ := hc.ptr
  have C := Lib.hid hc
  have HS := Lib.hid hs
  have G := Lib.hid hb
  clear hc hs hb NW
  go_wp2_with fail
  go_ret
  have hb1 : Below w1.heap.size w1 (w1.alloc (.cells #[.pointer (some ⟨b, 0, none⟩), .int .i64 0] 67)) := alloc_below _ _
  refine ⟨_, fun k => k = w1.heap.size ∨ S k, rfl, ⟨w1.heap.size, _, [], [], S, rfl, Box.new _ _ _ _ rfl, C.out.stay fun k hk => hb1.block k (C.out.lt hk), rfl, rfl, fun h => by have := C.out.lt h; omega, fun k => Iff.rfl⟩, fun i hi => ?_, G.out.trans (hb1.mono G.out.size)⟩
  rcases hi with rfl | hi
  · exact G.out.size
  · exact HS.out i hi

theorem ch_len {n : Nat} (w : World) (S : Nat → Prop) (p : Value) (r : List Ver) (h : Int) (hc : ChS n w S p r h) :
    Calls Try.prog 27 #[p] w fun z w' => z = .returned (.int .i64 (r.length : Int)) ∧ Below w.heap.size w w' := by
  obtain ⟨g, pl, l, Ls, S0, rfl, hb, -⟩ := hc
  have b1 := hb.cell 1 _ rfl
  clear hb
  generalize r.length = rl at *
  go_enter Try.func27, Try.ntmps27
  go_wp2_with fail
  go_ret
  exact ⟨rfl, Below.refl _ _⟩

set_option maxHeartbeats 1000000 in
theorem ch_of {n : Nat} (w : World) (S : Nat → Prop) (p : Value) (r : List Ver) (h : Int) (key : ByteArray) (hc : ChS n w S p r h) (hr : r.length ≤ 1000) :
    Calls Try.prog 11 #[p, .string key] w fun z w' => ∃ v', z = .returned v' ∧ OwnVr w' w.heap.size v' (r.filter fun v => decide (v.key = key)) ∧ Below w.heap.size w w' := by
  obtain ⟨g, pl, l, Ls, S0, rfl, hb, hl, er, -⟩ := hc
  obtain ⟨b, rfl⟩ := hl.ptr
  have GT := Lib.hid (chl_get hl key)
  rw [← er] at GT
  have b0 := hb.cell 0 _ rfl
  have HF := Lib.hid (show (r.filter fun v => decide (v.key = key)).length ≤ 100000 from Nat.le_trans (List.length_filter_le _ _) (by omega))
  generalize (r.filter fun v => decide (v.key = key)) = rf at *
  have CL := Lib.hid (fun v w h => clone_vers v rf w h HF.out)
  generalize Skp.hereI l key = hh at *
  generalize Skp.getI l key = gt at *
  clear hb hl er hr
  go_enter Try.func11, Try.ntmps11
  go_wp2_with fail
  refine GT.out.mono ?_
  rintro z w1 ⟨u, rfl, hu, eu, hb1⟩
  have R := Lib.hid hu
  have G := Lib.hid hb1
  obtain ⟨A1, c1, rfl, -⟩ := hu
  clear hb1 GT b0 eu
  go_wp2_with fail
  refine (CL.out _ _ R.out).mono ?_
  rintro z w2 ⟨v2, rfl, ho2, hb2⟩
  have O := Lib.hid (OwnX.mono ho2 G.out.size)
  have G := Lib.hid (G.out.trans (hb2.mono G.out.size))
  clear ho2 hb2
  go_wp2_with fail
  go_ret
  exact ⟨v2, rfl, O.out, G.out⟩
end Go.Proofs.Ytigdkflknhdbgaa
