/- Layer 7, the project's disk: how many bytes all files have. -/
import Derived.Test.YtbdaflhmloodfaaHd
import Derived.Maps.RangeWalk
namespace Go.Proofs.Ytbdaflhmloodfaa
open Go.RowKit
set_option linter.unusedVariables false

def usedP (left : Lit → Bool) (l : List Fl) : Int := usedF (l.filter (fun f => !left (keyN f.name)))
theorem usedP_step {left : Lit → Bool} {l : List Fl} {f : Fl} (hs : SortD l) (hf : f ∈ l) (hl : left (keyN f.name) = true) :
    usedP (fun z => left z && !z.sameKey (keyN f.name)) l = usedP left l + f.b.size := by
  induction l with
  | nil => cases hf
  | cons x l ih =>
    obtain ⟨h1, h2⟩ := List.pairwise_cons.1 hs
    unfold usedP at *
    rw [List.filter_cons, List.filter_cons]
    simp only []
    by_cases hx : x.name = f.name
    · have hxf : x = f := hs.same (by simp) hf hx
      subst hxf
      have hrest : l.filter (fun g => !(left (keyN g.name) && !(keyN g.name).sameKey (keyN x.name))) = l.filter (fun g => !left (keyN g.name)) := by
        refine List.filter_congr fun y hy => ?_
        have hne : keyN y.name ≠ keyN x.name := fun e => by
          have e2 := keyN_inj e
          have := h1 y hy; unfold nmL at this; rw [e2] at this; exact List.lt_irrefl _ this
        rw [Maps.sameKey_ne hne]; simp
      rw [hrest, WideAt.sameKey_self (keyN_lit _), hl]
      simp [usedF]
      omega
    · have hfl : f ∈ l := by
        rcases List.mem_cons.1 hf with h | h
        · rw [h] at hx; exact absurd rfl hx
        · exact h
      have hne : keyN x.name ≠ keyN f.name := fun e => hx (keyN_inj e)
      have := ih h2 hfl
      rw [Maps.sameKey_ne hne]
      cases hq : left (keyN x.name) <;> simp [usedF] at this ⊢ <;> omega
theorem usedP_le (left : Lit → Bool) (l : List Fl) : 0 ≤ usedP left l ∧ usedP left l ≤ usedF l := by
  unfold usedP
  refine ⟨usedF_nn _, ?_⟩
  induction l with
  | nil => simp [usedF]
  | cons x l ih =>
    rw [List.filter_cons]
    split <;> simp [usedF] <;> omega
theorem usedP_end {left : Lit → Bool} (h : ∀ k, left k = false) (l : List Fl) : usedP left l = usedF l := by
  unfold usedP
  rw [List.filter_eq_self.2 (fun a _ => by simp [h])]

section
variable {S : Nat → Prop} {w w' : World} {l : List Fl} {m : Nat} {gb : ByteArray → Nat} {vv : ByteArray → Value} {g : Nat} {d : Dk} {p : Value}
set_option maxHeartbeats 4000000 in
set_option maxRecDepth 100000 in
theorem p_used (h : RdM w S g p d) (hu : usedF d.f ≤ 1000000000) :
    Calls Try.prog 22 #[p] w fun e w' => e = .returned (.int .i64 (usedF d.f)) ∧ Below w.heap.size w w' := by
  obtain ⟨rfl, m, gb, vv, hs, ⟨A, hb, hA⟩, hf⟩ := h
  obtain ⟨D, hown, his⟩ := hf.map
  have HF := Lib.hid hf
  have HI := Lib.hid his
  generalize d.f = l at *
  have c0 := hb.cell 0 (.map (some m)) rfl
  have hst := Lib.hid (show usedP (Maps.has D) l = 0 from by
    unfold usedP
    rw [List.filter_eq_nil_iff.2 (fun a ha => by rw [(his.has _).2 ⟨a, ha, rfl⟩]; simp)]
    rfl)
  clear hb hf hs hA his
  go_enter Try.func22, Try.ntmps22
  go_wp2_with (first
    | (at_range; refine wpList_range_own _ rfl _ 52 rfl 9 67 keyed7 Try.underlying52 ptrE m l.length D rfl hown ?_; intro w0 hrg0 hg0 hs0)
    | go_in)
  go_frame
  go_loopw [3] (fun n wr => ∃ (left : Lit → Bool) (cnt : Nat), n = .int .i64 (usedP left l) ∧ wr.ranges Try.prog 9 ptrE m w.heap.size l.length D left cnt ∧ Below w.heap.size w wr)
    (fun _ wr => wr.rangeLeft m w.heap.size)
  case atStart => exact ⟨_, _, by rw [hst.out], hrg0, (Below.refl _ _).grown hg0 (Nat.le_refl _) (fun j hj => by cases hj)⟩
  case round =>
    obtain ⟨left, cnt, rfl, hrg, hgw⟩ := hrel
    have G := Lib.hid hgw
    clear hgw
    go_wp2_with (first
      | (at_next; refine wpList_next_ranges _ rfl _ rfl 9 keyed7 ptrE encStr (fun c : Option Nat => .pointer (c.map fun g => ⟨g, 0, none⟩)) (fun key kl hk => by obtain ⟨x, hx, _⟩ := Maps.keyOf_str Try.underlying9 hk; exact ⟨x, hx⟩) (fun v y hv => ptrE_shape hv) m w.heap.size l.length _ _ _ rfl hrg ?_ ?_)
      | go_in)
    · intro hc0 hl0
      have hend := Lib.hid (usedP_end hl0 l)
      clear hl0 hc0
      go_wp2_with fail
      go_ret
      exact ⟨ret_int hend.out, G.out⟩
    · intro x c kl yd yp w2 cnt2 hkey hlk hv hat hrg2 hlt hg2 hs2 hen
      have hhas := Maps.has_true_of_atKey hat
      obtain ⟨f, hfm, rfl⟩ := (HI.out.has _).1 hhas
      have hyd : yd = .lit (.int .i64 (gb f.name)) := by rw [← hat .nil, HI.out.at' f hfm]
      subst hyd
      have hptr := ptrE_inv hv
      obtain rfl : c = some (gb f.name) := by
        cases c with
        | none => cases hptr
        | some k => simp at hptr; rw [hptr]
      have hlw : w.heap.size ≤ wr.heap.size := G.out.size
      have G2 := Lib.hid (G.out.grown hg2 hlw (fun j hj => by cases hj; exact Nat.le_refl _))
      have FR := (HF.out.on G2.out).file f hfm
      obtain ⟨v, hvv⟩ : ∃ v, v = vv f.name := ⟨_, rfl⟩
      rw [← hvv] at FR
      obtain ⟨X, k, e, -⟩ := own_cap FR.own
      subst e
      have hsz : f.b.data.toList.length = f.b.size := by simp
      have c1 : w2.cell? ⟨gb f.name, 0, none⟩ = some (.slice X f.b.size k) := by rw [← hsz]; exact FR.box.cell 0 _ rfl
      have hstep := Lib.hid (usedP_step HF.out.sorted hfm hlk)
      have hbd := usedP_le (fun z => left z && !z.sameKey (keyN f.name)) l
      have hbd2 := usedP_le left l
      rw [hstep.out] at hbd
      have hw : IntKind.i64.wrap (usedP left l + (f.b.size : Int)) = usedP left l + (f.b.size : Int) := by rw [IntKind.wrap_i64]; omega
      have HM := Lib.hid (show w2.rangeLeft m w.heap.size < wr.rangeLeft m w.heap.size from by rw [hrg2.left_eq, hrg.left_eq]; exact hlt)
      have HR2 := Lib.hid hrg2
      clear hs2 hhas hat hkey hv hlk hptr FR hvv hsz hbd hbd2 hrg hrg2 hlt hg2 hlw hu
      generalize gb f.name = gf at *
      go_wp2_with fail
      go_roundw
      case rel => exact ⟨_, cnt2, by rw [hstep.out], HR2.out, G2.out⟩
      case measure => exact HM.out
end
end Go.Proofs.Ytbdaflhmloodfaa
