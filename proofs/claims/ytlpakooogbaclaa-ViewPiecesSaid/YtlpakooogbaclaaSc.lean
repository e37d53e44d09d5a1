/- Layer 4: the document's ends of spans, and what is left of one. -/
import Derived.Test.YtlpakooogbaclaaSb
import Derived.Test.YtlpakooogbaclaaBE
import Derived.Test.YtlpakooogbaclaaBapp
namespace Go.Proofs.Ytlpakooogbaclaa
open Go.RowKit
set_option linter.unusedVariables false

theorem ends_snoc (l : List Sp) (k : Nat) (h : k < l.length) : endsF (l.take (k + 1)) = putL (putL (endsF (l.take k)) l[k].1) l[k].2 := by
  unfold endsF; rw [List.take_succ_eq_append_getElem h, List.foldl_append]; rfl
theorem ends_len (l : List Sp) : (endsF l).length ≤ 2 * l.length := by
  have : ∀ (l : List Sp) (o : List Int), (l.foldl (fun o s => putL (putL o s.1) s.2) o).length ≤ o.length + 2 * l.length := by
    intro l
    induction l with
    | nil => intro o; simp
    | cons s l ih =>
      intro o
      have h1 := ih (putL (putL o s.1) s.2)
      have h2 := put_len (putL o s.1) s.2
      have h3 := put_len o s.1
      rw [List.foldl_cons, List.length_cons]; omega
  simpa [endsF] using this l []

set_option maxHeartbeats 1000000 in
theorem ref_ends (v : Value) (l : List Sp) (w : World) (h : RdSp w w.heap.size v l) (hl : l.length ≤ 1000) :
    Calls Try.prog 41 #[v] w fun e w' => ∃ v', e = .returned v' ∧ OwnI w' w.heap.size v' (endsF l) ∧ Below w.heap.size w w' := by
  have H := Lib.hid h
  obtain ⟨A, c, rfl, hlc, hc, -⟩ := h
  go_enter Try.func41, Try.ntmps41
  go_wp2_with fail
  go_loopw [3, 4] (fun x i wr => ∃ k : Nat, i = .int .i64 k ∧ k ≤ l.length ∧ OwnI wr w.heap.size x (endsF (l.take k)) ∧ Below w.heap.size w wr) (fun _ i _ => l.length - (intOf i).toNat)
  case atStart => exact ⟨0, rfl, by omega, OwnX.nil _ _, Below.refl _ _⟩
  case round =>
    obtain ⟨k, rfl, hk, ho, hb⟩ := hrel
    have O := Lib.hid ho
    have G := Lib.hid hb
    clear ho hb
    by_cases hlt : k < l.length
    · obtain ⟨bb, oo, rfl, hbb, hc0, hc1⟩ := RdSp.here (H.out.below G.out) k hlt
      have ES := Lib.hid (ends_snoc l k hlt)
      have hol := ends_len (l.take k)
      rw [List.length_take] at hol
      have hol : (endsF (l.take k)).length ≤ 2000 := by omega
      generalize endsF (l.take k) = o at *
      generalize l[k] = s at *
      go_wp2_with fail
      have HI : (fun W => Below wr.heap.size wr.drew W) wr.drew := Below.refl _ _
      have hbw : bb < wr.heap.size := by have := G.out.size; omega
-- REGION E
      refine regk_start [] (fun W => Below wr.heap.size wr.drew W) (by kernel_rfl) ?_
      refine regk_free 0 11 (v := ?_) (T' := ?_) (fun _ => HI) (by kernel_rfl) (by kernel_rfl) (by kernel_rfl) (by kernel_rfl) (fun _ _ _ h => h) (fun o ho => ?_) ?_ ?_
      rotate_left 2
      · cases ho
        refine ⟨rfl, rfl, fun W => ?_⟩
        go_simp; (try with_reducible rfl)
      · simp only [List.setIfInBounds_toArray, List.set_cons_succ, List.set_cons_zero]; exact rfl
      refine regk_free 1 12 (v := ?_) (T' := ?_) (fun _ => HI) (by kernel_rfl) (by kernel_rfl) (by kernel_rfl) (by kernel_rfl) (fun _ _ _ h => h) (fun o ho => ?_) ?_ ?_
      rotate_left 2
      · cases ho
        refine ⟨rfl, rfl, fun W => ?_⟩
        go_simp; (try with_reducible rfl)
      · simp only [List.setIfInBounds_toArray, List.set_cons_succ, List.set_cons_zero]; exact rfl
      refine regk_free 2 13 (v := ?_) (T' := ?_) (fun _ => HI) (by kernel_rfl) (by kernel_rfl) (by kernel_rfl) (by kernel_rfl) (fun _ _ _ h => h) (fun o ho => ?_) ?_ ?_
      rotate_left 2
      · cases ho
        refine ⟨rfl, rfl, fun W => ?_⟩
        go_simp; (try with_reducible rfl)
      · simp only [List.setIfInBounds_toArray, List.set_cons_succ, List.set_cons_zero]; exact rfl
      refine regk_free 3 14 (v := ?_) (T' := ?_) (fun _ => HI) (by kernel_rfl) (by kernel_rfl) (by kernel_rfl) (by kernel_rfl) (fun _ _ _ h => h) (fun o ho => ?_) ?_ ?_
      rotate_left 2
      · cases ho
        refine ⟨rfl, rfl, fun W => ?_⟩
        go_simp; (try with_reducible rfl)
      · simp only [List.setIfInBounds_toArray, List.set_cons_succ, List.set_cons_zero]; exact rfl
      refine regk_free 4 15 (v := ?_) (T' := ?_) (fun _ => HI) (by kernel_rfl) (by kernel_rfl) (by kernel_rfl) (by kernel_rfl) (fun _ _ _ h => h) (fun o ho => ?_) ?_ ?_
      rotate_left 2
      · cases ho
        refine ⟨rfl, rfl, fun W => ?_⟩
        go_simp; (try with_reducible rfl)
      · simp only [List.setIfInBounds_toArray, List.set_cons_succ, List.set_cons_zero]; exact rfl
      refine regk_take 5 16 (v := ?_) (T' := ?_) HI (by kernel_rfl) (by kernel_rfl) (by kernel_rfl) (by kernel_rfl) (by kernel_rfl) (by kernel_rfl) (fun _ _ _ h => h) (fun o ho => ?_) ?_ ?_
      rotate_left 2
      · cases ho
        refine ⟨rfl, rfl, fun W hW => ?_⟩
        have hW2 := (Below.cell (p := ⟨bb, oo + k * 2, none⟩) (show Below wr.heap.size wr.drew W from hW) hbw).trans (show wr.drew.cell? _ = _ from hc0)
        go_simp; (try with_reducible rfl)
      · simp only [List.setIfInBounds_toArray, List.set_cons_succ, List.set_cons_zero]; exact rfl
      refine regk_free 7 18 (v := ?_) (T' := ?_) (fun _ => HI) (by kernel_rfl) (by kernel_rfl) (by kernel_rfl) (by kernel_rfl) (fun _ _ _ h => h) (fun o ho => ?_) ?_ ?_
      rotate_left 2
      · cases ho
        refine ⟨rfl, rfl, fun W => ?_⟩
        go_simp; (try with_reducible rfl)
      · simp only [List.setIfInBounds_toArray, List.set_cons_succ, List.set_cons_zero]; exact rfl
      refine regk_free 8 19 (v := ?_) (T' := ?_) (fun _ => HI) (by kernel_rfl) (by kernel_rfl) (by kernel_rfl) (by kernel_rfl) (fun _ _ _ h => h) (fun o ho => ?_) ?_ ?_
      rotate_left 2
      · cases ho
        refine ⟨rfl, rfl, fun W => ?_⟩
        go_simp; (try with_reducible rfl)
      · simp only [List.setIfInBounds_toArray, List.set_cons_succ, List.set_cons_zero]; exact rfl
      refine regk_free 9 20 (v := ?_) (T' := ?_) (fun _ => HI) (by kernel_rfl) (by kernel_rfl) (by kernel_rfl) (by kernel_rfl) (fun _ _ _ h => h) (fun o ho => ?_) ?_ ?_
      rotate_left 2
      · cases ho
        refine ⟨rfl, rfl, fun W => ?_⟩
        go_simp; (try with_reducible rfl)
      · simp only [List.setIfInBounds_toArray, List.set_cons_succ, List.set_cons_zero]; exact rfl
      refine regk_free 10 21 (v := ?_) (T' := ?_) (fun _ => HI) (by kernel_rfl) (by kernel_rfl) (by kernel_rfl) (by kernel_rfl) (fun _ _ _ h => h) (fun o ho => ?_) ?_ ?_
      rotate_left 2
      · cases ho
        refine ⟨rfl, rfl, fun W => ?_⟩
        go_simp; (try with_reducible rfl)
      · simp only [List.setIfInBounds_toArray, List.set_cons_succ, List.set_cons_zero]; exact rfl
      refine regk_take 11 22 (v := ?_) (T' := ?_) HI (by kernel_rfl) (by kernel_rfl) (by kernel_rfl) (by kernel_rfl) (by kernel_rfl) (by kernel_rfl) (fun _ _ _ h => h) (fun o ho => ?_) ?_ ?_
      rotate_left 2
      · cases ho
        refine ⟨rfl, rfl, fun W hW => ?_⟩
        have hW2 := (Below.cell (p := ⟨bb, oo + k * 2 + 1, none⟩) (show Below wr.heap.size wr.drew W from hW) hbw).trans (show wr.drew.cell? _ = _ from hc1)
        go_simp; (try with_reducible rfl)
      · simp only [List.setIfInBounds_toArray, List.set_cons_succ, List.set_cons_zero]; exact rfl
      refine regk_call (I' := (fun W => Below wr.heap.size wr.drew W)) (fun _ h => h) 6 17 (by kernel_rfl) 63 #[u3, .int .i64 s.1] (fun o ho => by cases ho; exact ⟨rfl, rfl, fun W => by go_simp⟩) ?_
      refine (ref_put _ o s.1 _ O.out.rd.drew (by omega)).mono ?_
      rintro e x1 ⟨y1, rfl, hy1, hb1⟩
      have HI : (fun W => Below wr.heap.size wr.drew W) x1 := hb1
      refine ⟨_, _, rfl, fun _ => HI, (by simp only [List.setIfInBounds_toArray, List.set_cons_succ, List.set_cons_zero]; exact rfl), ?_⟩
      refine regk_call (I' := (fun W => Below wr.heap.size wr.drew W)) (fun _ h => h) 12 23 (by kernel_rfl) 63 #[y1, .int .i64 s.2] (fun o ho => by cases ho; exact ⟨rfl, rfl, fun W => by go_simp⟩) ?_
      refine (ref_put _ (putL o s.1) s.2 _ hy1.rd (by have := put_len o s.1; omega)).mono ?_
      rintro e x2 ⟨y2, rfl, hy2, hb2⟩
      have HI : (fun W => Below wr.heap.size wr.drew W) x2 := (show Below wr.heap.size wr.drew x1 from hb1).trans (hb2.mono hb1.size)
      refine ⟨_, _, rfl, fun _ => HI, (by simp only [List.setIfInBounds_toArray, List.set_cons_succ, List.set_cons_zero]; exact rfl), ?_⟩
      refine regk_free 13 3 (v := ?_) (T' := ?_) (fun _ => HI) (by kernel_rfl) (by kernel_rfl) (by kernel_rfl) (by kernel_rfl) (fun _ _ _ h => h) (fun o ho => ?_) ?_ ?_
      rotate_left 2
      · cases ho
        refine ⟨rfl, rfl, fun W => ?_⟩
        go_simp; (try with_reducible rfl)
      · simp only [List.setIfInBounds_toArray, List.set_cons_succ, List.set_cons_zero]; exact rfl
      refine regk_done (by kernel_rfl) ?_
-- DONE E
      have hz := (hb1.trans (hb2.mono hb1.size))
      go_wp2_with fail
      go_roundw
      case rel => exact ⟨k + 1, by go_num, by omega, by rw [ES.out]; exact hy2.mono (Nat.le_trans G.out.size hb1.size), (G.out.drewN 1).trans (hz.mono G.out.size)⟩
      case measure => simp [intOf]; omega
    · have hke : l.take k = l := List.take_of_length_le (by omega)
      have O1 := Lib.hid (show OwnI wr w.heap.size u3 (endsF l) from by have := O.out; rw [hke] at this; exact this)
      clear hke
      go_wp2_with fail
      go_ret
      exact ⟨_, rfl, O1.out, G.out⟩
end Go.Proofs.Ytlpakooogbaclaa
