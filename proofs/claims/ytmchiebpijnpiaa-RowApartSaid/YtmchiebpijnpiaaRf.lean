/- Layer 6: a version read, by the document. -/
import Derived.Test.YtmchiebpijnpiaaRe
import Derived.Test.YtmchiebpijnpiaaBregf
namespace Go.Proofs.Ytmchiebpijnpiaa
open Go.RowKit
set_option linter.unusedVariables false

def qSt (m : List UInt8) (q : Nat) (e : Int) : Nat → Nat × Int
  | 0 => (q, e)
  | k + 1 => (stepQ m (qSt m q e k).1 (qSt m q e k).2).2
def qN (m : List UInt8) (q : Nat) (e : Int) (k : Nat) : Int := ((stepQ m (qSt m q e k).1 (qSt m q e k).2).1 : Nat)
def qNs (m : List UInt8) (q : Nat) (e : Int) (k : Nat) : List Int := (List.range k).map (qN m q e)
theorem qNs_succ (m : List UInt8) (q : Nat) (e : Int) (k : Nat) : qNs m q e (k + 1) = qNs m q e k ++ [qN m q e k] := by
  unfold qNs; rw [List.range_succ, List.map_append]; rfl
theorem qN_bd (m : List UInt8) (q : Nat) (e : Int) (k : Nat) : 0 ≤ qN m q e k ∧ qN m q e k < 4611686018427387904 := by
  have := stepQ_bd m (qSt m q e k).1 (qSt m q e k).2
  unfold qN; omega
def keyQ (m : List UInt8) (q : Nat) (e : Int) : List UInt8 × Nat × Int := textQ m (qSt m q e 6).1 (qSt m q e 6).2 100
def valQ (m : List UInt8) (q : Nat) (e : Int) : List UInt8 × Nat × Int := textQ m (keyQ m q e).2.1 (keyQ m q e).2.2 200
def rawQ (m : List UInt8) (q : Nat) (e : Int) : Ver := ⟨⟨(keyQ m q e).1.toArray⟩, qN m q e 0, qN m q e 1, qN m q e 2, (qN m q e 3, qN m q e 3 + qN m q e 4), ⟨(valQ m q e).1.toArray⟩, (qN m q e 5 == 1)⟩
def zeroV : Ver := ⟨⟨#[]⟩, 0, 0, 0, (0, 0), ⟨#[]⟩, false⟩
def takeQ (m : List UInt8) (q : Nat) (e : Int) : Ver × Int := if (valQ m q e).2.2 ≠ 0 then (zeroV, (valQ m q e).2.2) else if mayV (rawQ m q e) = true ∧ qN m q e 5 ≤ 1 then (rawQ m q e, 0) else (zeroV, 2)
theorem textQ_len (m : List UInt8) (q : Nat) (e most : Int) : (textQ m q e most).1.length ≤ m.length := by
  unfold textQ
  split
  · simp
  · split
    · simp
    · split
      · simp
      · simp only [List.length_take, List.length_drop]; omega
theorem RdQ.below {w w' : World} {g q B : Nat} {p : Value} {m : List UInt8} {e : Int} (h : RdQ w g p m q e) (hb : Below B w w') (hB : g < B) : RdQ w' g p m q e := by
  obtain ⟨h1, h2, h3, h4, h5, h6, hq, sl, h7, h8⟩ := h
  exact ⟨h1, Nat.lt_of_lt_of_le h2 hb.size, (hb.cell (p := ⟨g, 1, none⟩) hB).trans h3, (hb.cell (p := ⟨g, 2, none⟩) hB).trans h4, (hb.frozen (p := ⟨g, 1, none⟩) hB).trans h5, (hb.frozen (p := ⟨g, 2, none⟩) hB).trans h6, hq, sl, (hb.cell (p := ⟨g, 0, none⟩) hB).trans h7, h8.below (hb.mono (Nat.le_of_lt hB))⟩
theorem grown_then_below {a b c : World} {row : Option Nat} (h : a.grownBy b row) (k : Below a.heap.size b c) : a.grownBy c row :=
  ⟨k.os.trans h.os, k.tape.trans h.tape, k.output.trans h.output, Nat.le_trans h.size k.size, fun i hi hr => (k.block i hi).trans (h.block i hi hr)⟩

def intL : Lay Int := ⟨1, fun n => [.int .i64 n], fun _ => rfl, fun x u hu => by simp at hu; subst hu; rfl, by decide⟩
theorem int_info : (Try.prog.info? 3).map (fun i => (i.zero, i.size, i.bytes)) = some (some (.int .i64 0), 1, 8) := by kernel_rfl
abbrev OwnInt (w : World) (base : Nat) (v : Value) (l : List Int) : Prop := OwnX intL 3 w base v l

set_option maxHeartbeats 8000000 in
theorem ref6_take (w : World) (g : Nat) (p : Value) (m : List UInt8) (q : Nat) (e : Int) (h : RdQ w g p m q e) (hl : m.length ≤ 1000000) :
    Calls Try.prog 18 #[p] w fun x w' => x = .returned (.tuple #[verV (takeQ m q e).1, .int .i64 (takeQ m q e).2]) ∧ RdQ w' g p m (valQ m q e).2.1 (valQ m q e).2.2 ∧ w.grownBy w' (some g) := by
  have NU := Lib.hid (fun w q e h => number_doc w g p m q e h hl)
  have TX := Lib.hid (fun w q e most h hm => text_doc w g p m q e most h hl hm)
  have MY := Lib.hid ref6_may
  have hpt := h.ptr
  have hgl := h.lt
  subst hpt
  have D := Lib.hid (h.on (alloc_below w (.cells #[.string ⟨#[]⟩, .int .i64 0, .int .i64 0, .int .i64 0, .int .i64 0, .int .i64 0, .string ⟨#[]⟩, .bool false] 27)))
  have G := Lib.hid (alloc_below w (.cells #[.string ⟨#[]⟩, .int .i64 0, .int .i64 0, .int .i64 0, .int .i64 0, .int .i64 0, .string ⟨#[]⟩, .bool false] 27))
  have BZ := Lib.hid (Box.new w #[.string ⟨#[]⟩, .int .i64 0, .int .i64 0, .int .i64 0, .int .i64 0, .int .i64 0, .string ⟨#[]⟩, .bool false] 27 _ rfl)
  clear h
  go_enter Try.func18, Try.ntmps18
  go_wp2_with fail
  generalize w.alloc (.cells #[.string ⟨#[]⟩, .int .i64 0, .int .i64 0, .int .i64 0, .int .i64 0, .int .i64 0, .string ⟨#[]⟩, .bool false] 27) = W0 at *
  have hW0 := BZ.out.lt
  go_loopw [4, 5] (fun x i wr => ∃ k : Nat, i = .int .i64 k ∧ k ≤ 6 ∧ OwnInt wr W0.heap.size x (qNs m q e k) ∧ RdQ wr g (.pointer (some ⟨g, 0, none⟩)) m (qSt m q e k).1 (qSt m q e k).2 ∧ W0.grownBy wr (some g)) (fun _ i _ => 6 - (intOf i).toNat)
  case atStart => exact ⟨0, rfl, by omega, OwnX.nil _ _, D.out, World.grownBy.refl _ _⟩
  case round =>
    obtain ⟨k, rfl, hk, ho, hd, hb⟩ := hrel
    have O := Lib.hid ho
    have DR := Lib.hid hd
    have GW := Lib.hid hb
    clear ho hd hb
    by_cases hlt : k < 6
    · have NK := Lib.hid (NU.out wr _ _ DR.out)
      have hbd := qN_bd m q e k
      have HS := Lib.hid (qNs_succ m q e k)
      have hol : (qNs m q e k).length + 1 ≤ 1000000000 := by unfold qNs; rw [List.length_map, List.length_range]; omega
      have hn : ((stepQ m (qSt m q e k).1 (qSt m q e k).2).1 : Int) = qN m q e k := rfl
      have hst : (stepQ m (qSt m q e k).1 (qSt m q e k).2).2 = qSt m q e (k + 1) := rfl
      rw [hn, hst] at NK
      clear hn hst
      generalize qNs m q e k = acc at *
      generalize qN m q e k = n at *
      go_wp2_with fail
      refine NK.out.mono ?_
      rintro z w2 ⟨rfl, hd2, hg2⟩
      have O := Lib.hid (O.out.keep hg2 (by
        cases hb : u4.ownBlock with
        | none => exact .inl rfl
        | some b => exact .inr (fun e2 => by injection e2 with e2; have := O.out.base b hb; omega)))
      have GW := Lib.hid (GW.out.trans hg2)
      have hsz := GW.out.size
      go_wp2_with (at_builtin; refine wpl_appX rfl (.tmp 12) (.tmp 15) rfl Try.underlying69 int_info rfl W0.heap.size _ acc [n] _ _ _ rfl rfl rfl rfl O.out hsz hol (by decide) ?_; intro v3 w3 ho3 hg3 hb3)
      have OZ := Lib.hid (show OwnInt w3 W0.heap.size v3 (qNs m q e (k + 1)) from by rw [HS.out]; exact ho3)
      have DZ := Lib.hid (hd2.below hb3 (by omega))
      have GZ := Lib.hid (grown_then_below GW.out hb3)
      clear ho3 hg3 hb3 hd2 hg2 hsz
      go_roundw
      case rel => exact ⟨k + 1, by go_num, by omega, OZ.out, DZ.out, GZ.out⟩
      case measure => simp [intOf]; omega
    · have hk6 : k = 6 := by omega
      subst hk6
      have h0 := qN_bd m q e 0
      have h3 := qN_bd m q e 3
      have h4 := qN_bd m q e 4
      have h5 := qN_bd m q e 5
      have O := Lib.hid (show OwnInt wr W0.heap.size u4 [qN m q e 0, qN m q e 1, qN m q e 2, qN m q e 3, qN m q e 4, qN m q e 5] from O.out)
      have KT := Lib.hid (fun w h => TX.out w (qSt m q e 6).1 (qSt m q e 6).2 100 h (by omega))
      have VX := Lib.hid (fun w h => TX.out w (keyQ m q e).2.1 (keyQ m q e).2.2 200 h (by omega))
      rw [show textQ m (qSt m q e 6).1 (qSt m q e 6).2 100 = keyQ m q e from rfl] at KT
      rw [show textQ m (keyQ m q e).2.1 (keyQ m q e).2.2 200 = valQ m q e from rfl] at VX
      have htk := Lib.hid (show takeQ m q e = if (valQ m q e).2.2 ≠ 0 then (zeroV, (valQ m q e).2.2) else if mayV (rawQ m q e) = true ∧ qN m q e 5 ≤ 1 then (rawQ m q e, 0) else (zeroV, 2) from rfl)
      have hraw := Lib.hid (show rawQ m q e = ⟨⟨(keyQ m q e).1.toArray⟩, qN m q e 0, qN m q e 1, qN m q e 2, (qN m q e 3, qN m q e 3 + qN m q e 4), ⟨(valQ m q e).1.toArray⟩, (qN m q e 5 == 1)⟩ from rfl)
      have hkl : (keyQ m q e).1.length ≤ 1000000 := Nat.le_trans (textQ_len _ _ _ _) hl
      have MR := Lib.hid (fun w => MY.out (rawQ m q e) w (by rw [hraw.out]; exact (show (keyQ m q e).1.toArray.size ≤ 1000000 from by simpa using hkl)))
      rw [hraw.out] at MR htk
      unfold verV at MR
      simp only at MR
      generalize keyQ m q e = kq at *
      obtain ⟨vq, hvq⟩ : ∃ x, x = valQ m q e := ⟨_, rfl⟩
      rw [← hvq] at htk VX MR
      have HVQ := Lib.hid hvq
      clear hvq
      generalize (qSt m q e 6) = st at *
      generalize qN m q e 0 = n0 at *
      generalize qN m q e 1 = n1 at *
      generalize qN m q e 2 = n2 at *
      generalize qN m q e 3 = n3 at *
      generalize qN m q e 4 = n4 at *
      generalize qN m q e 5 = n5 at *
      clear hraw NU TX MY
      obtain ⟨g6, c6, e6, hg6, hgl6⟩ := O.out.pos (by simp)
      subst e6
      have d0 := Lib.hid (show wr.cell? ⟨g6, 0, none⟩ = some (.int .i64 n0) from O.out.cell 0 (by simp) 0 _ rfl)
      have d1 := Lib.hid (show wr.cell? ⟨g6, 1, none⟩ = some (.int .i64 n1) from O.out.cell 1 (by simp) 0 _ rfl)
      have d2 := Lib.hid (show wr.cell? ⟨g6, 2, none⟩ = some (.int .i64 n2) from O.out.cell 2 (by simp) 0 _ rfl)
      have d3 := Lib.hid (show wr.cell? ⟨g6, 3, none⟩ = some (.int .i64 n3) from O.out.cell 3 (by simp) 0 _ rfl)
      have d4 := Lib.hid (show wr.cell? ⟨g6, 4, none⟩ = some (.int .i64 n4) from O.out.cell 4 (by simp) 0 _ rfl)
      have d5 := Lib.hid (show wr.cell? ⟨g6, 5, none⟩ = some (.int .i64 n5) from O.out.cell 5 (by simp) 0 _ rfl)
      go_wp2_with fail
      have hws : IntKind.i64.wrap (n3 + n4) = n3 + n4 := by rw [IntKind.wrap_i64]; omega
      have HI : (fun W => Below wr.heap.size wr W) wr.drew := (Below.refl _ _).drewN 1
-- REGION A
      refine regk_start [27] (fun W => Below wr.heap.size wr W) (by kernel_rfl) ?_
      generalize wr.drew = y0 at *
      refine regk_free 0 17 (v := ?_) (T' := ?_) (fun _ => HI) (by kernel_rfl) (by kernel_rfl) (by kernel_rfl) (by kernel_rfl) (fun _ _ _ h => h) (fun o ho => ?_) ?_ ?_
      rotate_left 2
      · cases ho
        refine ⟨rfl, rfl, fun W => ?_⟩
        go_simp; (try with_reducible rfl)
      · simp only [List.setIfInBounds_toArray, List.set_cons_succ, List.set_cons_zero]; exact rfl
      refine regk_free 1 18 (v := ?_) (T' := ?_) (fun _ => HI) (by kernel_rfl) (by kernel_rfl) (by kernel_rfl) (by kernel_rfl) (fun _ _ _ h => h) (fun o ho => ?_) ?_ ?_
      rotate_left 2
      · cases ho
        refine ⟨rfl, rfl, fun W => ?_⟩
        go_simp; (try with_reducible rfl)
      · simp only [List.setIfInBounds_toArray, List.set_cons_succ, List.set_cons_zero]; exact rfl
      refine regk_take 2 19 (v := ?_) (T' := ?_) HI (by kernel_rfl) (by kernel_rfl) (by kernel_rfl) (by kernel_rfl) (by kernel_rfl) (by kernel_rfl) (fun _ _ _ h => h) (fun o ho => ?_) ?_ ?_
      rotate_left 2
      · cases ho
        refine ⟨rfl, rfl, fun W hW => ?_⟩
        have hV := (Below.cell (p := ⟨g6, 0, none⟩) (show Below wr.heap.size wr W from hW) hgl6).trans d0.out
        go_simp; (try with_reducible rfl)
      · simp only [List.setIfInBounds_toArray, List.set_cons_succ, List.set_cons_zero]; exact rfl
      refine regk_free 3 20 (v := ?_) (T' := ?_) (fun _ => HI) (by kernel_rfl) (by kernel_rfl) (by kernel_rfl) (by kernel_rfl) (fun _ _ _ h => h) (fun o ho => ?_) ?_ ?_
      rotate_left 2
      · cases ho
        refine ⟨rfl, rfl, fun W => ?_⟩
        go_simp; (try with_reducible rfl)
      · simp only [List.setIfInBounds_toArray, List.set_cons_succ, List.set_cons_zero]; exact rfl
      refine regk_free 4 21 (v := ?_) (T' := ?_) (fun _ => HI) (by kernel_rfl) (by kernel_rfl) (by kernel_rfl) (by kernel_rfl) (fun _ _ _ h => h) (fun o ho => ?_) ?_ ?_
      rotate_left 2
      · cases ho
        refine ⟨rfl, rfl, fun W => ?_⟩
        go_simp; (try with_reducible rfl)
      · simp only [List.setIfInBounds_toArray, List.set_cons_succ, List.set_cons_zero]; exact rfl
      refine regk_take 5 22 (v := ?_) (T' := ?_) HI (by kernel_rfl) (by kernel_rfl) (by kernel_rfl) (by kernel_rfl) (by kernel_rfl) (by kernel_rfl) (fun _ _ _ h => h) (fun o ho => ?_) ?_ ?_
      rotate_left 2
      · cases ho
        refine ⟨rfl, rfl, fun W hW => ?_⟩
        have hV := (Below.cell (p := ⟨g6, 1, none⟩) (show Below wr.heap.size wr W from hW) hgl6).trans d1.out
        go_simp; (try with_reducible rfl)
      · simp only [List.setIfInBounds_toArray, List.set_cons_succ, List.set_cons_zero]; exact rfl
      refine regk_free 6 23 (v := ?_) (T' := ?_) (fun _ => HI) (by kernel_rfl) (by kernel_rfl) (by kernel_rfl) (by kernel_rfl) (fun _ _ _ h => h) (fun o ho => ?_) ?_ ?_
      rotate_left 2
      · cases ho
        refine ⟨rfl, rfl, fun W => ?_⟩
        go_simp; (try with_reducible rfl)
      · simp only [List.setIfInBounds_toArray, List.set_cons_succ, List.set_cons_zero]; exact rfl
      refine regk_free 7 24 (v := ?_) (T' := ?_) (fun _ => HI) (by kernel_rfl) (by kernel_rfl) (by kernel_rfl) (by kernel_rfl) (fun _ _ _ h => h) (fun o ho => ?_) ?_ ?_
      rotate_left 2
      · cases ho
        refine ⟨rfl, rfl, fun W => ?_⟩
        go_simp; (try with_reducible rfl)
      · simp only [List.setIfInBounds_toArray, List.set_cons_succ, List.set_cons_zero]; exact rfl
      refine regk_take 8 25 (v := ?_) (T' := ?_) HI (by kernel_rfl) (by kernel_rfl) (by kernel_rfl) (by kernel_rfl) (by kernel_rfl) (by kernel_rfl) (fun _ _ _ h => h) (fun o ho => ?_) ?_ ?_
      rotate_left 2
      · cases ho
        refine ⟨rfl, rfl, fun W hW => ?_⟩
        have hV := (Below.cell (p := ⟨g6, 2, none⟩) (show Below wr.heap.size wr W from hW) hgl6).trans d2.out
        go_simp; (try with_reducible rfl)
      · simp only [List.setIfInBounds_toArray, List.set_cons_succ, List.set_cons_zero]; exact rfl
      refine regk_free 9 26 (v := ?_) (T' := ?_) (fun _ => HI) (by kernel_rfl) (by kernel_rfl) (by kernel_rfl) (by kernel_rfl) (fun _ _ _ h => h) (fun o ho => ?_) ?_ ?_
      rotate_left 2
      · cases ho
        refine ⟨rfl, rfl, fun W => ?_⟩
        go_simp; (try with_reducible rfl)
      · simp only [List.setIfInBounds_toArray, List.set_cons_succ, List.set_cons_zero]; exact rfl
      refine regk_free 10 27 (v := ?_) (T' := ?_) (fun _ => HI) (by kernel_rfl) (by kernel_rfl) (by kernel_rfl) (by kernel_rfl) (fun _ _ _ h => h) (fun o ho => ?_) ?_ ?_
      rotate_left 2
      · cases ho
        refine ⟨rfl, rfl, fun W => ?_⟩
        go_simp; (try with_reducible rfl)
      · simp only [List.setIfInBounds_toArray, List.set_cons_succ, List.set_cons_zero]; exact rfl
      refine regk_free 11 28 (v := ?_) (T' := ?_) (fun _ => HI) (by kernel_rfl) (by kernel_rfl) (by kernel_rfl) (by kernel_rfl) (fun _ _ _ h => h) (fun o ho => ?_) ?_ ?_
      rotate_left 2
      · cases ho
        refine ⟨rfl, rfl, fun W => ?_⟩
        go_simp; (try with_reducible rfl)
      · simp only [List.setIfInBounds_toArray, List.set_cons_succ, List.set_cons_zero]; exact rfl
      refine regk_take 12 29 (v := ?_) (T' := ?_) HI (by kernel_rfl) (by kernel_rfl) (by kernel_rfl) (by kernel_rfl) (by kernel_rfl) (by kernel_rfl) (fun _ _ _ h => h) (fun o ho => ?_) ?_ ?_
      rotate_left 2
      · cases ho
        refine ⟨rfl, rfl, fun W hW => ?_⟩
        have hV := (Below.cell (p := ⟨g6, 3, none⟩) (show Below wr.heap.size wr W from hW) hgl6).trans d3.out
        go_simp; (try with_reducible rfl)
      · simp only [List.setIfInBounds_toArray, List.set_cons_succ, List.set_cons_zero]; exact rfl
      refine regk_free 13 30 (v := ?_) (T' := ?_) (fun _ => HI) (by kernel_rfl) (by kernel_rfl) (by kernel_rfl) (by kernel_rfl) (fun _ _ _ h => h) (fun o ho => ?_) ?_ ?_
      rotate_left 2
      · cases ho
        refine ⟨rfl, rfl, fun W => ?_⟩
        go_simp; (try with_reducible rfl)
      · simp only [List.setIfInBounds_toArray, List.set_cons_succ, List.set_cons_zero]; exact rfl
      refine regk_free 14 31 (v := ?_) (T' := ?_) (fun _ => HI) (by kernel_rfl) (by kernel_rfl) (by kernel_rfl) (by kernel_rfl) (fun _ _ _ h => h) (fun o ho => ?_) ?_ ?_
      rotate_left 2
      · cases ho
        refine ⟨rfl, rfl, fun W => ?_⟩
        go_simp; (try with_reducible rfl)
      · simp only [List.setIfInBounds_toArray, List.set_cons_succ, List.set_cons_zero]; exact rfl
      refine regk_take 15 32 (v := ?_) (T' := ?_) HI (by kernel_rfl) (by kernel_rfl) (by kernel_rfl) (by kernel_rfl) (by kernel_rfl) (by kernel_rfl) (fun _ _ _ h => h) (fun o ho => ?_) ?_ ?_
      rotate_left 2
      · cases ho
        refine ⟨rfl, rfl, fun W hW => ?_⟩
        have hV := (Below.cell (p := ⟨g6, 3, none⟩) (show Below wr.heap.size wr W from hW) hgl6).trans d3.out
        go_simp; (try with_reducible rfl)
      · simp only [List.setIfInBounds_toArray, List.set_cons_succ, List.set_cons_zero]; exact rfl
      refine regk_free 16 33 (v := ?_) (T' := ?_) (fun _ => HI) (by kernel_rfl) (by kernel_rfl) (by kernel_rfl) (by kernel_rfl) (fun _ _ _ h => h) (fun o ho => ?_) ?_ ?_
      rotate_left 2
      · cases ho
        refine ⟨rfl, rfl, fun W => ?_⟩
        go_simp; (try with_reducible rfl)
      · simp only [List.setIfInBounds_toArray, List.set_cons_succ, List.set_cons_zero]; exact rfl
      refine regk_free 17 34 (v := ?_) (T' := ?_) (fun _ => HI) (by kernel_rfl) (by kernel_rfl) (by kernel_rfl) (by kernel_rfl) (fun _ _ _ h => h) (fun o ho => ?_) ?_ ?_
      rotate_left 2
      · cases ho
        refine ⟨rfl, rfl, fun W => ?_⟩
        go_simp; (try with_reducible rfl)
      · simp only [List.setIfInBounds_toArray, List.set_cons_succ, List.set_cons_zero]; exact rfl
      refine regk_take 18 35 (v := ?_) (T' := ?_) HI (by kernel_rfl) (by kernel_rfl) (by kernel_rfl) (by kernel_rfl) (by kernel_rfl) (by kernel_rfl) (fun _ _ _ h => h) (fun o ho => ?_) ?_ ?_
      rotate_left 2
      · cases ho
        refine ⟨rfl, rfl, fun W hW => ?_⟩
        have hV := (Below.cell (p := ⟨g6, 4, none⟩) (show Below wr.heap.size wr W from hW) hgl6).trans d4.out
        go_simp; (try with_reducible rfl)
      · simp only [List.setIfInBounds_toArray, List.set_cons_succ, List.set_cons_zero]; exact rfl
      refine regk_free 19 36 (v := ?_) (T' := ?_) (fun _ => HI) (by kernel_rfl) (by kernel_rfl) (by kernel_rfl) (by kernel_rfl) (fun _ _ _ h => h) (fun o ho => ?_) ?_ ?_
      rotate_left 2
      · cases ho
        refine ⟨rfl, rfl, fun W => ?_⟩
        go_simp; (try with_reducible rfl)
      · simp only [List.setIfInBounds_toArray, List.set_cons_succ, List.set_cons_zero]; exact rfl
      refine regk_free 20 37 (v := ?_) (T' := ?_) (fun _ => HI) (by kernel_rfl) (by kernel_rfl) (by kernel_rfl) (by kernel_rfl) (fun _ _ _ h => h) (fun o ho => ?_) ?_ ?_
      rotate_left 2
      · cases ho
        refine ⟨rfl, rfl, fun W => ?_⟩
        go_simp; (try with_reducible rfl)
      · simp only [List.setIfInBounds_toArray, List.set_cons_succ, List.set_cons_zero]; exact rfl
      refine regk_free 21 38 (v := ?_) (T' := ?_) (fun _ => HI) (by kernel_rfl) (by kernel_rfl) (by kernel_rfl) (by kernel_rfl) (fun _ _ _ h => h) (fun o ho => ?_) ?_ ?_
      rotate_left 2
      · cases ho
        refine ⟨rfl, rfl, fun W => ?_⟩
        go_simp; (try with_reducible rfl)
      · simp only [List.setIfInBounds_toArray, List.set_cons_succ, List.set_cons_zero]; exact rfl
      refine regk_free 22 39 (v := ?_) (T' := ?_) (fun _ => HI) (by kernel_rfl) (by kernel_rfl) (by kernel_rfl) (by kernel_rfl) (fun _ _ _ h => h) (fun o ho => ?_) ?_ ?_
      rotate_left 2
      · cases ho
        refine ⟨rfl, rfl, fun W => ?_⟩
        go_simp; (try with_reducible rfl)
      · simp only [List.setIfInBounds_toArray, List.set_cons_succ, List.set_cons_zero]; exact rfl
      refine regk_take 23 40 (v := ?_) (T' := ?_) HI (by kernel_rfl) (by kernel_rfl) (by kernel_rfl) (by kernel_rfl) (by kernel_rfl) (by kernel_rfl) (fun _ _ _ h => h) (fun o ho => ?_) ?_ ?_
      rotate_left 2
      · cases ho
        refine ⟨rfl, rfl, fun W hW => ?_⟩
        have hV := (Below.cell (p := ⟨g6, 5, none⟩) (show Below wr.heap.size wr W from hW) hgl6).trans d5.out
        go_simp; (try with_reducible rfl)
      · simp only [List.setIfInBounds_toArray, List.set_cons_succ, List.set_cons_zero]; exact rfl
      refine regk_free 24 41 (v := ?_) (T' := ?_) (fun _ => HI) (by kernel_rfl) (by kernel_rfl) (by kernel_rfl) (by kernel_rfl) (fun _ _ _ h => h) (fun o ho => ?_) ?_ ?_
      rotate_left 2
      · cases ho
        refine ⟨rfl, rfl, fun W => ?_⟩
        go_simp; (try with_reducible rfl)
      · simp only [List.setIfInBounds_toArray, List.set_cons_succ, List.set_cons_zero]; exact rfl
      refine regk_free 25 42 (v := ?_) (T' := ?_) (fun _ => HI) (by kernel_rfl) (by kernel_rfl) (by kernel_rfl) (by kernel_rfl) (fun _ _ _ h => h) (fun o ho => ?_) ?_ ?_
      rotate_left 2
      · cases ho
        refine ⟨rfl, rfl, fun W => ?_⟩
        go_simp; (try with_reducible rfl)
      · simp only [List.setIfInBounds_toArray, List.set_cons_succ, List.set_cons_zero]; exact rfl
      refine regk_make (I' := (fun W => Below wr.heap.size wr W)) (fun _ h => h) 26 6 (v := .pointer (some ⟨y0.heap.size, 0, none⟩)) (w' := y0.alloc (.cells #[.string ⟨#[]⟩, .int .i64 0, .int .i64 0, .int .i64 0, .int .i64 0, .int .i64 0, .string ⟨#[]⟩, .bool false] 27)) (T' := ?_) (by kernel_rfl) (fun o ho => ?_) (fun _ => ?_) ?_ ?_
      rotate_left
      · cases ho
        refine ⟨rfl, rfl, ?_⟩
        go_simp; (try with_reducible rfl)
      · exact (show Below wr.heap.size wr y0 from HI).alloc (show Below wr.heap.size wr y0 from HI).size _
      · simp only [List.setIfInBounds_toArray, List.set_cons_succ, List.set_cons_zero]; exact rfl
      refine regk_store (I' := (fun W => Below wr.heap.size wr W)) (fun _ h => h) 27 (w' := y0.alloc (.cells #[.string ⟨#[]⟩, .int .i64 n0, .int .i64 n1, .int .i64 n2, .int .i64 n3, .int .i64 (n3 + n4), .string ⟨#[]⟩, .bool (n5 == 1)] 27)) (by kernel_rfl) (fun o ho => ?_) (noB_no (by kernel_rfl)) ?_
      · cases ho
        refine ⟨rfl, rfl, ?_⟩
        go_simp; (try with_reducible rfl)
      refine regk_done (by kernel_rfl) ?_
-- DONE A
      have hj := (show Below wr.heap.size wr y0 from HI)
      have hgz := GW.out.size
      have DV := Lib.hid ((DR.out.on hj).on (alloc_below y0 (.cells #[.string ⟨#[]⟩, .int .i64 n0, .int .i64 n1, .int .i64 n2, .int .i64 n3, .int .i64 (n3 + n4), .string ⟨#[]⟩, .bool (n5 == 1)] 27)))
      have BV := Lib.hid (Box.new y0 #[.string ⟨#[]⟩, .int .i64 n0, .int .i64 n1, .int .i64 n2, .int .i64 n3, .int .i64 (n3 + n4), .string ⟨#[]⟩, .bool (n5 == 1)] 27 _ rfl)
      have BZ := Lib.hid (((BZ.out.keep GW.out (by intro e; injection e with e; omega)).later hj).alloc (.cells #[.string ⟨#[]⟩, .int .i64 n0, .int .i64 n1, .int .i64 n2, .int .i64 n3, .int .i64 (n3 + n4), .string ⟨#[]⟩, .bool (n5 == 1)] 27))
      have GV := Lib.hid (grown_then_below (GW.out.trans (grown_of_below hj)) ((alloc_below y0 (.cells #[.string ⟨#[]⟩, .int .i64 n0, .int .i64 n1, .int .i64 n2, .int .i64 n3, .int .i64 (n3 + n4), .string ⟨#[]⟩, .bool (n5 == 1)] 27)).mono (Nat.le_trans hgz hj.size)))
      have hnv := Lib.hid (show w.heap.size < y0.heap.size from by have := hj.size; omega)
      have O := Lib.hid ((O.out.on hj).on (alloc_below y0 (.cells #[.string ⟨#[]⟩, .int .i64 n0, .int .i64 n1, .int .i64 n2, .int .i64 n3, .int .i64 (n3 + n4), .string ⟨#[]⟩, .bool (n5 == 1)] 27)))
      have GNV := Lib.hid (show g6 < y0.heap.size from Nat.lt_of_lt_of_le hgl6 hj.size)
      have NVW := Lib.hid (show W0.heap.size ≤ y0.heap.size from Nat.le_trans hgz hj.size)
      generalize hwv : y0.alloc (.cells #[.string ⟨#[]⟩, .int .i64 n0, .int .i64 n1, .int .i64 n2, .int .i64 n3, .int .i64 (n3 + n4), .string ⟨#[]⟩, .bool (n5 == 1)] 27) = wv at *
      generalize y0.heap.size = nv at *
      have ON := Lib.hid (show g6 < nv from by have := NVW.out; have := GNV.out; omega)
      clear HI hj d0 d1 d2 d3 d4 d5 DR GW hgz GNV
      go_wp2_with fail
      clear hwv
      refine (KT.out _ DV.out).mono ?_
      rintro z w5 ⟨rfl, hd5, hg5⟩
      have BV := Lib.hid (BV.out.keep hg5 (by intro e; injection e with e; have := hnv.out; omega))
      have BZ := Lib.hid (BZ.out.keep hg5 (by intro e; injection e with e; omega))
      have GV := Lib.hid (GV.out.trans hg5)
      have D5 := Lib.hid (hd5.below (below_set (g := nv) w5 0 (.string ⟨kq.1.toArray⟩)) (by have := hnv.out; omega))
      have v0 := BV.out.cell 0 (.string ⟨#[]⟩) rfl
      have f0 := BV.out.frozen 0
      have BV5 := Lib.hid (show Box (w5.setCell ⟨nv, 0, none⟩ (.string ⟨kq.1.toArray⟩)) nv #[.string ⟨kq.1.toArray⟩, .int .i64 n0, .int .i64 n1, .int .i64 n2, .int .i64 n3, .int .i64 (n3 + n4), .string ⟨#[]⟩, .bool (n5 == 1)] 27 from BV.out.set 0 _)
      have BZ5 := Lib.hid (BZ.out.other ⟨nv, 0, none⟩ (.string ⟨kq.1.toArray⟩) (by have := hnv.out; simp only; omega))
      have hz5 := GV.out.size
      have GV5 := Lib.hid (grown_then_below GV.out ((below_set (g := nv) w5 0 (.string ⟨kq.1.toArray⟩)).mono (show W0.heap.size ≤ nv from NVW.out)))
      have O := Lib.hid ((O.out.keep hg5 (.inr (by intro e; simp [Value.ownBlock] at e; omega))).keep (grown_set (g := nv) w5 0 (.string ⟨kq.1.toArray⟩)) (.inr (by intro e; simp [Value.ownBlock] at e; have := ON.out; omega)))
      clear hd5 hg5 hz5
      go_wp2_with fail
      clear v0 f0
      generalize w5.setCell ⟨nv, 0, none⟩ (.string ⟨kq.1.toArray⟩) = W5 at *
      refine (VX.out _ D5.out).mono ?_
      rintro z w6 ⟨rfl, hd6, hg6'⟩
      have BV := Lib.hid (BV5.out.keep hg6' (by intro e; injection e with e; have := hnv.out; omega))
      have BZ := Lib.hid (BZ5.out.keep hg6' (by intro e; injection e with e; omega))
      have GV := Lib.hid (GV5.out.trans hg6')
      have v6 := BV.out.cell 6 (.string ⟨#[]⟩) rfl
      have f6 := BV.out.frozen 6
      have D7 := Lib.hid (hd6.below (below_set (g := nv) w6 6 (.string ⟨vq.1.toArray⟩)) (by have := hnv.out; omega))
      have BV7 := Lib.hid (show Box (w6.setCell ⟨nv, 6, none⟩ (.string ⟨vq.1.toArray⟩)) nv #[.string ⟨kq.1.toArray⟩, .int .i64 n0, .int .i64 n1, .int .i64 n2, .int .i64 n3, .int .i64 (n3 + n4), .string ⟨vq.1.toArray⟩, .bool (n5 == 1)] 27 from BV.out.set 6 _)
      have BZ7 := Lib.hid (BZ.out.other ⟨nv, 6, none⟩ (.string ⟨vq.1.toArray⟩) (by have := hnv.out; simp only; omega))
      have GV7 := Lib.hid (grown_then_below GV.out ((below_set (g := nv) w6 6 (.string ⟨vq.1.toArray⟩)).mono (show W0.heap.size ≤ nv from NVW.out)))
      have O := Lib.hid ((O.out.keep hg6' (.inr (by intro e; simp [Value.ownBlock] at e; omega))).keep (grown_set (g := nv) w6 6 (.string ⟨vq.1.toArray⟩)) (.inr (by intro e; simp [Value.ownBlock] at e; have := ON.out; omega)))
      have ce := D7.out.err
      clear hd6 hg6' D5 BV5 BZ5 GV5 DV
      generalize hmv : mayV _ = mv at MR htk
      by_cases he : vq.2.2 = 0
      · have c0 := BV7.out.cell 0 (.string ⟨kq.1.toArray⟩) rfl
        have c1 := BV7.out.cell 1 (.int .i64 n0) rfl
        have c2 := BV7.out.cell 2 (.int .i64 n1) rfl
        have c3 := BV7.out.cell 3 (.int .i64 n2) rfl
        have c4 := BV7.out.cell 4 (.int .i64 n3) rfl
        have c5 := BV7.out.cell 5 (.int .i64 (n3 + n4)) rfl
        have c6 := BV7.out.cell 6 (.string ⟨vq.1.toArray⟩) rfl
        have c7 := BV7.out.cell 7 (.bool (n5 == 1)) rfl
        go_wp2_with fail
        generalize w6.setCell ⟨nv, 6, none⟩ (.string ⟨vq.1.toArray⟩) = W7 at *
        refine (MR.out _).mono ?_
        rintro z w8 ⟨rfl, hb8⟩
        have BZ := Lib.hid (BZ7.out.later hb8)
        have BV := Lib.hid (BV7.out.later hb8)
        have O := Lib.hid (O.out.on hb8)
        have D8 := Lib.hid (D7.out.on hb8)
        have GV := Lib.hid (GV7.out.trans (grown_of_below hb8))
        clear hb8 c0 c1 c2 c3 c4 c5 c6 c7 ce v6 f6
        have d5 := (show w8.cell? ⟨g6, 5, none⟩ = some (.int .i64 n5) from O.out.cell 5 (by simp) 0 _ rfl)
        cases mv
        · have ht := Lib.hid (show takeQ m q e = (zeroV, 2) from by rw [htk.out, if_neg (by simp [he]), if_neg (by simp)])
          have z0 := BZ.out.cell 0 (.string ⟨#[]⟩) rfl
          have z1 := BZ.out.cell 1 (.int .i64 0) rfl
          have z2 := BZ.out.cell 2 (.int .i64 0) rfl
          have z3 := BZ.out.cell 3 (.int .i64 0) rfl
          have z4 := BZ.out.cell 4 (.int .i64 0) rfl
          have z5 := BZ.out.cell 5 (.int .i64 0) rfl
          have z6 := BZ.out.cell 6 (.string ⟨#[]⟩) rfl
          have z7 := BZ.out.cell 7 (.bool false) rfl
          have f0 := BZ.out.frozen 0
          have f1 := BZ.out.frozen 1
          have f2 := BZ.out.frozen 2
          have f3 := BZ.out.frozen 3
          have f4 := BZ.out.frozen 4
          have f5 := BZ.out.frozen 5
          have f6 := BZ.out.frozen 6
          have f7 := BZ.out.frozen 7
          have HZ := Lib.hid (((((((((Below.refl w.heap.size w8).setCell (p := ⟨w.heap.size, 0, none⟩) (Nat.le_refl _) (.string ⟨#[]⟩)).setCell (p := ⟨w.heap.size, 1, none⟩) (Nat.le_refl _) (.int .i64 0)).setCell (p := ⟨w.heap.size, 2, none⟩) (Nat.le_refl _) (.int .i64 0)).setCell (p := ⟨w.heap.size, 3, none⟩) (Nat.le_refl _) (.int .i64 0)).setCell (p := ⟨w.heap.size, 4, none⟩) (Nat.le_refl _) (.int .i64 0)).setCell (p := ⟨w.heap.size, 5, none⟩) (Nat.le_refl _) (.int .i64 0)).setCell (p := ⟨w.heap.size, 6, none⟩) (Nat.le_refl _) (.string ⟨#[]⟩)).setCell (p := ⟨w.heap.size, 7, none⟩) (Nat.le_refl _) (.bool false))
          go_wp2_with fail
          refine bodyPost_ret (v := .tuple #[.agg #[.string ⟨#[]⟩, .int .i64 0, .int .i64 0, .int .i64 0, .int .i64 0, .int .i64 0, .string ⟨#[]⟩, .bool false], .int .i64 (2)]) ?_ rfl ⟨by rw [ht.out]; rfl, (by rw [← HVQ.out]; exact D8.out.below HZ.out hgl), grown_then_below ((grown_of_below G.out).trans GV.out) HZ.out⟩
          rw [results_cell_tmp rfl]
          go_simp
        · by_cases h1 : n5 ≤ 1
          · have ht := Lib.hid (show takeQ m q e = (⟨⟨kq.1.toArray⟩, n0, n1, n2, (n3, n3 + n4), ⟨vq.1.toArray⟩, n5 == 1⟩, 0) from by rw [htk.out, if_neg (by simp [he]), if_pos ⟨rfl, h1⟩])
            have c0 := BV.out.cell 0 (.string ⟨kq.1.toArray⟩) rfl
            have c1 := BV.out.cell 1 (.int .i64 n0) rfl
            have c2 := BV.out.cell 2 (.int .i64 n1) rfl
            have c3 := BV.out.cell 3 (.int .i64 n2) rfl
            have c4 := BV.out.cell 4 (.int .i64 n3) rfl
            have c5 := BV.out.cell 5 (.int .i64 (n3 + n4)) rfl
            have c6 := BV.out.cell 6 (.string ⟨vq.1.toArray⟩) rfl
            have c7 := BV.out.cell 7 (.bool (n5 == 1)) rfl
            have z0 := BZ.out.cell 0 (.string ⟨#[]⟩) rfl
            have z1 := BZ.out.cell 1 (.int .i64 0) rfl
            have z2 := BZ.out.cell 2 (.int .i64 0) rfl
            have z3 := BZ.out.cell 3 (.int .i64 0) rfl
            have z4 := BZ.out.cell 4 (.int .i64 0) rfl
            have z5 := BZ.out.cell 5 (.int .i64 0) rfl
            have z6 := BZ.out.cell 6 (.string ⟨#[]⟩) rfl
            have z7 := BZ.out.cell 7 (.bool false) rfl
            have f0 := BZ.out.frozen 0
            have f1 := BZ.out.frozen 1
            have f2 := BZ.out.frozen 2
            have f3 := BZ.out.frozen 3
            have f4 := BZ.out.frozen 4
            have f5 := BZ.out.frozen 5
            have f6 := BZ.out.frozen 6
            have f7 := BZ.out.frozen 7
            have HZ := Lib.hid (((((((((Below.refl w.heap.size w8).setCell (p := ⟨w.heap.size, 0, none⟩) (Nat.le_refl _) (.string ⟨kq.1.toArray⟩)).setCell (p := ⟨w.heap.size, 1, none⟩) (Nat.le_refl _) (.int .i64 n0)).setCell (p := ⟨w.heap.size, 2, none⟩) (Nat.le_refl _) (.int .i64 n1)).setCell (p := ⟨w.heap.size, 3, none⟩) (Nat.le_refl _) (.int .i64 n2)).setCell (p := ⟨w.heap.size, 4, none⟩) (Nat.le_refl _) (.int .i64 n3)).setCell (p := ⟨w.heap.size, 5, none⟩) (Nat.le_refl _) (.int .i64 (n3 + n4))).setCell (p := ⟨w.heap.size, 6, none⟩) (Nat.le_refl _) (.string ⟨vq.1.toArray⟩)).setCell (p := ⟨w.heap.size, 7, none⟩) (Nat.le_refl _) (.bool (n5 == 1)))
            go_wp2_with fail
            refine bodyPost_ret (v := .tuple #[.agg #[.string ⟨kq.1.toArray⟩, .int .i64 n0, .int .i64 n1, .int .i64 n2, .int .i64 n3, .int .i64 (n3 + n4), .string ⟨vq.1.toArray⟩, .bool (n5 == 1)], .int .i64 (0)]) ?_ rfl ⟨by rw [ht.out]; rfl, (by rw [← HVQ.out]; exact D8.out.below HZ.out hgl), grown_then_below ((grown_of_below G.out).trans GV.out) HZ.out⟩
            rw [results_cell_tmp rfl]
            go_simp
          · have ht := Lib.hid (show takeQ m q e = (zeroV, 2) from by rw [htk.out, if_neg (by simp [he]), if_neg (by simp; omega)])
            have z0 := BZ.out.cell 0 (.string ⟨#[]⟩) rfl
            have z1 := BZ.out.cell 1 (.int .i64 0) rfl
            have z2 := BZ.out.cell 2 (.int .i64 0) rfl
            have z3 := BZ.out.cell 3 (.int .i64 0) rfl
            have z4 := BZ.out.cell 4 (.int .i64 0) rfl
            have z5 := BZ.out.cell 5 (.int .i64 0) rfl
            have z6 := BZ.out.cell 6 (.string ⟨#[]⟩) rfl
            have z7 := BZ.out.cell 7 (.bool false) rfl
            have f0 := BZ.out.frozen 0
            have f1 := BZ.out.frozen 1
            have f2 := BZ.out.frozen 2
            have f3 := BZ.out.frozen 3
            have f4 := BZ.out.frozen 4
            have f5 := BZ.out.frozen 5
            have f6 := BZ.out.frozen 6
            have f7 := BZ.out.frozen 7
            have HZ := Lib.hid (((((((((Below.refl w.heap.size w8).setCell (p := ⟨w.heap.size, 0, none⟩) (Nat.le_refl _) (.string ⟨#[]⟩)).setCell (p := ⟨w.heap.size, 1, none⟩) (Nat.le_refl _) (.int .i64 0)).setCell (p := ⟨w.heap.size, 2, none⟩) (Nat.le_refl _) (.int .i64 0)).setCell (p := ⟨w.heap.size, 3, none⟩) (Nat.le_refl _) (.int .i64 0)).setCell (p := ⟨w.heap.size, 4, none⟩) (Nat.le_refl _) (.int .i64 0)).setCell (p := ⟨w.heap.size, 5, none⟩) (Nat.le_refl _) (.int .i64 0)).setCell (p := ⟨w.heap.size, 6, none⟩) (Nat.le_refl _) (.string ⟨#[]⟩)).setCell (p := ⟨w.heap.size, 7, none⟩) (Nat.le_refl _) (.bool false))
            go_wp2_with fail
            refine bodyPost_ret (v := .tuple #[.agg #[.string ⟨#[]⟩, .int .i64 0, .int .i64 0, .int .i64 0, .int .i64 0, .int .i64 0, .string ⟨#[]⟩, .bool false], .int .i64 (2)]) ?_ rfl ⟨by rw [ht.out]; rfl, (by rw [← HVQ.out]; exact D8.out.below HZ.out hgl), grown_then_below ((grown_of_below G.out).trans GV.out) HZ.out⟩
            rw [results_cell_tmp rfl]
            go_simp
      · have hne : (vq.2.2 != 0) = true := by simpa [bne] using he
        have ht := Lib.hid (show takeQ m q e = (zeroV, vq.2.2) from by rw [htk.out, if_pos he])
        go_wp2_with fail
        generalize w6.setCell ⟨nv, 6, none⟩ (.string ⟨vq.1.toArray⟩) = W7 at *
        have z0 := BZ7.out.cell 0 (.string ⟨#[]⟩) rfl
        have z1 := BZ7.out.cell 1 (.int .i64 0) rfl
        have z2 := BZ7.out.cell 2 (.int .i64 0) rfl
        have z3 := BZ7.out.cell 3 (.int .i64 0) rfl
        have z4 := BZ7.out.cell 4 (.int .i64 0) rfl
        have z5 := BZ7.out.cell 5 (.int .i64 0) rfl
        have z6 := BZ7.out.cell 6 (.string ⟨#[]⟩) rfl
        have z7 := BZ7.out.cell 7 (.bool false) rfl
        have f0 := BZ7.out.frozen 0
        have f1 := BZ7.out.frozen 1
        have f2 := BZ7.out.frozen 2
        have f3 := BZ7.out.frozen 3
        have f4 := BZ7.out.frozen 4
        have f5 := BZ7.out.frozen 5
        have f6 := BZ7.out.frozen 6
        have f7 := BZ7.out.frozen 7
        go_region_with (fail)
        all_goals
          have HZ := Lib.hid (show Below w.heap.size W7 (World.drew ((((((((W7.setCell ⟨w.heap.size, 0, none⟩ (.string ⟨#[]⟩)).setCell ⟨w.heap.size, 1, none⟩ (.int .i64 0)).setCell ⟨w.heap.size, 2, none⟩ (.int .i64 0)).setCell ⟨w.heap.size, 3, none⟩ (.int .i64 0)).setCell ⟨w.heap.size, 4, none⟩ (.int .i64 0)).setCell ⟨w.heap.size, 5, none⟩ (.int .i64 0)).setCell ⟨w.heap.size, 6, none⟩ (.string ⟨#[]⟩)).setCell ⟨w.heap.size, 7, none⟩ (.bool false))) from (((((((((Below.refl w.heap.size W7).setCell (p := ⟨w.heap.size, 0, none⟩) (Nat.le_refl _) (.string ⟨#[]⟩)).setCell (p := ⟨w.heap.size, 1, none⟩) (Nat.le_refl _) (.int .i64 0)).setCell (p := ⟨w.heap.size, 2, none⟩) (Nat.le_refl _) (.int .i64 0)).setCell (p := ⟨w.heap.size, 3, none⟩) (Nat.le_refl _) (.int .i64 0)).setCell (p := ⟨w.heap.size, 4, none⟩) (Nat.le_refl _) (.int .i64 0)).setCell (p := ⟨w.heap.size, 5, none⟩) (Nat.le_refl _) (.int .i64 0)).setCell (p := ⟨w.heap.size, 6, none⟩) (Nat.le_refl _) (.string ⟨#[]⟩)).setCell (p := ⟨w.heap.size, 7, none⟩) (Nat.le_refl _) (.bool false)).drewN 1)
          go_wp2_with fail
          refine bodyPost_ret (v := .tuple #[.agg #[.string ⟨#[]⟩, .int .i64 0, .int .i64 0, .int .i64 0, .int .i64 0, .int .i64 0, .string ⟨#[]⟩, .bool false], .int .i64 (vq.2.2)]) ?_ rfl ⟨by rw [ht.out]; rfl, (by rw [← HVQ.out]; exact D7.out.below HZ.out hgl), grown_then_below ((grown_of_below G.out).trans GV7.out) HZ.out⟩
          rw [results_cell_tmp rfl]
          go_simp
end Go.Proofs.Ytmchiebpijnpiaa
