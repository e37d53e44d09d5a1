/- OrderJoins: for every two tuples the bytes of all their parts are the bytes of the one, and behind them those of the other, and are read so. No conditions. -/
import Derived.Test.YtnapadpkfjpklaaOaa
namespace Go.Proofs.Ytnapadpkfjpklaa.L07
open Go.RowKit Go.ChangeShapes Go.WideShapes Go.ChangeAt
set_option linter.unusedVariables false

theorem ba_append (x y : List UInt8) : (ByteArray.mk x.toArray ++ ByteArray.mk y.toArray) = ByteArray.mk (x ++ y).toArray := by
  apply ByteArray.ext
  simp

theorem encParts_join (l m : List PartD) : encParts (l ++ m) = encParts l ++ encParts m := by simp [encParts]

set_option maxHeartbeats 8000000 in
set_option maxRecDepth 1000000 in
theorem walk (va vb : Value) (l m : List PartD) (w : World) (ha : RdParts w w.heap.size va l) (hb : RdParts w w.heap.size vb m) (hl : ∀ p ∈ l, PartIn p) (hm : ∀ p ∈ m, PartIn p) :
    Calls Try.prog 9 #[va, vb] w fun e w' => e = .returned (.bool true) ∧ Below w.heap.size w w' := by
  have hA := Lib.hid ha
  have hB := Lib.hid hb
  clear ha hb
  have okL := Lib.hid (cutL_ok hl)
  have okM := Lib.hid (cutL_ok hm)
  have okALL := Lib.hid (show ∀ p ∈ cutL l ++ cutL m, PartOk p from fun p hp => (List.mem_append.1 hp).elim (cutL_ok hl p) (cutL_ok hm p))
  have lnL := cutL_length l
  have lnM := cutL_length m
  have lnA : (cutL l ++ cutL m).length ≤ 12 := by rw [List.length_append]; omega
  have szL := encParts_short (cutL_text hl) lnL
  have szM := encParts_short (cutL_text hm) lnM
  have szA : (encParts (cutL l) ++ encParts (cutL m)).length ≤ 2000 := by rw [List.length_append]; omega
  have hrd := Lib.hid (show rdAll (encParts (cutL l) ++ encParts (cutL m)) = (0, (cutL l ++ cutL m).map norm) from by
    rw [← encParts_join]; exact rdAll_written _ (fun p hp => (List.mem_append.1 hp).elim (fun h => ⟨(cutL_ok hl p h).1, (cutL_ok hl p h).2.1⟩) (fun h => ⟨(cutL_ok hm p h).1, (cutL_ok hm p h).2.1⟩)))
  have hnorm := Lib.hid (cmpParts_norm (cutL l ++ cutL m))
  have hjoin := Lib.hid (encParts_join (cutL l) (cutL m))
  clear hl hm
  go_enter Try.func9, Try.ntmps9
  go_wp2_with fail
  refine (ref_cut va l _ hA.out).mono ?_
  rintro e w1 ⟨v1, rfl, ho1, hb1⟩
  have hB := Lib.hid (hB.out.on hb1)
  have R1 := Lib.hid ho1.rd
  have H1 := Lib.hid hb1
  clear ho1 hb1
  go_wp2_with fail
  refine (ref_cut vb m _ hB.out).mono ?_
  rintro e w2 ⟨v2, rfl, ho2, hb2⟩
  have R2 := Lib.hid ho2.rd
  have R1 := Lib.hid (R1.out.on hb2)
  have H2 := Lib.hid (H1.out.trans (hb2.mono H1.out.size))
  have hs2 := H2.out.size
  clear ho2 hb2
  generalize cutL l = a at *
  generalize cutL m = b at *
  go_wp2_with (first
    | (at_builtin; refine wpl_app_parts rfl (.tmp 13) (.tmp 14) rfl w2.heap.size w2.heap.size (.slice none 0 0) v1 [] a rfl rfl (OwnP.nil _ _) R1.out (Nat.le_refl _) ?_ ?_; rotate_left; intro v3 w3 ho3 hg3 hs3
       have hb3 : Below w2.heap.size w2 w3 := hg3.below (Nat.le_refl _) (by simp [Value.ownBlock])
       have R2b := Lib.hid (R2.out.below hb3))
    | (at_builtin; refine wpl_app_parts rfl (.tmp 16) (.tmp 17) rfl w2.heap.size w2.heap.size v3 v2 ([] ++ a) b rfl rfl ho3 R2b.out (by omega) ?_ ?_; rotate_left; intro va2 w4 ho4 hg4 hs4))
  · have hb3 : Below w2.heap.size w2 w3 := hg3.below (Nat.le_refl _) (by simp [Value.ownBlock])
    have hb4 : Below w2.heap.size w2 w4 := hb3.trans (hg4.below (by omega) ho3.base)
    have RA := Lib.hid (show RdParts w4 w4.heap.size va2 (a ++ b) from by simpa using ho4.rd)
    have R1 := Lib.hid (R1.out.on hb4)
    have R2 := Lib.hid (R2.out.on hb4)
    have H4 := Lib.hid (H2.out.trans (hb4.mono hs2))
    have hs4 := H4.out.size
    clear hb3 hb4 ho3 ho4 hg3 hg4 hs3
    go_wp2_with fail
    refine (order_write v1 a _ R1.out okL.out (by omega)).mono ?_
    rintro e w5 ⟨x, rfl, hox, hb5⟩
    have hs5 := hb5.size
    have R2' := Lib.hid (R2.out.on hb5)
    have X5 := Lib.hid hox
    have B5 := Lib.hid hb5
    clear hox hb5
    go_wp2_with fail
    refine (order_write v2 b _ R2'.out okM.out (by omega)).mono ?_
    rintro e w6 ⟨y, rfl, hoy, hb6⟩
    have hs6 := hb6.size
    have X6 := Lib.hid (show OwnB w6 w4.heap.size x (encParts a) from X5.out.kept (row := none) ⟨hb6.os, hb6.tape, hb6.output, hb6.size, fun i hi _ => hb6.block i hi⟩ (by cases x.ownBlock <;> simp))
    have Y6 := Lib.hid hoy.rd
    have B6 := Lib.hid (B5.out.trans (hb6.mono hs5))
    clear hoy hb6
    go_wp2_with (at_builtin; refine wpl_app_bytes rfl (.tmp 21) (.tmp 23) rfl w4.heap.size w6.heap.size x y (encParts a) (encParts b) rfl rfl X6.out Y6.out (by omega) ?_ ?_; rotate_left; intro z w7 hoz hg7 hs7; have Z7 := Lib.hid hoz.rd; have B7 := Lib.hid (B6.out.trans (hg7.below (by omega) (OwnB.base X6.out))); clear hoz hg7)
    · have H7 := Lib.hid (H4.out.trans (B7.out.mono hs4))
      have R1 := Lib.hid (R1.out.on B7.out)
      have R2 := Lib.hid (R2.out.on B7.out)
      have RA := Lib.hid (RA.out.on B7.out)
      clear R2' X5 X6 Y6 B5 B6
      refine (order_read z (encParts a ++ encParts b) _ Z7.out (by omega)).mono ?_
      rintro e w8 ⟨x8, rfl, hx8, hb8⟩
      rw [hrd.out] at hx8 ⊢
      have X8 := Lib.hid hx8
      have H8 := Lib.hid (H7.out.trans (hb8.mono H7.out.size))
      have R1 := Lib.hid (R1.out.on hb8)
      have R2 := Lib.hid (R2.out.on hb8)
      have RA := Lib.hid (RA.out.on hb8)
      clear hx8 hb8
      go_wp2_with fail
      refine (ref_same x8 va2 _ (a ++ b) _ X8.out (by simpa using RA.out)).mono ?_
      rintro e w9 ⟨rfl, hb9⟩
      rw [hnorm.out]
      have H8 := Lib.hid (H8.out.trans (hb9.mono H8.out.size)).drew
      have R1 := Lib.hid (RdParts.drew (R1.out.on hb9))
      have R2 := Lib.hid (RdParts.drew (R2.out.on hb9))
      have RA := Lib.hid (RdParts.drew (RA.out.on hb9))
      clear hb9
      go_wp2_with fail
      refine reg_start (by kernel_rfl) ?_
      refine reg_take2 0 31 (v := ?_) (T' := ?_) (Later.refl _) (by kernel_rfl) (by kernel_rfl) (by kernel_rfl) (fun _ _ _ h => h) (fun o ho => ?_) ?_ ?_
      rotate_left 2
      · cases ho
        refine ⟨rfl, rfl, fun W hW => ?_⟩
        go_simp; (try with_reducible rfl)
      · simp only [List.setIfInBounds_toArray, List.set_cons_succ, List.set_cons_zero]; exact rfl
      refine reg_take2 3 34 (v := ?_) (T' := ?_) (Later.refl _) (by kernel_rfl) (by kernel_rfl) (by kernel_rfl) (fun _ _ _ h => h) (fun o ho => ?_) ?_ ?_
      rotate_left 2
      · cases ho
        refine ⟨rfl, rfl, fun W hW => ?_⟩
        go_simp; (try with_reducible rfl)
      · simp only [List.setIfInBounds_toArray, List.set_cons_succ, List.set_cons_zero]; exact rfl
      refine reg_take2 6 37 (v := ?_) (T' := ?_) (Later.refl _) (by kernel_rfl) (by kernel_rfl) (by kernel_rfl) (fun _ _ _ h => h) (fun o ho => ?_) ?_ ?_
      rotate_left 2
      · cases ho
        refine ⟨rfl, rfl, fun W hW => ?_⟩
        go_simp; (try with_reducible rfl)
      · simp only [List.setIfInBounds_toArray, List.set_cons_succ, List.set_cons_zero]; exact rfl
      refine reg_call2 1 32 (Later.refl _) (by kernel_rfl) 12 #[va2]  (fun o ho => by cases ho; exact ⟨rfl, rfl, fun W => by go_simp⟩) ?_
      refine (order_write va2 _ _ RA.out okALL.out (by first | omega | (simp; omega))).mono ?_
      rintro e x1 ⟨y1, rfl, hoy1, hb1⟩
      have Y1 := Lib.hid (OwnB.rd hoy1)
      have G1 := Lib.hid (H8.out.trans (hb1.mono H8.out.size))
      have R1 := Lib.hid (R1.out.on hb1)
      have R2 := Lib.hid (R2.out.on hb1)
      refine ⟨y1, _, rfl, hb1, (by simp only [List.setIfInBounds_toArray, List.set_cons_succ, List.set_cons_zero]; exact rfl), ?_⟩
      clear hoy1 hb1
      refine reg_take2 2 33 (v := ?_) (T' := ?_) (Later.refl _) (by kernel_rfl) (by kernel_rfl) (by kernel_rfl) (fun _ _ _ h => h) (fun o ho => ?_) ?_ ?_
      rotate_left 2
      · cases ho
        refine ⟨rfl, rfl, fun W hW => ?_⟩
        have hcv := RdB.str (RdB.below Y1.out hW)
        rw [hjoin.out] at hcv
        go_simp; (try with_reducible rfl)
      · simp only [List.setIfInBounds_toArray, List.set_cons_succ, List.set_cons_zero]; exact rfl
      refine reg_call2 4 35 (Later.refl _) (by kernel_rfl) 12 #[v1]  (fun o ho => by cases ho; exact ⟨rfl, rfl, fun W => by go_simp⟩) ?_
      refine (order_write v1 _ _ R1.out okL.out (by first | omega | (simp; omega))).mono ?_
      rintro e x2 ⟨y2, rfl, hoy2, hb2⟩
      have Y2 := Lib.hid (OwnB.rd hoy2)
      have G2 := Lib.hid (G1.out.trans (hb2.mono G1.out.size))
      have R2 := Lib.hid (R2.out.on hb2)
      have Y1 := Lib.hid (Y1.out.on hb2)
      refine ⟨y2, _, rfl, hb2, (by simp only [List.setIfInBounds_toArray, List.set_cons_succ, List.set_cons_zero]; exact rfl), ?_⟩
      clear hoy2 hb2
      refine reg_take2 5 36 (v := ?_) (T' := ?_) (Later.refl _) (by kernel_rfl) (by kernel_rfl) (by kernel_rfl) (fun _ _ _ h => h) (fun o ho => ?_) ?_ ?_
      rotate_left 2
      · cases ho
        refine ⟨rfl, rfl, fun W hW => ?_⟩
        have hcv := RdB.str (RdB.below Y2.out hW)
        go_simp; (try with_reducible rfl)
      · simp only [List.setIfInBounds_toArray, List.set_cons_succ, List.set_cons_zero]; exact rfl
      refine reg_call2 7 38 (Later.refl _) (by kernel_rfl) 12 #[v2]  (fun o ho => by cases ho; exact ⟨rfl, rfl, fun W => by go_simp⟩) ?_
      refine (order_write v2 _ _ R2.out okM.out (by first | omega | (simp; omega))).mono ?_
      rintro e x3 ⟨y3, rfl, hoy3, hb3⟩
      have Y3 := Lib.hid (OwnB.rd hoy3)
      have G3 := Lib.hid (G2.out.trans (hb3.mono G2.out.size))
      have Y1 := Lib.hid (Y1.out.on hb3)
      have Y2 := Lib.hid (Y2.out.on hb3)
      refine ⟨y3, _, rfl, hb3, (by simp only [List.setIfInBounds_toArray, List.set_cons_succ, List.set_cons_zero]; exact rfl), ?_⟩
      clear hoy3 hb3
      refine reg_take2 8 39 (v := ?_) (T' := ?_) (Later.refl _) (by kernel_rfl) (by kernel_rfl) (by kernel_rfl) (fun _ _ _ h => h) (fun o ho => ?_) ?_ ?_
      rotate_left 2
      · cases ho
        refine ⟨rfl, rfl, fun W hW => ?_⟩
        have hcv := RdB.str (RdB.below Y3.out hW)
        go_simp; (try with_reducible rfl)
      · simp only [List.setIfInBounds_toArray, List.set_cons_succ, List.set_cons_zero]; exact rfl
      refine reg_take2 9 40 (v := ?_) (T' := ?_) (Later.refl _) (by kernel_rfl) (by kernel_rfl) (by kernel_rfl) (fun _ _ _ h => h) (fun o ho => ?_) ?_ ?_
      rotate_left 2
      · cases ho
        refine ⟨rfl, rfl, fun W hW => ?_⟩
        go_simp
        rw [if_neg (by omega), ba_append]
      · simp only [List.setIfInBounds_toArray, List.set_cons_succ, List.set_cons_zero]; exact rfl
      refine reg_take2 10 41 (v := ?_) (T' := ?_) (Later.refl _) (by kernel_rfl) (by kernel_rfl) (by kernel_rfl) (fun _ _ _ h => h) (fun o ho => ?_) ?_ ?_
      rotate_left 2
      · cases ho
        refine ⟨rfl, rfl, fun W hW => ?_⟩
        go_simp; (try with_reducible rfl)
      · simp only [List.setIfInBounds_toArray, List.set_cons_succ, List.set_cons_zero]; exact rfl
      refine reg_take2 11 42 (v := ?_) (T' := ?_) (Later.refl _) (by kernel_rfl) (by kernel_rfl) (by kernel_rfl) (fun _ _ _ h => h) (fun o ho => ?_) ?_ ?_
      rotate_left 2
      · cases ho
        refine ⟨rfl, rfl, fun W hW => ?_⟩
        go_simp; (try with_reducible rfl)
      · simp only [List.setIfInBounds_toArray, List.set_cons_succ, List.set_cons_zero]; exact rfl
      refine reg_take2 12 43 (v := ?_) (T' := ?_) (Later.refl _) (by kernel_rfl) (by kernel_rfl) (by kernel_rfl) (fun _ _ _ h => h) (fun o ho => ?_) ?_ ?_
      rotate_left 2
      · cases ho
        refine ⟨rfl, rfl, fun W hW => ?_⟩
        go_simp; (try with_reducible rfl)
      · simp only [List.setIfInBounds_toArray, List.set_cons_succ, List.set_cons_zero]; exact rfl
      refine reg_take2 13 44 (v := ?_) (T' := ?_) (Later.refl _) (by kernel_rfl) (by kernel_rfl) (by kernel_rfl) (fun _ _ _ h => h) (fun o ho => ?_) ?_ ?_
      rotate_left 2
      · cases ho
        refine ⟨rfl, rfl, fun W hW => ?_⟩
        go_simp; (try with_reducible rfl)
      · simp only [List.setIfInBounds_toArray, List.set_cons_succ, List.set_cons_zero]; exact rfl
      refine reg_take2 14 45 (v := ?_) (T' := ?_) (Later.refl _) (by kernel_rfl) (by kernel_rfl) (by kernel_rfl) (fun _ _ _ h => h) (fun o ho => ?_) ?_ ?_
      rotate_left 2
      · cases ho
        refine ⟨rfl, rfl, fun W hW => ?_⟩
        go_simp; (try with_reducible rfl)
      · simp only [List.setIfInBounds_toArray, List.set_cons_succ, List.set_cons_zero]; exact rfl
      refine reg_take2 15 46 (v := ?_) (T' := ?_) (Later.refl _) (by kernel_rfl) (by kernel_rfl) (by kernel_rfl) (fun _ _ _ h => h) (fun o ho => ?_) ?_ ?_
      rotate_left 2
      · cases ho
        refine ⟨rfl, rfl, fun W hW => ?_⟩
        go_simp; (try with_reducible rfl)
      · simp only [List.setIfInBounds_toArray, List.set_cons_succ, List.set_cons_zero]; exact rfl
      refine reg_take2 16 47 (v := ?_) (T' := ?_) (Later.refl _) (by kernel_rfl) (by kernel_rfl) (by kernel_rfl) (fun _ _ _ h => h) (fun o ho => ?_) ?_ ?_
      rotate_left 2
      · cases ho
        refine ⟨rfl, rfl, fun W hW => ?_⟩
        go_simp; (try with_reducible rfl)
      · simp only [List.setIfInBounds_toArray, List.set_cons_succ, List.set_cons_zero]; exact rfl
      refine reg_take2 17 48 (v := ?_) (T' := ?_) (Later.refl _) (by kernel_rfl) (by kernel_rfl) (by kernel_rfl) (fun _ _ _ h => h) (fun o ho => ?_) ?_ ?_
      rotate_left 2
      · cases ho
        refine ⟨rfl, rfl, fun W hW => ?_⟩
        go_simp; (try with_reducible rfl)
      · simp only [List.setIfInBounds_toArray, List.set_cons_succ, List.set_cons_zero]; exact rfl
      refine reg_take2 18 49 (v := ?_) (T' := ?_) (Later.refl _) (by kernel_rfl) (by kernel_rfl) (by kernel_rfl) (fun _ _ _ h => h) (fun o ho => ?_) ?_ ?_
      rotate_left 2
      · cases ho
        refine ⟨rfl, rfl, fun W hW => ?_⟩
        go_simp; (try with_reducible rfl)
      · simp only [List.setIfInBounds_toArray, List.set_cons_succ, List.set_cons_zero]; exact rfl
      refine reg_call2 19 50 (Later.refl _) (by kernel_rfl) 16 #[]  (fun o ho => by cases ho; exact ⟨rfl, rfl, fun W => by go_simp⟩) ?_
      refine (lives_any _).mono ?_
      rintro e x6 ⟨rfl, hb6⟩
      have G6 := Lib.hid (G3.out.trans (hb6.mono G3.out.size))
      refine ⟨.bool true, _, rfl, hb6, (by simp only [List.setIfInBounds_toArray, List.set_cons_succ, List.set_cons_zero]; exact rfl), ?_⟩
      clear hb6
      refine reg_take2 20 51 (v := ?_) (T' := ?_) (Later.refl _) (by kernel_rfl) (by kernel_rfl) (by kernel_rfl) (fun _ _ _ h => h) (fun o ho => ?_) ?_ ?_
      rotate_left 2
      · cases ho
        refine ⟨rfl, rfl, fun W hW => ?_⟩
        go_simp; (try with_reducible rfl)
      · simp only [List.setIfInBounds_toArray, List.set_cons_succ, List.set_cons_zero]; exact rfl
      refine reg_take2 21 4 (v := ?_) (T' := ?_) (Later.refl _) (by kernel_rfl) (by kernel_rfl) (by kernel_rfl) (fun _ _ _ h => h) (fun o ho => ?_) ?_ ?_
      rotate_left 2
      · cases ho
        refine ⟨rfl, rfl, fun W hW => ?_⟩
        go_simp; (try with_reducible rfl)
      · simp only [List.setIfInBounds_toArray, List.set_cons_succ, List.set_cons_zero]; exact rfl
      refine reg_done (by kernel_rfl) ?_
      go_wp2
      go_ret
      exact ⟨rfl, G6.out⟩
    all_goals first | omega | (simp; omega)
  all_goals first | omega | (simp; omega)

set_option maxRecDepth 100000 in
theorem lifted (os : Os) (started : os.Started) (H : Type) (enc : TypeId × Value → H) :
    ReturnsInHanded {} Try.checked os 9 .any (Rows.orderJoinsSpec.pre6 enc Try.prog Try.f9 Rows.orderJoinsRow.domain false) (Rows.orderJoinsSpec.post enc Try.prog Try.f9 false true false false) := by
  refine returnsInHanded_of_change (C := Try.checked) Try.own started (by kernel_rfl) Try.func9
    (ChangeSpec.witness6 (enc := enc) (C := Try.checked) false ⟨#[], #[.slice none 0 0, .slice none 0 0], []⟩ 8 (by kernel_rfl) (by kernel_rfl) (by kernel_rfl) (by kernel_rfl)) ?_
  intro W base args ds gs before hval0 hW _ _
  have hval : ∀ (j : Nat) t v, Try.f9.params[j]? = some t → args[j]? = some v → Value.okWide Try.prog W .any base t v := hval0
  have hW' := hW
  obtain ⟨p, q, hA0, hV, rfl, _, _⟩ := hW
  have hA : DataW.TrodAll enc Try.prog W 0 (fun _ => true) true Try.f9.params.toList args.toList ds p := hA0
  rw [Try.params9] at hA hval
  obtain ⟨v0, v1, d0, d1, p0, p1, rfl, rfl, rfl, h0, h1⟩ := trodAll_two hA
  obtain ⟨rfl, rfl⟩ := trodVars_none hV
  have hlt : ∀ x ∈ p0 ++ p1, x.block < W.heap.size := fun x hx => by simpa using hW'.lt x (by simpa using hx)
  obtain ⟨l, hl, hli⟩ := open_parts (hval 0 _ v0 rfl rfl) h0 (fun x hx => hlt x (by simp [hx]))
  obtain ⟨m, hm, hmi⟩ := open_parts (hval 1 _ v1 rfl rfl) h1 (fun x hx => hlt x (by simp [hx]))
  refine (walk v0 v1 l m W hl hm hli hmi).mono fun e W' ⟨he, hb⟩ => ⟨_, he, ?_⟩
  exact law_post Try.laidOut (by decide +kernel) rfl Try.underlying4 rfl hW' rfl hb

theorem holds : Rows.OrderJoinsSaid :=
  OpenClaim.holds_of_wide 9 Try.f9 rfl rfl rfl rfl rfl rfl rfl ⟨rfl, rfl, rfl, rfl, rfl⟩ rfl rfl rfl rfl rfl (by kernel_rfl) Try.func9 (by kernel_rfl)
    (of_decide_eq_true (by kernel_rfl)) (by unfold Func.isWrapper; first | (rw [if_pos (by decide +kernel)]; kernel_rfl) | (rw [if_neg (by decide +kernel)]; exact ⟨rfl, rfl⟩))
    (fun os started H enc _ => lifted os started H enc)
end Go.Proofs.Ytnapadpkfjpklaa.L07
