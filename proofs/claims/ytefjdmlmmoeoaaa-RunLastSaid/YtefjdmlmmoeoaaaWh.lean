/- Layer 9: the blocks that may have keys, told one by one: the project's iterator. -/
import Derived.Test.YtefjdmlmmoeoaaaWg
import Derived.Test.YtefjdmlmmoeoaaaBtell
import Derived.Test.YtefjdmlmmoeoaaaBE
import Derived.RangeFuncBound
import Derived.RangeFuncLeaves
import Derived.Shelf.Abstract
import Derived.Shelf.RegionOpen
import Derived.OwnWalkIn
import Derived.TacticsInMore
import Derived.LoopNIn
import Derived.LoopIn
import Derived.Sort.QuietIn
namespace Go.Proofs.Ytefjdmlmmoeoaaa
open Go.RowKit Go.Shelf
set_option linter.unusedVariables false
attribute [local go_sem] Oper.semAt_some

/-- What a round may turn: versions, rows of them, bools. -/
def T9 (t : TypeId) : Bool := t == 42 || t == 22 || t == 4

theorem run_mayHave (p : Value) (n : Nat) (hp : p = .pointer (some ⟨n, 0, none⟩)) (fr tt : ByteArray) (w : World) :
    Calls Try.prog 68 #[p, .string fr, .string tt] w fun e w' => e = .returned (.func (.func 85) #[] #[.pointer (some ⟨w.heap.size, 0, none⟩), .pointer (some ⟨w.heap.size + 1, 0, none⟩), .pointer (some ⟨w.heap.size + 2, 0, none⟩)]) ∧
      w' = ((w.alloc (.cells #[p] 28)).alloc (.cells #[.string fr] 9)).alloc (.cells #[.string tt] 9) := by
  subst hp
  go_enter Try.func68, Try.ntmps68
  go_wp2_with fail
  go_ret
  exact ⟨rfl, rfl⟩

/-- A block as it is told: a slice that reads so in w0. -/
def Pw (w0 : World) : Type := { p : Value × List Ver // RdVr w0 w0.heap.size p.1 p.2 ∧ p.2.length ≤ 8 }
def Pw.ls {w0 : World} (xs : List (Pw w0)) : List (List Ver) := xs.map fun x => x.1.2
theorem Pw.ls_snoc {w0 : World} (xs : List (Pw w0)) (x : Pw w0) : Pw.ls (xs ++ [x]) = Pw.ls xs ++ [x.1.2] := by simp [Pw.ls]
/-- The blocks of l that are told, from one key on, up to another one. -/
def Told9 (l : List Ver) (fr tt : ByteArray) (ls : List (List Ver)) : Prop :=
  ∃ i k, Found9 l fr i ∧ i - 1 + k ≤ many8 l ∧ ls = (List.range k).map (fun j => pc8 l (i - 1 + j)) ∧ (i - 1 + k = many8 l ∨ 0 < kcmp (fen9 l (i - 1 + k)) tt)

theorem OwnNV.rdv {w : World} {base : Nat} {v : Value} {ls : List (List Ver)} (h : OwnNV w base v ls) : ∃ vs, RdV (fun u : Value => u) w w.heap.size v vs ∧ vs.length = ls.length ∧ ∀ (i : Nat) (u : Value) (l : List Ver), vs[i]? = some u → ls[i]? = some l → OwnVr w base u l := by
  obtain ⟨vs, h1, hl, h3⟩ := h
  refine ⟨vs, ?_, hl, fun i u l hu hx => (h3 i u l hu hx).1⟩
  rcases h1.2 with ⟨rfl, hn⟩ | ⟨g, cap, cur, rfl, hb, hg, hnc, hcm, hcs, htake⟩
  · exact ⟨none, 0, by rw [hl, hn], by omega, by omega, fun hp => by omega⟩
  · refine ⟨_, cap, by rw [hl], by omega, by simpa [maxLen] using hcm, fun hp => ⟨g, 0, rfl, (Array.getElem?_eq_some_iff.1 hg).1, fun k u hk => ?_⟩⟩
    rw [cell_of_row _ _ _ _ _ (0, 0) hg]
    have hkl : k < vs.length := (List.getElem?_eq_some_iff.1 hk).1
    rw [← htake, List.getElem?_take, if_pos (by omega)] at hk
    simpa using hk
section
variable {α : Type} {f : α → Value} {P : Program}
theorem slV_tail {w : World} {B : Nat} {v : Value} {l : List α} (h : RdV f w B v l) {t e : TypeId} (ht0 : P.underlying t = some (.slice e)) (hsz : ∀ w, (Go.sizeOf e).run P w = .ok 1 w) (k : Nat) (z : Int) (hz : z = (k : Int)) (hk : k ≤ l.length) :
    ∃ A c, (∀ W, (Instr.slice t v (some (.int .i64 z)) none none).run P W = .ok (.slice A (l.length - k) c) W) ∧ RdV f w B (.slice A (l.length - k) c) (l.drop k) := by
  subst hz
  obtain ⟨A, c, rfl, h1, h2, h3⟩ := h
  have ht : P.underlying t = some (.slice (P.elem t)) := by simp [Program.elem, ht0]
  have he : P.elem t = e := by simp [Program.elem, ht0]
  have hl : (l.drop k).length = l.length - k := List.length_drop ..
  refine ⟨if c = k then A else A.map (·.add (k * 1)), c - k, fun W => ?_, ⟨_, c - k, by rw [hl], by rw [hl]; omega, by omega, fun hp => ?_⟩⟩
  · rw [run_slice_l W _ _ _ _ ht _ _ (by omega) (by omega), he, hsz]
    simp [Result.andThen, sliced]
  · obtain ⟨b, o, rfl, hb, hc⟩ := h3 (by omega)
    refine ⟨b, o + k * 1, ?_, hb, fun i x hx => ?_⟩
    · rw [if_neg (by omega)]; simp [addr_plain]
    · have := hc (k + i) x (by rw [List.getElem?_drop] at hx; exact hx)
      rwa [Nat.mul_one, Nat.add_assoc]
end
theorem run_size9 (w : World) : (Go.sizeOf 22).run Try.prog w = .ok 1 w := by kernel_rfl

set_option maxRecDepth 100000 in
set_option maxHeartbeats 4000000 in
theorem may_tells (w0 w : World) (base : Nat) (p : Value) (l : List Ver) (fr tt : ByteArray) (s1 s2 s3 : Nat) (hw0 : Below w0.heap.size w0 w) (hp : RunAt w0 base p l) (hl : l.length ≤ 20000)
    (h1 : Boxed w s1 28 p) (h2 : Boxed w s2 9 (.string fr)) (h3 : Boxed w s3 9 (.string tt)) :
    Tells9 Try.prog False T9 w0.heap.size 85 #[.pointer (some ⟨s1, 0, none⟩), .pointer (some ⟨s2, 0, none⟩), .pointer (some ⟨s3, 0, none⟩)] (fun x : Pw w0 => #[x.1.1])
      (fun xs => Told9 l fr tt (Pw.ls xs)) (fun _ => True) (many8 l) w := fun L J Jx W hW hJ hJx hY h0 => by
  have hbW : Below w0.heap.size w0 W := hw0.trans (hW.mono hw0.size)
  have B1 := Lib.hid (show Boxed W s1 _ _ from (hW.block s1 h1.lt).trans h1)
  have B2 := Lib.hid (show Boxed W s2 _ _ from (hW.block s2 h2.lt).trans h2)
  have B3 := Lib.hid (show Boxed W s3 _ _ from (hW.block s3 h3.lt).trans h3)
  have RF := Lib.hid (fun w h => run_first p l base fr w h hl)
  have HY := Lib.hid hY
  have HJ := Lib.hid hJ
  have H0 := Lib.hid h0
  have G := Lib.hid hbW
  have RW := Lib.hid (show RunAt W.drew base p l from (hp.on hbW).on ((Below.refl _ _).drewN 1))
  have HPL := Lib.hid (pcs8_len l)
  have hmm : many8 l ≤ 3000 := by unfold many8; omega
  obtain ⟨nr, vb, rfl, hbx, -, hv⟩ := hp
  have CB := Lib.hid (show W.cell? ⟨nr, 0, none⟩ = some vb from (hbx.later hbW).cell 0 vb rfl)
  have HV := Lib.hid hv
  obtain ⟨A, ca, rfl⟩ := hv.form
  rw [HPL.out] at HV CB
  obtain ⟨vs, hvs, hvl, hve⟩ := HV.out.rdv
  rw [HPL.out] at hvl
  have HVS := Lib.hid hvs
  have HVL := Lib.hid hvl
  have HAT := Lib.hid (show ∀ h : Nat, h < many8 l → ∃ u, vs[h]? = some u ∧ RdVr w0 w0.heap.size u (pc8 l h) ∧ 0 < (pc8 l h).length ∧ (pc8 l h).length ≤ 8 from fun h hh => by
    have h1 : h < vs.length := by omega
    have h2 : (pcs8 l)[h]? = some (pc8 l h) := by rw [List.getElem?_eq_getElem (by rw [HPL.out]; exact hh), pcs8_at]
    have := many8_lt hh
    exact ⟨vs[h], List.getElem?_eq_getElem h1, (hve h _ _ (List.getElem?_eq_getElem h1) h2).rd, by rw [pc8_len]; omega, by rw [pc8_len]; omega⟩)
  clear hvs hvl hve
  generalize hMN : many8 l = MN at *
  have HMN := Lib.hid hMN
  clear hY hJ hJx h0 hW hbW h1 h2 h3 hw0 hbx hv hMN
  have b1 := B1.out.cell
  have b2 := B2.out.cell
  have cb := CB.out
  refine (callsIn_wide (n := 3)).1 ?_
  refine callsIn_of_wp Try.func85 rfl trivial ?_ rfl
  simp only [Try.ntmps85, List.size_toArray, List.length_cons, List.length_nil, Nat.reduceAdd, Nat.reduceSub, Array.replicate_succ, Array.replicate_zero, List.push_toArray, List.append_toArray, List.nil_append, List.cons_append]
  gi_wp2_with fail
  have E := easy_wide 3 Try.prog
  have HI : (fun W' => W' = W.drew) W.drew := rfl
  refine regj_start [] (fun W' => W' = W.drew) (by kernel_rfl) ?_
  refine regj_take E 0 7 (v := ?_) (T' := ?_) HI (by kernel_rfl) (by kernel_rfl) (by kernel_rfl) (by kernel_rfl) (by kernel_rfl) (fun _ _ _ h => h) (fun o ho => ?_) ?_ ?_
  rotate_left 2
  · cases ho
    refine ⟨rfl, rfl, fun W hW => ?_⟩
    have hW : W = _ := hW
    subst hW; go_simp; (try with_reducible rfl)
  · simp only [List.setIfInBounds_toArray, List.set_cons_succ, List.set_cons_zero]; exact rfl
  refine regj_take E 1 8 (v := ?_) (T' := ?_) HI (by kernel_rfl) (by kernel_rfl) (by kernel_rfl) (by kernel_rfl) (by kernel_rfl) (fun _ _ _ h => h) (fun o ho => ?_) ?_ ?_
  rotate_left 2
  · cases ho
    refine ⟨rfl, rfl, fun W hW => ?_⟩
    have hW : W = _ := hW
    subst hW; go_simp; (try with_reducible rfl)
  · simp only [List.setIfInBounds_toArray, List.set_cons_succ, List.set_cons_zero]; exact rfl
  refine regj_take E 2 9 (v := ?_) (T' := ?_) HI (by kernel_rfl) (by kernel_rfl) (by kernel_rfl) (by kernel_rfl) (by kernel_rfl) (fun _ _ _ h => h) (fun o ho => ?_) ?_ ?_
  rotate_left 2
  · cases ho
    refine ⟨rfl, rfl, fun W hW => ?_⟩
    have hW : W = _ := hW
    subst hW; go_simp; (try with_reducible rfl)
  · simp only [List.setIfInBounds_toArray, List.set_cons_succ, List.set_cons_zero]; exact rfl
  refine regj_take E 3 10 (v := ?_) (T' := ?_) HI (by kernel_rfl) (by kernel_rfl) (by kernel_rfl) (by kernel_rfl) (by kernel_rfl) (fun _ _ _ h => h) (fun o ho => ?_) ?_ ?_
  rotate_left 2
  · cases ho
    refine ⟨rfl, rfl, fun W hW => ?_⟩
    have hW : W = _ := hW
    subst hW; go_simp; (try with_reducible rfl)
  · simp only [List.setIfInBounds_toArray, List.set_cons_succ, List.set_cons_zero]; exact rfl
  refine regj_take E 4 11 (v := ?_) (T' := ?_) HI (by kernel_rfl) (by kernel_rfl) (by kernel_rfl) (by kernel_rfl) (by kernel_rfl) (fun _ _ _ h => h) (fun o ho => ?_) ?_ ?_
  rotate_left 2
  · cases ho
    refine ⟨rfl, rfl, fun W hW => ?_⟩
    have hW : W = _ := hW
    subst hW; go_simp; (try with_reducible rfl)
  · simp only [List.setIfInBounds_toArray, List.set_cons_succ, List.set_cons_zero]; exact rfl
  refine regj_take E 5 12 (v := ?_) (T' := ?_) HI (by kernel_rfl) (by kernel_rfl) (by kernel_rfl) (by kernel_rfl) (by kernel_rfl) (fun _ _ _ h => h) (fun o ho => ?_) ?_ ?_
  rotate_left 2
  · cases ho
    refine ⟨rfl, rfl, fun W hW => ?_⟩
    have hW : W = _ := hW
    subst hW; go_simp; (try with_reducible rfl)
  · simp only [List.setIfInBounds_toArray, List.set_cons_succ, List.set_cons_zero]; exact rfl
  refine regj_take E 9 16 (v := ?_) (T' := ?_) HI (by kernel_rfl) (by kernel_rfl) (by kernel_rfl) (by kernel_rfl) (by kernel_rfl) (fun _ _ _ h => h) (fun o ho => ?_) ?_ ?_
  rotate_left 2
  · cases ho
    refine ⟨rfl, rfl, fun W hW => ?_⟩
    have hW : W = _ := hW
    subst hW; go_simp; (try with_reducible rfl)
  · simp only [List.setIfInBounds_toArray, List.set_cons_succ, List.set_cons_zero]; exact rfl
  refine regj_call E (I' := (fun W' => W' = W.drew)) (fun _ h => h) 6 13 (by kernel_rfl) (by kernel_rfl) 86 #[.pointer (some ⟨nr, 0, none⟩), .string fr] (fun o ho => by cases ho; exact ⟨rfl, rfl, fun W => by go_simp⟩) ?_
  refine (RF.out W.drew RW.out).mono ?_
  rintro e _ ⟨i, rfl, hf, rfl⟩
  have FO := Lib.hid hf
  have him := hf.1
  rw [HMN.out] at him
  clear hf
  obtain ⟨A2, c2, hsl, hrs⟩ := slV_tail HVS.out Try.underlying57 run_size9 (i - 1) ((i - 1 : Nat) : Int) rfl (by rw [HVL.out]; omega)
  rw [HVL.out] at hsl hrs
  obtain ⟨M, hM⟩ : ∃ M, M = MN - (i - 1) := ⟨_, rfl⟩
  rw [← hM] at hsl hrs
  have HM := Lib.hid hM
  have hMb : M ≤ 3000 := by omega
  have RS := Lib.hid hrs
  clear hrs hM
  refine ⟨_, _, rfl, HI, (by simp only [List.setIfInBounds_toArray, List.set_cons_succ, List.set_cons_zero]; exact rfl), ?_⟩
  refine regj_take E 7 14 (v := ?_) (T' := ?_) HI (by kernel_rfl) (by kernel_rfl) (by kernel_rfl) (by kernel_rfl) (by kernel_rfl) (fun _ _ _ h => h) (fun o ho => ?_) ?_ ?_
  rotate_left 2
  · cases ho
    refine ⟨rfl, rfl, fun W hW => ?_⟩
    have hW : W = _ := hW
    subst hW; go_simp; (try with_reducible rfl)
  · simp only [List.setIfInBounds_toArray, List.set_cons_succ, List.set_cons_zero]; exact rfl
  refine regj_take E 8 15 (v := ?_) (T' := ?_) HI (by kernel_rfl) (by kernel_rfl) (by kernel_rfl) (by kernel_rfl) (by kernel_rfl) (fun _ _ _ h => h) (fun o ho => ?_) ?_ ?_
  rotate_left 2
  · cases ho
    refine ⟨rfl, rfl, fun W hW => ?_⟩
    have hW : W = _ := hW
    subst hW; go_simp; (try with_reducible rfl)
  · simp only [List.setIfInBounds_toArray, List.set_cons_succ, List.set_cons_zero]; exact rfl
  refine regj_done (by kernel_rfl) ?_
  clear hsl
  gi_wp2_with fail
  gi_loopw [16] (fun x wr => ∃ (k : Nat) (pre : List (Pw w0)), x = .int .i64 k ∧ k ≤ M ∧ pre.length = k ∧ Pw.ls pre = (List.range k).map (fun j => pc8 l (i - 1 + j)) ∧ J pre wr ∧ Below w0.heap.size w0 wr ∧ Boxed wr s3 9 (.string tt) ∧ W.heap.size ≤ wr.heap.size) (fun x _ => M - (intOf x).toNat)
  case atStart => exact ⟨0, [], rfl, Nat.zero_le _, rfl, rfl, HJ.out _ _ _ none H0.out ⟨rfl, rfl, rfl, Nat.le_refl _, fun _ _ _ => rfl⟩ (fun _ e => by cases e), G.out.drew, B3.out, Nat.le_refl _⟩
  case round =>
    obtain ⟨k, pre, rfl, hk, hpl, hls, hjp, hb, hbt, hsz⟩ := hrel
    have HLS := Lib.hid hls
    have JP := Lib.hid hjp
    have GB := Lib.hid hb
    have BT := Lib.hid hbt
    have HSZ := Lib.hid hsz
    have HPRE := Lib.hid hpl
    clear hpl hls hjp hb hbt hsz
    by_cases hlt : k < M
    · have zl : decide ((k : Int) < (M : Int)) = true := by simp; omega
      have zl2 : decide (k < M) = true := by simp; omega
      have hkm : i - 1 + k < MN := by have := HM.out; omega
      obtain ⟨u, hu, ru, hp0, hp8⟩ := HAT.out (i - 1 + k) hkm
      obtain ⟨A', c', e1, -, -, h3⟩ := RS.out
      have hdl : (vs.drop (i - 1)).length = M := by rw [List.length_drop, HVL.out]; exact HM.out.symm
      obtain ⟨b, o, rfl, hb, hc⟩ := h3 (by omega)
      injection e1 with e1 e2 e3
      subst e1
      have hcu := (GB.out.cell (p := ⟨b, o + k, none⟩) hb).trans (hc k u (by rw [List.getElem?_drop]; exact hu))
      have HFK := Lib.hid (show fen9 l (i - 1 + k) = ((pc8 l (i - 1 + k)).getD 0 zeroV).key from rfl)
      have HSN := Lib.hid (show ∀ x : Pw w0, x.1.2 = pc8 l (i - 1 + k) → Pw.ls (pre ++ [x]) = (List.range (k + 1)).map (fun j => pc8 l (i - 1 + j)) from fun x hx => by
        rw [Pw.ls_snoc, HLS.out, hx, List.range_succ, List.map_append]; rfl)
      have FN := Lib.hid (fun va B w h => run_fence va (pc8 l (i - 1 + k)) B w h hp0)
      generalize hfk : fen9 l (i - 1 + k) = fk at *
      have HFE := Lib.hid hfk
      clear hfk
      rw [← HFK.out] at FN
      clear HFK
      generalize pc8 l (i - 1 + k) = P at *
      have RP0 := ru
      obtain ⟨Ap, cp, ep, -⟩ := ru
      subst ep
      obtain ⟨x, hx1, hx2⟩ : ∃ x : Pw w0, x.1.1 = .slice Ap P.length cp ∧ x.1.2 = P := ⟨⟨(_, P), RP0, hp8⟩, rfl, rfl⟩
      have RP := Lib.hid ((RP0.below GB.out))
      have HX := Lib.hid (HSN.out x hx2)
      have JD := Lib.hid (HJ.out pre wr wr.drew none JP.out ⟨rfl, rfl, rfl, Nat.le_refl _, fun _ _ _ => rfl⟩ (fun _ e => by cases e))
      have HKK := Lib.hid hkm
      clear hkm hu h3 hdl hc hp0 hp8 RP0 e2 e3
      by_cases hfc : Op.bytesLess tt.toList fk.toList = true
      · have zb : Op.bytesLess fk.toList tt.toList = false := Ord.less_asymm _ _ hfc
        have zb2 : (fk.toList == tt.toList) = false := by
          rw [beq_eq_false_iff_ne]; intro e; rw [e, Ord.less_irrefl] at hfc; cases hfc
        have hk0 : 0 < kcmp fk tt := by
          have h1 := (cmpStr_neg tt.toList fk.toList).2 hfc
          have h2 := str_tells.anti tt.toList fk.toList
          show 0 < Ord.cmpStr fk.toList tt.toList
          omega
        have HT := Lib.hid hk0
        clear hfc hk0
        gi_wp2_with fail
        have HI : (fun W' => W'.cell? ⟨s3, 0, none⟩ = some (.string tt)) wr.drew := BT.out.cell
        refine regj_start [] (fun W' => W'.cell? ⟨s3, 0, none⟩ = some (.string tt)) (by kernel_rfl) ?_
        refine regj_take E 0 20 (v := ?_) (T' := ?_) HI (by kernel_rfl) (by kernel_rfl) (by kernel_rfl) (by kernel_rfl) (by kernel_rfl) (fun _ _ _ h => h) (fun o ho => ?_) ?_ ?_
        rotate_left 2
        · cases ho
          refine ⟨rfl, rfl, fun W hW => ?_⟩
          have hW : W.cell? ⟨s3, 0, none⟩ = some (.string tt) := hW
          go_simp; (try with_reducible rfl)
        · simp only [List.setIfInBounds_toArray, List.set_cons_succ, List.set_cons_zero]; exact rfl
        refine regj_take E 2 22 (v := ?_) (T' := ?_) HI (by kernel_rfl) (by kernel_rfl) (by kernel_rfl) (by kernel_rfl) (by kernel_rfl) (fun _ _ _ h => h) (fun o ho => ?_) ?_ ?_
        rotate_left 2
        · cases ho
          refine ⟨rfl, rfl, fun W hW => ?_⟩
          have hW : W.cell? ⟨s3, 0, none⟩ = some (.string tt) := hW
          go_simp; (try with_reducible rfl)
        · simp only [List.setIfInBounds_toArray, List.set_cons_succ, List.set_cons_zero]; exact rfl
        refine regj_call E (I' := (fun W' => W'.cell? ⟨s3, 0, none⟩ = some (.string tt))) (fun _ h => h) 1 21 (by kernel_rfl) (by kernel_rfl) 56 #[.slice Ap P.length cp] (fun o ho => by cases ho; exact ⟨rfl, rfl, fun W => by go_simp⟩) ?_
        refine (FN.out _ _ _ RP.out.drew).mono ?_
        rintro e _ ⟨rfl, rfl⟩
        refine ⟨_, _, rfl, HI, (by simp only [List.setIfInBounds_toArray, List.set_cons_succ, List.set_cons_zero]; exact rfl), ?_⟩
        refine regj_take E 3 23 (v := ?_) (T' := ?_) HI (by kernel_rfl) (by kernel_rfl) (by kernel_rfl) (by kernel_rfl) (by kernel_rfl) (fun _ _ _ h => h) (fun o ho => ?_) ?_ ?_
        rotate_left 2
        · cases ho
          refine ⟨rfl, rfl, fun W hW => ?_⟩
          have hW : W.cell? ⟨s3, 0, none⟩ = some (.string tt) := hW
          go_simp; (try with_reducible rfl)
        · simp only [List.setIfInBounds_toArray, List.set_cons_succ, List.set_cons_zero]; exact rfl
        refine regj_take E 4 24 (v := ?_) (T' := ?_) HI (by kernel_rfl) (by kernel_rfl) (by kernel_rfl) (by kernel_rfl) (by kernel_rfl) (fun _ _ _ h => h) (fun o ho => ?_) ?_ ?_
        rotate_left 2
        · cases ho
          refine ⟨rfl, rfl, fun W hW => ?_⟩
          have hW : W.cell? ⟨s3, 0, none⟩ = some (.string tt) := hW
          go_simp; (try with_reducible rfl)
        · simp only [List.setIfInBounds_toArray, List.set_cons_succ, List.set_cons_zero]; exact rfl
        refine regj_skip E 5 25 (T' := ?_) HI (by kernel_rfl) (by kernel_rfl) (by kernel_rfl) (by kernel_rfl) (by kernel_rfl) (fun _ _ _ h => h) (fun o ho => by cases ho; exact ⟨rfl, rfl⟩) ?_ ?_
        rotate_left
        · simp only [List.setIfInBounds_toArray, List.set_cons_succ, List.set_cons_zero]; exact rfl
        refine regj_skip E 6 26 (T' := ?_) HI (by kernel_rfl) (by kernel_rfl) (by kernel_rfl) (by kernel_rfl) (by kernel_rfl) (fun _ _ _ h => h) (fun o ho => by cases ho; exact ⟨rfl, rfl⟩) ?_ ?_
        rotate_left
        · simp only [List.setIfInBounds_toArray, List.set_cons_succ, List.set_cons_zero]; exact rfl
        refine regj_skip E 7 27 (T' := ?_) HI (by kernel_rfl) (by kernel_rfl) (by kernel_rfl) (by kernel_rfl) (by kernel_rfl) (fun _ _ _ h => h) (fun o ho => by cases ho; exact ⟨rfl, rfl⟩) ?_ ?_
        rotate_left
        · simp only [List.setIfInBounds_toArray, List.set_cons_succ, List.set_cons_zero]; exact rfl
        refine regj_skip E 8 28 (T' := ?_) HI (by kernel_rfl) (by kernel_rfl) (by kernel_rfl) (by kernel_rfl) (by kernel_rfl) (fun _ _ _ h => h) (fun o ho => by cases ho; exact ⟨rfl, rfl⟩) ?_ ?_
        rotate_left
        · simp only [List.setIfInBounds_toArray, List.set_cons_succ, List.set_cons_zero]; exact rfl
        refine regj_take E 9 29 (v := ?_) (T' := ?_) HI (by kernel_rfl) (by kernel_rfl) (by kernel_rfl) (by kernel_rfl) (by kernel_rfl) (fun _ _ _ h => h) (fun o ho => ?_) ?_ ?_
        rotate_left 2
        · cases ho
          refine ⟨rfl, rfl, fun W hW => ?_⟩
          have hW : W.cell? ⟨s3, 0, none⟩ = some (.string tt) := hW
          go_simp; (try with_reducible rfl)
        · simp only [List.setIfInBounds_toArray, List.set_cons_succ, List.set_cons_zero]; exact rfl
        refine regj_done (by kernel_rfl) ?_
        gi_wp2_with fail
        refine bodyPost_ret (results_none rfl _ _ _) rfl ?_
        exact ⟨⟨_, rfl⟩, .inl ⟨pre, ⟨i, k, FO.out, by rw [HMN.out]; exact Nat.le_of_lt HKK.out, HLS.out, .inr (by rw [HFE.out]; exact HT.out)⟩, JD.out⟩⟩
      · have zb : (!Op.bytesLess fk.toList tt.toList && !fk.toList == tt.toList) = false := by
          rcases str_three fk.toList tt.toList with ⟨h, -⟩ | ⟨h, -⟩ | ⟨h, -⟩
          · rw [h]; rfl
          · rw [h]; simp
          · exact absurd h hfc
        obtain ⟨fn, tmps, assign, body, hy, hR⟩ := HY.out pre x wr.drew JD.out (by have := HKK.out; have := HPRE.out; omega) HSZ.out
        rw [hx1] at hy
        clear hfc
        gi_wp2_with fail
        have HI : (fun W' => W'.cell? ⟨s3, 0, none⟩ = some (.string tt)) wr.drew := BT.out.cell
        refine regj_start [] (fun W' => W'.cell? ⟨s3, 0, none⟩ = some (.string tt)) (by kernel_rfl) ?_
        refine regj_take E 0 20 (v := ?_) (T' := ?_) HI (by kernel_rfl) (by kernel_rfl) (by kernel_rfl) (by kernel_rfl) (by kernel_rfl) (fun _ _ _ h => h) (fun o ho => ?_) ?_ ?_
        rotate_left 2
        · cases ho
          refine ⟨rfl, rfl, fun W hW => ?_⟩
          have hW : W.cell? ⟨s3, 0, none⟩ = some (.string tt) := hW
          go_simp; (try with_reducible rfl)
        · simp only [List.setIfInBounds_toArray, List.set_cons_succ, List.set_cons_zero]; exact rfl
        refine regj_take E 2 22 (v := ?_) (T' := ?_) HI (by kernel_rfl) (by kernel_rfl) (by kernel_rfl) (by kernel_rfl) (by kernel_rfl) (fun _ _ _ h => h) (fun o ho => ?_) ?_ ?_
        rotate_left 2
        · cases ho
          refine ⟨rfl, rfl, fun W hW => ?_⟩
          have hW : W.cell? ⟨s3, 0, none⟩ = some (.string tt) := hW
          go_simp; (try with_reducible rfl)
        · simp only [List.setIfInBounds_toArray, List.set_cons_succ, List.set_cons_zero]; exact rfl
        refine regj_call E (I' := (fun W' => W'.cell? ⟨s3, 0, none⟩ = some (.string tt))) (fun _ h => h) 1 21 (by kernel_rfl) (by kernel_rfl) 56 #[.slice Ap P.length cp] (fun o ho => by cases ho; exact ⟨rfl, rfl, fun W => by go_simp⟩) ?_
        refine (FN.out _ _ _ RP.out.drew).mono ?_
        rintro e _ ⟨rfl, rfl⟩
        refine ⟨_, _, rfl, HI, (by simp only [List.setIfInBounds_toArray, List.set_cons_succ, List.set_cons_zero]; exact rfl), ?_⟩
        refine regj_take E 3 23 (v := ?_) (T' := ?_) HI (by kernel_rfl) (by kernel_rfl) (by kernel_rfl) (by kernel_rfl) (by kernel_rfl) (fun _ _ _ h => h) (fun o ho => ?_) ?_ ?_
        rotate_left 2
        · cases ho
          refine ⟨rfl, rfl, fun W hW => ?_⟩
          have hW : W.cell? ⟨s3, 0, none⟩ = some (.string tt) := hW
          go_simp; (try with_reducible rfl)
        · simp only [List.setIfInBounds_toArray, List.set_cons_succ, List.set_cons_zero]; exact rfl
        refine regj_take E 4 24 (v := ?_) (T' := ?_) HI (by kernel_rfl) (by kernel_rfl) (by kernel_rfl) (by kernel_rfl) (by kernel_rfl) (fun _ _ _ h => h) (fun o ho => ?_) ?_ ?_
        rotate_left 2
        · cases ho
          refine ⟨rfl, rfl, fun W hW => ?_⟩
          have hW : W.cell? ⟨s3, 0, none⟩ = some (.string tt) := hW
          go_simp; (try with_reducible rfl)
        · simp only [List.setIfInBounds_toArray, List.set_cons_succ, List.set_cons_zero]; exact rfl
        refine regj_take E 5 25 (v := ?_) (T' := ?_) HI (by kernel_rfl) (by kernel_rfl) (by kernel_rfl) (by kernel_rfl) (by kernel_rfl) (fun _ _ _ h => h) (fun o ho => ?_) ?_ ?_
        rotate_left 2
        · cases ho
          refine ⟨rfl, rfl, fun W hW => ?_⟩
          have hW : W.cell? ⟨s3, 0, none⟩ = some (.string tt) := hW
          go_simp; (try with_reducible rfl)
        · simp only [List.setIfInBounds_toArray, List.set_cons_succ, List.set_cons_zero]; exact rfl
        refine regj_take E 6 26 (v := ?_) (T' := ?_) HI (by kernel_rfl) (by kernel_rfl) (by kernel_rfl) (by kernel_rfl) (by kernel_rfl) (fun _ _ _ h => h) (fun o ho => ?_) ?_ ?_
        rotate_left 2
        · cases ho
          refine ⟨rfl, rfl, fun W hW => ?_⟩
          have hW : W.cell? ⟨s3, 0, none⟩ = some (.string tt) := hW
          go_simp; (try with_reducible rfl)
        · simp only [List.setIfInBounds_toArray, List.set_cons_succ, List.set_cons_zero]; exact rfl
        refine regj_round E (I' := (fun W' => W'.cell? ⟨s3, 0, none⟩ = some (.string tt))) (fun _ h => h) 7 27 (by kernel_rfl) (by kernel_rfl) L fn tmps assign body (fun o ho => by cases ho; exact ⟨rfl, rfl, by go_simp⟩) ?_
        refine RoundIn.mono (round_wide _ hR) ?_
        rintro e W3 ⟨hres, hk3⟩
        rcases hres with ⟨rfl, hJ3⟩ | ⟨hz, -⟩
        rotate_left
        · exact hz.elim
        have J3 := Lib.hid hJ3
        have K3 := Lib.hid hk3
        have HI : (fun W' => W'.cell? ⟨s3, 0, none⟩ = some (.string tt)) W3 := (K3.out.box (show Boxed wr.drew s3 _ _ from BT.out) (by decide)).cell
        clear hJ3 hk3
        refine ⟨_, _, rfl, .inr HI, (by simp only [List.setIfInBounds_toArray, List.set_cons_succ, List.set_cons_zero]; exact rfl), ?_⟩
        refine regj_take E 8 28 (v := ?_) (T' := ?_) HI (by kernel_rfl) (by kernel_rfl) (by kernel_rfl) (by kernel_rfl) (by kernel_rfl) (fun _ _ _ h => h) (fun o ho => ?_) ?_ ?_
        rotate_left 2
        · cases ho
          refine ⟨rfl, rfl, fun W hW => ?_⟩
          have hW : W.cell? ⟨s3, 0, none⟩ = some (.string tt) := hW
          go_simp; (try with_reducible rfl)
        · simp only [List.setIfInBounds_toArray, List.set_cons_succ, List.set_cons_zero]; exact rfl
        refine regj_take E 9 29 (v := ?_) (T' := ?_) HI (by kernel_rfl) (by kernel_rfl) (by kernel_rfl) (by kernel_rfl) (by kernel_rfl) (fun _ _ _ h => h) (fun o ho => ?_) ?_ ?_
        rotate_left 2
        · cases ho
          refine ⟨rfl, rfl, fun W hW => ?_⟩
          have hW : W.cell? ⟨s3, 0, none⟩ = some (.string tt) := hW
          go_simp; (try with_reducible rfl)
        · simp only [List.setIfInBounds_toArray, List.set_cons_succ, List.set_cons_zero]; exact rfl
        refine regj_done (by kernel_rfl) ?_
        have G3 := Lib.hid (GB.out.drew.trans K3.out.below)
        have B3' := Lib.hid (K3.out.box (show Boxed wr.drew s3 _ _ from BT.out) (by decide))
        have S3 := Lib.hid (Nat.le_trans HSZ.out K3.out.size)
        clear hy
        gi_wp2_with fail
        go_roundw
        case rel => exact ⟨k + 1, pre ++ [x], by go_num, hlt, by rw [List.length_append, HPRE.out]; rfl, HX.out, J3.out, G3.out, B3'.out, S3.out⟩
        case measure => simp [intOf]; omega
    · have hke : k = M := by omega
      subst hke
      have zl : decide ((k : Int) < (k : Int)) = false := by simp
      have HEQ := Lib.hid (show i - 1 + k = many8 l from by have := HM.out; have := HMN.out; omega)
      gi_wp2_with fail
      go_end0
      exact ⟨⟨_, rfl⟩, .inl ⟨pre, ⟨i, k, FO.out, Nat.le_of_eq HEQ.out, HLS.out, .inl HEQ.out⟩, JP.out⟩⟩
end Go.Proofs.Ytefjdmlmmoeoaaa
