/- Layer 9: a run opened, by the project: read, Open. -/
import Derived.Test.YtefjdmlmmoeoaaaWe
import Derived.Test.YtefjdmlmmoeoaaaCF
import Derived.Test.YtefjdmlmmoeoaaaUg
import Derived.Test.YtefjdmlmmoeoaaaBA
namespace Go.Proofs.Ytefjdmlmmoeoaaa
open Go.RowKit
set_option linter.unusedVariables false

theorem blkRd_good {f : List UInt8} (h : (blkRd f).2 = 0) : blkB (blkRd f).1 = true := by
  by_cases he : blkE f = 0
  · have l2 : blkRd f = if (blkF f = true ∧ blkB (blkO f) = true) ∧ encBlk (blkO f) = f then (blkO f, 0) else ([], 2) := if_neg (fun h => h he)
    rw [l2] at h ⊢
    split at h
    · rename_i hh; rw [if_pos hh]; exact hh.1.2
    · cases h
  · have l2 : blkRd f = ([], blkE f) := if_pos he
    rw [l2] at h; exact absurd h he
theorem frs_many (b : List UInt8) : 8 * (frs b).1.length ≤ b.length ∧ ∀ f ∈ (frs b).1, f.length ≤ b.length := by
  generalize hn : b.length = n
  induction n using Nat.strongRecOn generalizing b with
  | ind n ih =>
    by_cases h : (fst1 b).2.2 = 0
    · rw [frs_ok b h]
      have h8 : 8 ≤ (fst1 b).2.1 ∧ (fst1 b).2.1 ≤ b.length ∧ (fst1 b).1.length ≤ b.length := by
        unfold fst1 at h ⊢
        split at h
        · simp at h
        · rename_i hq
          split at h
          · simp at h
          · rename_i hc
            rw [if_neg hq, if_neg hc]
            refine ⟨by simp, by simp; omega, ?_⟩
            simp only [List.length_take, List.length_drop]; omega
      have hd : (b.drop (fst1 b).2.1).length = b.length - (fst1 b).2.1 := List.length_drop ..
      obtain ⟨i1, i2⟩ := ih _ (by omega) (b.drop (fst1 b).2.1) rfl
      refine ⟨by simp only [List.length_cons]; omega, fun f hf => ?_⟩
      rcases List.mem_cons.1 hf with rfl | hf
      · omega
      · have := i2 f hf; omega
    · rw [frs_end b h]
      exact ⟨by simp, by simp⟩

section
variable {α : Type} {f : α → Value} {P : Program}
theorem slV_head {w : World} {B : Nat} {v : Value} {l : List α} (h : RdV f w B v l) {t e : TypeId} (ht0 : P.underlying t = some (.slice e)) (hsz : ∀ w, (Go.sizeOf e).run P w = .ok 1 w) (m : Nat) (z : Int) (hz : z = (m : Int)) (hm : m ≤ l.length) :
    ∃ A c, (∀ W, (Instr.slice t v none (some (.int .i64 z)) none).run P W = .ok (.slice A m c) W) ∧ RdV f w B (.slice A m c) (l.take m) := by
  subst hz
  obtain ⟨A, c, rfl, h1, h2, h3⟩ := h
  have ht : P.underlying t = some (.slice (P.elem t)) := by simp [Program.elem, ht0]
  have he : P.elem t = e := by simp [Program.elem, ht0]
  have hl : (l.take m).length = m := by rw [List.length_take]; omega
  refine ⟨if c = 0 then A else A.map (·.add 0), c, fun W => ?_, ⟨_, c, by rw [hl], by rw [hl]; omega, by omega, fun hp => ?_⟩⟩
  · rw [run_slice_h W _ _ _ _ ht _ _ (by omega) (by omega), he, hsz]
    simp [Result.andThen, sliced]
  · rw [hl] at hp
    obtain ⟨b, o, rfl, hb, hc⟩ := h3 (by omega)
    refine ⟨b, o, ?_, hb, fun i x hx => ?_⟩
    · rw [if_neg (by omega)]; simp [Addr.add]
    · rw [List.getElem?_take] at hx
      split at hx
      · exact hc i x hx
      · cases hx
end
theorem bytes_size (w : World) : (Go.sizeOf 24).run Try.prog w = .ok 1 w := by kernel_rfl
theorem RdBB.take {w : World} {B : Nat} {v : Value} {ls : List (List UInt8)} (h : RdBB w B v ls) (m : Nat) (z : Int) (hz : z = (m : Int)) (hm : m ≤ ls.length) :
    ∃ A c, (∀ W, (Instr.slice 59 v none (some (.int .i64 z)) none).run Try.prog W = .ok (.slice A m c) W) ∧ RdBB w B (.slice A m c) (ls.take m) := by
  obtain ⟨vs, h1, h2, h3⟩ := h
  obtain ⟨A, c, hs, hr⟩ := slV_head (P := Try.prog) h1 Try.underlying59 bytes_size m z hz (by omega)
  refine ⟨A, c, hs, vs.take m, hr, by simp [h2], fun i u l hu hl => ?_⟩
  rw [List.getElem?_take] at hu hl
  split at hu
  · rename_i him
    rw [if_pos him] at hl
    exact h3 i u l hu hl
  · cases hu

set_option maxHeartbeats 4000000 in
set_option maxRecDepth 100000 in
theorem run_read (va : Value) (b : List UInt8) (w : World) (ha : RdB w w.heap.size va b) (hb : b.length ≤ 20000) :
    Calls Try.prog 33 #[va] w fun e w' => ∃ v' l', e = .returned v' ∧ OwnVr w' w.heap.size v' l' ∧ l'.length ≤ 20000 ∧ (∀ v ∈ l', v.key.size ≤ 1000000) ∧ (∀ l, IsRun b l → l' = l) ∧ Below w.heap.size w w' := by
  have HA := Lib.hid ha
  have HFR := Lib.hid (fun l (h : IsRun b l) => h.frames (by omega))
  obtain ⟨hm8, hml⟩ := frs_many b
  have HML := Lib.hid hml
  have CF := Lib.hid (fun v w h => chk_frames v b w h (by omega))
  obtain ⟨A, c, rfl, -⟩ := ha
  clear hml
  generalize (frs b).1 = F at *
  generalize (frs b).2 = N at *
  go_enter Try.func33, Try.ntmps33
  go_wp2_with fail
  refine (CF.out _ _ HA.out).mono ?_
  rintro z w1 ⟨v1, rfl, ho1, hb1⟩
  have O1 := Lib.hid ho1.rd
  have G1 := Lib.hid hb1
  obtain ⟨n, hn⟩ : ∃ n : Nat, n = F.length - 2 := ⟨_, rfl⟩
  obtain ⟨A2, c2, hsl, hrs⟩ := ho1.rd.take n (n : Int) rfl (by omega)
  have RS := Lib.hid hrs
  have HN := Lib.hid hn
  have hn1 : n ≤ 2500 := by omega
  have hFl : F.length ≤ 2500 := by omega
  obtain ⟨A1, c1, e1, -⟩ := ho1.rd.form
  subst e1
  have hw2 : IntKind.i64.wrap ((F.length : Int) - 2) = (F.length : Int) - 2 := by rw [IntKind.wrap_i64]; omega
  by_cases h2 : F.length < 2
  · have hm1 : (F.length : Int) - 2 < 0 := by omega
    have hn0 : n = 0 := by omega
    subst hn0
    clear ho1 hb1 hrs hm8 hn
    have HNO := Lib.hid (show ∀ l, IsRun b l → ([] : List Ver) = l from fun l h => by have := (HFR.out l h).2.1; omega)
    go_wp2_with fail
    go_loopw [5, 22] (fun x i wr => i = .int .i64 0 ∧ x = .slice none 0 0 ∧ Below w.heap.size w wr) (fun _ i _ => (intOf i).toNat)
    case atStart => exact ⟨rfl, rfl, G1.out⟩
    case round =>
      obtain ⟨rfl, rfl, hbw⟩ := hrel
      go_wp2_with fail
      go_ret
      exact ⟨_, [], rfl, OwnX.nil _ _, by simp, by simp, HNO.out, hbw⟩
  · have hm1 : (0 : Int) ≤ (F.length : Int) - 2 := by omega
    have hm2 : (F.length : Int) - 2 = (n : Int) := by omega
    have hm3 : ¬ ((F.length : Int) - 2 < 0) := by omega
    have hFn : F.length = n + 2 := by omega
    have HFN := Lib.hid hFn
    have TKL := Lib.hid (show (F.take n).length = n by rw [List.length_take]; omega)
    clear ho1 hb1 hrs hm8 hn hFn
    go_wp2_with fail
    go_loopw [5, 22] (fun x i wr => ∃ (k : Nat) (out : List Ver), i = .int .i64 k ∧ k ≤ n ∧ OwnVr wr w1.heap.size x out ∧ out.length ≤ 8 * k ∧ (∀ v ∈ out, v.key.size ≤ 1000000) ∧ (∀ l, IsRun b l → out = l.take (8 * k)) ∧ Below w1.heap.size w1 wr) (fun _ i _ => n - (intOf i).toNat)
    case atStart => exact ⟨0, [], rfl, Nat.zero_le _, OwnX.nil _ _, by simp, by simp, by simp, Below.refl _ _⟩
    case round =>
      obtain ⟨k, out, rfl, hk, ho, hol, hok, hir, hb1w⟩ := hrel
      rename World => wo
      have O := Lib.hid ho
      have GB := Lib.hid hb1w
      have G := Lib.hid (G1.out.trans (hb1w.mono G1.out.size))
      have OKS := Lib.hid hok
      have HIR := Lib.hid hir
      obtain ⟨Ax, cx, ex, -⟩ := ho.rd
      subst ex
      clear ho hb1w hok hir
      by_cases hlt : k < n
      · have zl : decide ((k : Int) < (n : Int)) = true := by simp; omega
        have zl2 : decide (k < n) = true := by simp; omega
        have hkF : k < F.length := by have := HFN.out; omega
        obtain ⟨A', c', e1, -, -, hA⟩ := (RS.out.below (show Below w1.heap.size w1 wo from GB.out)).form
        rw [TKL.out] at e1
        obtain ⟨ba, oa, ua, rfl, hba, ca1, ra⟩ := hA k (by rw [TKL.out]; exact hlt)
        cases e1
        rw [List.getElem_take] at ra
        have hfl := HML.out _ (List.getElem_mem hkF)
        have HF := Lib.hid (show F[k]? = some F[k] from List.getElem?_eq_getElem hkF)
        generalize F[k] = f at *
        have R := Lib.hid (ra.more GB.out.size)
        obtain ⟨Au, cu, eu, -⟩ := ra
        subst eu
        have BR := Lib.hid (fun v w h => blk_read v f w h (by omega))
        have HSN := Lib.hid (show ∀ l, IsRun b l → (blkRd f).2 = 0 ∧ out ++ (blkRd f).1 = l.take (8 * (k + 1)) from fun l h => by
          obtain ⟨-, h2, h3⟩ := HFR.out l h
          have := HFN.out
          obtain ⟨f', e1, e2⟩ := h3 k (by omega)
          rw [HF.out] at e1
          injection e1 with e1
          subst e1
          rw [e2, HIR.out l h]
          refine ⟨rfl, ?_⟩
          show l.take (8 * k) ++ (l.drop (8 * k)).take 8 = _
          rw [show 8 * (k + 1) = 8 * k + 8 from by omega, List.take_add])
        have HGD := Lib.hid (fun h => blkB_len (blkRd_good (f := f) h))
        clear hA hkF hba
        generalize (blkRd f).1 = pc at *
        generalize (blkRd f).2 = E at *
        go_wp2_with fail
        refine (BR.out _ _ R.out).mono ?_
        rintro z w2 ⟨v2, rfl, ho2, hb2⟩
        have O2 := Lib.hid (O.out.on hb2)
        have G2 := Lib.hid (G.out.trans (hb2.mono G.out.size))
        have GB2 := Lib.hid (GB.out.trans (hb2.mono GB.out.size))
        have P2 := Lib.hid ho2.rd
        obtain ⟨A2', c2', e2, -⟩ := ho2.rd
        subst e2
        clear ho2 hb2
        by_cases he : E = 0
        · subst he
          obtain ⟨g1, g2, g3⟩ := HGD.out rfl
          have HMK := Lib.hid (show ∀ v ∈ out ++ pc, v.key.size ≤ 1000000 from fun v hv => by
            rcases List.mem_append.1 hv with hv | hv
            · exact OKS.out v hv
            · exact Nat.le_trans (may_key (blk_may g3 v hv)) (by omega))
          clear g3
          go_wp2_with (at_builtin; refine wpl_appX_rd rfl (.tmp 33) (.tmp 34) rfl Try.underlying22 ver_info rfl w1.heap.size _ _ _ out pc rfl rfl O2.out P2.out GB2.out.size (by omega) (by decide) ?_; intro v9 w9 ho9 hg9 hb9)
          have OZ := Lib.hid ho9
          have BZ := Lib.hid (GB2.out.trans hb9)
          clear ho9 hg9 hb9
          go_roundw
          case rel => exact ⟨k + 1, out ++ pc, by go_num, hlt, OZ.out, by rw [List.length_append]; omega, HMK.out, fun l h => (HSN.out l h).2, BZ.out⟩
          case measure => simp [intOf]; omega
        · have hne : (E != 0) = true := by simpa [bne] using he
          have HNO := Lib.hid (show ∀ l, IsRun b l → ([] : List Ver) = l from fun l h => absurd (HSN.out l h).1 he)
          go_wp2_with fail
          go_ret
          exact ⟨_, [], rfl, OwnX.nil _ _, by simp, by simp, HNO.out, G2.out⟩
      · have hke : k = n := by omega
        subst hke
        have zl : decide ((k : Int) < (k : Int)) = false := by simp
        have HEND := Lib.hid (show ∀ l, IsRun b l → out = l from fun l h => by
          have h2 := (HFR.out l h).2.1
          have h3 := HFN.out
          rw [HIR.out l h]
          exact List.take_of_length_le (by have : many8 l = (l.length + 7) / 8 := rfl; omega))
        go_wp2_with fail
        go_ret
        exact ⟨_, out, rfl, OwnX.mono O.out G1.out.size, by omega, OKS.out, HEND.out, G.out⟩

/-- p is a run that a call owns, of the versions l. -/
def RunAt (w : World) (base : Nat) (p : Value) (l : List Ver) : Prop := ∃ n vb, p = .pointer (some ⟨n, 0, none⟩) ∧ Box w n #[vb] 68 ∧ base ≤ n ∧ OwnNV w base vb (pcs8 l)
theorem RunAt.on {w w' : World} {base : Nat} {p : Value} {l : List Ver} (h : RunAt w base p l) (hb : Below w.heap.size w w') : RunAt w' base p l := by
  obtain ⟨n, vb, rfl, h1, h2, h3⟩ := h
  exact ⟨n, vb, rfl, h1.later hb, h2, h3.on hb⟩
theorem OwnNV.mono {w : World} {base base' : Nat} {v : Value} {ls : List (List Ver)} (h : OwnNV w base v ls) (hb : base' ≤ base) : OwnNV w base' v ls := by
  obtain ⟨vs, h1, h2, h3⟩ := h
  have key : ∀ {e : TypeId} {sz : Nat} {u : Value} {k : Nat} {xs : List Value}, w.ownsRow base e sz u k xs → w.ownsRow base' e sz u k xs := fun h => ⟨h.1, h.2.imp id fun ⟨g, cap, cur, e, hg, h3⟩ => ⟨g, cap, cur, e, Nat.le_trans hb hg, h3⟩⟩
  exact ⟨vs, key h1, h2, fun i u l hu hl => ⟨key (h3 i u l hu hl).1, (h3 i u l hu hl).2⟩⟩

set_option maxHeartbeats 4000000 in
set_option maxRecDepth 100000 in
theorem run_open (va : Value) (b : List UInt8) (w : World) (ha : RdB w w.heap.size va b) (hb : b.length ≤ 20000) :
    Calls Try.prog 11 #[va] w fun r w' => ∃ p e, r = .returned (.tuple #[p, .int .i64 e]) ∧ Below w.heap.size w w' ∧
      ((∃ l, e = 0 ∧ IsRun b l ∧ l.length ≤ 20000 ∧ RunAt w' w.heap.size p l) ∨ (e = 10 ∧ p = .pointer none ∧ ∀ l, ¬ IsRun b l)) := by
  have HA := Lib.hid ha
  have RD := Lib.hid (fun va w h => run_read va b w h hb)
  obtain ⟨A, c, rfl, -⟩ := ha
  go_enter Try.func11, Try.ntmps11
  go_wp2_with fail
  refine (RD.out _ _ HA.out).mono ?_
  rintro z w1 ⟨v1, l', rfl, ho1, hl1, hk1, hr1, hb1⟩
  have B1 := Lib.hid (HA.out.on hb1)
  have O1 := Lib.hid ho1
  have G1 := Lib.hid hb1
  have HR := Lib.hid hr1
  have BU := Lib.hid (fun va w h => run_build va l' w h hl1 hk1)
  have CU := Lib.hid (fun va w h => blk_cut va l' w h (by omega))
  have HBL := Lib.hid (fun h => encRun_len (l := l') h (by omega))
  have hmn : many8 l' ≤ 3000 := by unfold many8; omega
  obtain ⟨A1, c1, e1, -⟩ := ho1.rd
  subst e1
  clear ho1 hb1 hr1 hk1
  go_wp2_with fail
  refine (BU.out _ _ O1.out.rd).mono ?_
  rintro z w2 ⟨v2, rfl, ho2, hb2⟩
  have O2 := Lib.hid (O1.out.on hb2)
  have B2 := Lib.hid (B1.out.on hb2)
  have G2 := Lib.hid (G1.out.trans (hb2.mono G1.out.size))
  cases hok : okTo l' l'.length
  · rw [hok, if_neg (by simp)] at ho2
    rw [if_neg (by simp)]
    have HNO := Lib.hid (show ∀ l, ¬ IsRun b l from fun l h => by
      have := HR.out l h
      subst this
      rw [h.1] at hok
      cases hok)
    obtain ⟨A2, c2, e2, -⟩ := own_cap ho2
    subst e2
    clear hok ho2 hb2
    go_wp2_with fail
    go_ret2
    exact ⟨_, _, rfl, G2.out, .inr ⟨rfl, rfl, HNO.out⟩⟩
  · rw [hok, if_pos rfl] at ho2
    rw [if_pos rfl]
    have hel := HBL.out hok
    obtain ⟨A2, c2, e2, -⟩ := own_cap ho2
    subst e2
    have BE := Lib.hid (bytes_equal _ _ (encRun l') b w2 ho2.rd B2.out (by omega) (by omega))
    clear ho2 hb2
    by_cases hq : encRun l' = b
    · have HIS := Lib.hid (show IsRun b l' from ⟨hok, hq⟩)
      rw [decide_eq_true hq] at BE
      clear hok hq hel
      go_wp2_with fail
      refine BE.out.mono ?_
      rintro z _ ⟨rfl, rfl⟩
      go_wp2_with fail
      refine (CU.out _ _ O2.out.rd).mono ?_
      rintro z w3 ⟨v3, rfl, ho3, hb3⟩
      have NV := Lib.hid (ho3.mono (show w.heap.size ≤ _ from by have := G2.out.size; omega))
      have G3 := Lib.hid (G2.out.trans (hb3.mono G2.out.size))
      obtain ⟨A3, c3, e3⟩ := ho3.form
      subst e3
      clear ho3 hb3
      go_wp2_with fail
      go_ret2
      exact ⟨_, _, rfl, G3.out.trans ((alloc_below w3 _).mono G3.out.size), .inl ⟨l', rfl, HIS.out, hl1, _, _, rfl, Box.new w3 _ _ _ rfl, G3.out.size, NV.out.on (alloc_below w3 _)⟩⟩
    · have HNO := Lib.hid (show ∀ l, ¬ IsRun b l from fun l h => by
        have := HR.out l h
        subst this
        exact hq h.2)
      rw [decide_eq_false hq] at BE
      clear hok hq hel
      go_wp2_with fail
      refine BE.out.mono ?_
      rintro z _ ⟨rfl, rfl⟩
      go_wp2_with fail
      go_ret2
      exact ⟨_, _, rfl, G2.out, .inr ⟨rfl, rfl, HNO.out⟩⟩
end Go.Proofs.Ytefjdmlmmoeoaaa
