/- Layer 7, the project's disk: the power is there again. -/
import Derived.Test.YtbdaflhmloodfaaHl
import Derived.Test.YtbdaflhmloodfaaHm
import Derived.Test.YtbdaflhmloodfaaHg
namespace Go.Proofs.Ytbdaflhmloodfaa
open Go.RowKit
set_option linter.unusedVariables false

set_option maxHeartbeats 4000000 in
set_option maxRecDepth 100000 in
theorem p_kept (w : World) (B : Nat) (kv : Value) (keep : List Int) (hk : RdI w B kv keep) (hkb : ∀ x ∈ keep, -9223372036854775808 ≤ x ∧ x ≤ 9223372036854775807) (i : Nat) (hi : i ≤ 1000000) (n : Int) (hn : 0 ≤ n ∧ n ≤ 16777216) :
    Calls Try.prog 47 #[kv, .int .i64 i, .int .i64 n] w fun e w' => e = .returned (.int .i64 (keepN keep i (n + 1))) ∧ w = w' := by
  have HKN := Lib.hid (show keepN keep i (n + 1) = if keep.length = 0 then 0 else (if keep.getD (i % keep.length) 0 < 0 then -(keep.getD (i % keep.length) 0 + 1) else keep.getD (i % keep.length) 0).tmod (n + 1) from rfl)
  obtain ⟨KA, kc, rfl, h1, h2, h3⟩ := hk
  obtain ⟨KL, hKL⟩ : ∃ KL, KL = keep.length := ⟨_, rfl⟩
  rw [← hKL] at h1 h3 HKN
  rw [← hKL]
  have hw : IntKind.i64.wrap (n + 1) = n + 1 := by rw [IntKind.wrap_i64]; omega
  have hv : wrap64 (n + 1) = n + 1 := by unfold wrap64; omega
  by_cases hk0 : KL = 0
  · have HR := Lib.hid (show keepN keep i (n + 1) = 0 from by rw [HKN.out, if_pos hk0])
    subst hk0
    clear h1 h2 h3 hKL hkb
    go_enter Try.func47, Try.ntmps47
    go_wp2_with fail
    go_ret
    exact ⟨ret_int HR.out.symm, rfl⟩
  · have hjl : i % KL < KL := Nat.mod_lt _ (by omega)
    have hrm : Int.tmod (i : Int) (KL : Int) = ((i % KL : Nat) : Int) := by rw [Int.tmod_eq_emod_of_nonneg (by omega)]; exact (Int.natCast_emod i KL).symm
    have hKz : ((KL : Int) == 0) = false := by rw [beq_eq_false_iff_ne]; omega
    have hNz : (KL == 0) = false := by rw [beq_eq_false_iff_ne]; omega
    obtain ⟨kb, ko, eb, hkbb, hkc⟩ := h3 (by omega)
    subst eb
    have hget : keep[i % KL]? = some (keep.getD (i % KL) 0) := by
      rw [List.getD_eq_getElem?_getD, List.getElem?_eq_getElem (by omega)]; rfl
    have kx : w.cell? ⟨kb, ko + i % KL, none⟩ = some (.int .i64 (keep.getD (i % KL) 0)) := hkc _ _ hget
    have hxb := hkb (keep.getD (i % KL) 0) (List.mem_of_getElem? hget)
    have HR := Lib.hid (show keepN keep i (n + 1) = (if keep.getD (i % KL) 0 < 0 then -(keep.getD (i % KL) 0 + 1) else keep.getD (i % KL) 0).tmod (n + 1) from by rw [HKN.out, if_neg hk0])
    generalize keep.getD (i % KL) 0 = z at *
    generalize i % KL = j at *
    have hm0 : (n + 1 == 0) = false := by rw [beq_eq_false_iff_ne]; omega
    clear hkc hget hkb hKL hk0 h1 h2 h3 hkbb HKN
    by_cases hz : z < 0
    · have HR2 := Lib.hid (show keepN keep i (n + 1) = (-(z + 1)).tmod (n + 1) from by rw [HR.out, if_pos hz])
      obtain ⟨q, hq⟩ : ∃ q : Int, q = -(z + 1) := ⟨_, rfl⟩
      have hz0 : 0 ≤ -(z + 1) := (by omega : ∀ y : Int, y < 0 → 0 ≤ -(y + 1)) z hz
      have HT := Lib.hid (show (-(z + 1)).tmod (n + 1) = (-(z + 1)) % (n + 1) from Int.tmod_eq_emod_of_nonneg hz0)
      have hw1 : IntKind.i64.wrap (z + 1) = z + 1 := by rw [IntKind.wrap_i64]; omega
      have hv1 : wrap64 (z + 1) = z + 1 := by unfold wrap64; omega
      have hw2 : IntKind.i64.wrap (-(z + 1)) = -(z + 1) := by rw [IntKind.wrap_i64]; omega
      have hv2 : wrap64 (-(z + 1)) = -(z + 1) := by unfold wrap64; omega
      clear HR hq
      go_enter Try.func47, Try.ntmps47
      go_wp2_with fail
      go_ret
      exact ⟨ret_int (by rw [HR2.out]; first | rfl | exact (Int.neg_tmod ..).symm), rfl⟩
    · have HR2 := Lib.hid (show keepN keep i (n + 1) = z.tmod (n + 1) from by rw [HR.out, if_neg hz])
      have HT := Lib.hid (show z.tmod (n + 1) = z % (n + 1) from Int.tmod_eq_emod_of_nonneg (Int.not_lt.1 hz))
      clear HR
      go_enter Try.func47, Try.ntmps47
      go_wp2_with fail
      go_ret
      exact ⟨ret_int (by rw [HR2.out]; first | rfl | exact HT.out.symm), rfl⟩

section
variable {S : Nat → Prop} {w w' : World} {l : List Fl} {m : Nat} {gb : ByteArray → Nat} {vv : ByteArray → Value} {g : Nat} {d : Dk} {p : Value}
theorem take_extract (b : ByteArray) (n : Nat) : (b.extract 0 n).data.toList = b.data.toList.take n := by
  rw [ByteArray.data_extract, Array.toList_extract, List.extract_eq_take_drop]; simp

set_option maxHeartbeats 4000000 in
set_option maxRecDepth 100000 in
theorem p_cut (w : World) {k : Nat} (hk : k < l.length) (f : Fl) (hf : l[k] = f) (h : FilesR w S l m gb vv) (hS : ∀ i, w.heap.size ≤ i → S i) (n : Nat) (hn : n ≤ f.b.size) (hsz : f.b.size ≤ 16777216) :
    Calls Try.prog 46 #[.pointer (some ⟨gb f.name, 0, none⟩), .int .i64 n] w fun e w' => e = .returned (.tuple #[]) ∧ ∃ vv', FilesR w' S (l.set k ⟨f.name, f.b.extract 0 n, n⟩) m gb vv' ∧ Kept S w w' ∧ ∀ (i : Nat) (o : Obj), filO o = false → w.heap[i]? = some o → w'.heap[i]? = some o := by
  have hff : FileR w S (gb f.name) (vv f.name) f := by have := h.file _ (List.getElem_mem hk); rwa [hf] at this
  have HFF := Lib.hid hff
  have HS := Lib.hid hS
  have HTE := Lib.hid (take_extract f.b n)
  obtain ⟨v, hv⟩ : ∃ v, v = vv f.name := ⟨_, rfl⟩
  rw [← hv] at hff
  have hsl : f.b.data.toList.length = f.b.size := by simp
  have RB := hff.own.rd
  obtain ⟨X, c, e, -⟩ := own_cap hff.own
  rw [hsl] at e
  subst e
  obtain ⟨X2, c2, hs2, RB2⟩ := sl_head RB n n rfl (by omega)
  have RB2' := Lib.hid RB2
  have hl2 := Lib.hid (show (f.b.data.toList.take n).length ≤ 549755813888 from by rw [List.length_take]; omega)
  have hlen2 := Lib.hid (show (f.b.data.toList.take n).length = n from by rw [List.length_take]; omega)
  have BX := Lib.hid hff.box
  have c0 := hff.box.cell 0 (.slice X f.b.size c) rfl
  have HT := Lib.hid (fun (w' : World) (gf : Nat) (v' : Value) (hgf : gb f.name = gf) hf' hv hb => h.turn (w' := w') (k := k) (f' := ⟨f.name, f.b.extract 0 n, n⟩) (v' := v') hk (by rw [hf]) (by rw [hf, hgf]; exact hf') hv (by rw [hf, hgf]; exact hb))
  have HUP := Lib.hid (show upd vv l[k].name = upd vv f.name from by rw [hf])
  clear h hS hff hsl RB hv hsz hn hf RB2
  obtain ⟨gf, hgf⟩ : ∃ gf, gb f.name = gf := ⟨_, rfl⟩
  rw [hgf] at HFF BX c0 ⊢
  have HGF := Lib.hid hgf
  clear hgf
  go_enter Try.func46, Try.ntmps46
  go_wp2_with (go_at_call 48; refine (clone_any _ _ _ RB2'.out hl2.out).mono ?_; rintro e w1 ⟨v1, rfl, ho1, hb1⟩; have O1 := Lib.hid ho1; have G1 := Lib.hid hb1; clear ho1 hb1; obtain ⟨X3, c3, e3, -⟩ := own_cap O1.out; rw [hlen2.out] at e3; subst e3; have BX1 := Lib.hid (BX.out.later G1.out); have c0 := BX1.out.cell 0 (.slice X f.b.size c) rfl; have c1 := BX1.out.cell 1 (.int .i64 f.safe) rfl; have f0 := BX1.out.frozen 0; have f1 := BX1.out.frozen 1)
  go_end0
  have hlt := BX.out.lt
  have hne : (Value.slice X3 n c3).ownBlock ≠ some gf := fun e => by have := OwnB.base O1.out gf e; omega
  have hbx := (BX1.out.set 0 (.slice X3 n c3)).set 1 (.int .i64 n)
  refine ⟨rfl, upd vv l[k].name (.slice X3 n c3), ?_, (Kept.of_below G1.out).trans (((Kept.refl S w1).set BX1.out HFF.out.sg (projO_file _) 0 _).set (BX1.out.set 0 _) HFF.out.sg (projO_file _) 1 _), fun i o ho hio => ?_⟩
  rotate_left
  · have hi : i ≠ gf := fun e => by
      have h1 := BX.out
      unfold Box at h1
      rw [← e, hio] at h1
      injection h1 with h1
      rw [h1, filO_file] at ho
      cases ho
    exact (Below.heap_setCell _ ⟨gf, 1, none⟩ _ i hi).trans ((Below.heap_setCell w1 ⟨gf, 0, none⟩ _ i hi).trans ((G1.out.block i (Array.getElem?_eq_some_iff.1 hio).1).trans hio))
  refine HT.out ((w1.setCell ⟨gf, 0, none⟩ (.slice X3 n c3)).setCell ⟨gf, 1, none⟩ (.int .i64 n)) gf (.slice X3 n c3) HGF.out ?_ ?_ ?_
  · refine ⟨HFF.out.sg, hbx, ?_, fun j hj => HS.out j (OwnB.base O1.out j hj)⟩
    rw [HTE.out]
    have h0 : OwnB w1 0 (.slice X3 n c3) (f.b.data.toList.take n) := Go.Proofs.ownsRow_base_a O1.out (Nat.zero_le _)
    refine h0.to fun j o hj _ hjo => ?_
    have hjg : j ≠ gf := fun e => hne (by rw [← e]; exact hj)
    exact (Below.heap_setCell _ ⟨gf, 1, none⟩ _ j hjg).trans ((Below.heap_setCell w1 ⟨gf, 0, none⟩ _ j hjg).trans hjo)
  · intro j hj; exact .inr (OwnB.base O1.out j hj)
  · intro i o hi _ hio
    exact (Below.heap_setCell _ ⟨gf, 1, none⟩ _ i hi).trans ((Below.heap_setCell w1 ⟨gf, 0, none⟩ _ i hi).trans ((G1.out.block i (Array.getElem?_eq_some_iff.1 hio).1).trans hio))

/-- The files that have bytes that are not safe. -/
def looseF (l : List Fl) : List Fl := l.filter (fun f => decide (f.safe < (f.b.size : Int)))
def ptL : Lay Nat := ⟨1, fun g => [.pointer (some ⟨g, 0, none⟩)], fun _ => rfl, fun x u hu => by simp at hu; subst hu; rfl, by decide⟩
theorem pt_info : (Try.prog.info? 67).map (fun i => (i.zero, i.size, i.bytes)) = some (some (.pointer none), 1, 8) := by kernel_rfl
theorem looseF_snoc (l : List Fl) (k : Nat) (hk : k < l.length) : looseF (l.take (k + 1)) = looseF (l.take k) ++ (if l[k].safe < (l[k].b.size : Int) then [l[k]] else []) := by
  unfold looseF
  rw [List.take_succ_eq_append_getElem hk, List.filter_append]
  congr 1
  by_cases h : l[k].safe < (l[k].b.size : Int) <;> simp [h]

set_option maxHeartbeats 8000000 in
set_option maxRecDepth 100000 in
theorem p_loose (h : RdMp w S g d m gb vv) (hl : d.f.length ≤ 400) :
    Calls Try.prog 45 #[.pointer (some ⟨g, 0, none⟩)] w fun e w' => ∃ v, e = .returned v ∧ OwnX ptL 67 w' w.heap.size v ((looseF d.f).map (fun f => gb f.name)) ∧ Below w.heap.size w w' := by
  have HC := Lib.hid (p_names (RdM.mk rfl ⟨m, gb, vv, h⟩) (by omega))
  obtain ⟨hs, ⟨A, hb, hA⟩, hf⟩ := h
  have HF := Lib.hid hf
  have HB := Lib.hid hb
  obtain ⟨l, hle⟩ : ∃ l, l = d.f := ⟨_, rfl⟩
  rw [← hle] at hl HF HC ⊢
  clear hb hs hf hA
  have HLE := Lib.hid hle
  clear hle
  go_enter Try.func45, Try.ntmps45
  go_wp2_with (go_at_call 49; refine (HC.out).mono ?_; rintro e w1 ⟨nv, rfl, ho, hb1⟩; have O := Lib.hid ho; have G1 := Lib.hid hb1; clear ho hb1; obtain ⟨NA, nc, en, -⟩ := O.out.rd; rw [show (nmsF l).length = l.length from by unfold nmsF; simp] at en; subst en)
  go_loopw [3, 10] (fun v i wr => ∃ k : Nat, i = .int .i64 k ∧ k ≤ l.length ∧ OwnX ptL 67 wr w1.heap.size v ((looseF (l.take k)).map (fun f => gb f.name)) ∧ (looseF (l.take k)).length ≤ k ∧ Below w1.heap.size w1 wr) (fun _ i _ => l.length - (intOf i).toNat)
  case atStart => exact ⟨0, rfl, Nat.zero_le _, OwnX.nil _ _, Nat.le_refl _, Below.refl _ _⟩
  case round =>
    obtain ⟨k, rfl, hk, hov, hcnt, hbw⟩ := hrel
    have OV := Lib.hid hov
    have G := Lib.hid (G1.out.trans (hbw.mono G1.out.size))
    have GW := Lib.hid hbw
    clear hov hbw
    by_cases hlt : k < l.length
    · have FR := Lib.hid (HF.out.on G.out)
      have hnl : k < (nmsF l).length := by unfold nmsF; simpa using hlt
      obtain ⟨nb, no, e, hnb, hnc⟩ := (O.out.on GW.out).rd.at k hnl
      subst e
      have n0 : wr.cell? ⟨nb, no + k, none⟩ = some (.string l[k].name) := by
        have := hnc 0 (.string (nmsF l)[k]) rfl
        rw [show (nmsF l)[k] = l[k].name from List.getElem_map ..] at this
        simpa [smL] using this
      have hml := List.getElem_mem hlt
      have hit := FR.out.hit hml
      have FL := FR.out.file _ hml
      have c0 := (HB.out.later G.out).cell 0 (.map (some m)) rfl
      obtain ⟨f, hfe⟩ : ∃ f, f = l[k] := ⟨_, rfl⟩
      have HSN := Lib.hid (looseF_snoc l k hlt)
      rw [← hfe] at n0 hit FL HSN
      obtain ⟨v0, hv0⟩ : ∃ v0, v0 = vv f.name := ⟨_, rfl⟩
      rw [← hv0] at FL
      obtain ⟨X, c, e3, -⟩ := own_cap FL.own
      have hsz : f.b.data.toList.length = f.b.size := by simp
      rw [hsz] at e3
      subst e3
      have q0 := FL.box.cell 0 (.slice X f.b.size c) rfl
      have q1 := FL.box.cell 1 (.int .i64 f.safe) rfl
      clear hnc hml FL hv0 hsz hfe hnb
      obtain ⟨gf, hgf⟩ : ∃ gf, gb f.name = gf := ⟨_, rfl⟩
      rw [hgf] at q0 q1 hit
      have HGF := Lib.hid hgf
      clear hgf
      have zl : decide ((k : Int) < (l.length : Int)) = true := by simp; omega
      by_cases hlo : f.safe < (f.b.size : Int)
      · have HS2 := Lib.hid (show (looseF (l.take (k + 1))).map (fun f => gb f.name) = (looseF (l.take k)).map (fun f => gb f.name) ++ [gf] from by rw [HSN.out, if_pos hlo, List.map_append]; simp [HGF.out])
        have HC2 := Lib.hid (show (looseF (l.take (k + 1))).length ≤ k + 1 from by rw [HSN.out, if_pos hlo, List.length_append]; simp; omega)
        have hcn := Lib.hid (show ((looseF (l.take k)).map (fun f => gb f.name)).length + 1 ≤ 1000000000 from by rw [List.length_map]; omega)
        go_wp2_with fail
        go_quiet (fail)
        go_wp2_with (at_builtin; refine wpl_appX rfl (.tmp 30) (.tmp 32) rfl Try.underlying73 pt_info rfl w1.heap.size _ _ [gf] _ _ _ rfl rfl rfl rfl (OV.out.on ((Below.refl _ _).drewN _)) (GW.out.drewN _).size hcn.out (by decide) ?_; intro v2 w2 ho2 hg2 hb2; have O2 := Lib.hid ho2; have G2 := Lib.hid hb2; clear ho2 hg2 hb2)
        go_roundw
        case rel => exact ⟨k + 1, by go_num, by omega, by rw [HS2.out]; exact O2.out, HC2.out, (GW.out.drewN _).trans G2.out⟩
        case measure => simp [intOf]; omega
      · have HS2 := Lib.hid (show looseF (l.take (k + 1)) = looseF (l.take k) from by rw [HSN.out, if_neg hlo, List.append_nil])
        have hge : (f.b.size : Int) ≤ f.safe := by omega
        clear hlo
        go_wp2_with fail
        go_quiet (fail)
        go_wp2_with fail
        go_roundw
        case rel => exact ⟨k + 1, by go_num, by omega, by rw [HS2.out]; exact OV.out.on ((Below.refl _ _).drewN _), by rw [HS2.out]; omega, GW.out.drewN _⟩
        case measure => simp [intOf]; omega
    · have hke := Lib.hid (show l.take k = l from List.take_of_length_le (by omega))
      have zl : decide ((k : Int) < (l.length : Int)) = false := by rw [decide_eq_false_iff_not]; omega
      go_wp2_with fail
      go_ret
      exact ⟨_, rfl, by have := Go.Proofs.ownsRow_base_a OV.out (base' := w.heap.size) G1.out.size; rw [hke.out] at this; exact this, G.out⟩

/-- The files when the first j of those that are not safe have been cut. -/
def upJ (keep : List Int) (j : Nat) : Nat → List Fl → List Fl
  | _, [] => []
  | i, f :: l => if (f.b.size : Int) = f.safe then f :: upJ keep j i l else (if i < j then upOne keep i f else f) :: upJ keep j (i + 1) l
theorem upJ_none (keep : List Int) (j : Nat) : ∀ (l : List Fl) (i : Nat), j ≤ i → upJ keep j i l = l
  | [], _, _ => rfl
  | f :: l, i, h => by
    unfold upJ
    rw [upJ_none keep j l i h, upJ_none keep j l (i + 1) (by omega), if_neg (show ¬ i < j from by omega)]
    split <;> rfl
theorem looseF_cons (f : Fl) (l : List Fl) (h : f.safe ≤ f.b.size) : looseF (f :: l) = if (f.b.size : Int) = f.safe then looseF l else f :: looseF l := by
  unfold looseF
  rw [List.filter_cons]
  by_cases h2 : (f.b.size : Int) = f.safe
  · rw [if_pos h2, if_neg (by simp; omega)]
  · rw [if_neg h2, if_pos (by simp; omega)]
theorem upJ_all (keep : List Int) (j : Nat) : ∀ (l : List Fl) (i : Nat), SafeF l → i + (looseF l).length ≤ j → upJ keep j i l = upGo keep i l
  | [], _, _, _ => by unfold upJ upGo; rfl
  | f :: l, i, hs, h => by
    have hs1 : SafeF l := fun y hy => hs y (by simp [hy])
    rw [looseF_cons f l (hs f (by simp)).2] at h
    unfold upJ upGo
    by_cases h2 : (f.b.size : Int) = f.safe
    · rw [if_pos h2] at h ⊢
      rw [if_pos h2, upJ_all keep j l i hs1 h]
    · rw [if_neg h2] at h ⊢
      rw [if_neg h2, upJ_all keep j l (i + 1) hs1 (by simp at h; omega), if_pos (by simp at h; omega)]
theorem upJ_step (keep : List Int) (j : Nat) (f : Fl) : ∀ (l : List Fl) (i : Nat), SafeF l → i ≤ j → (looseF l)[j - i]? = some f →
    ∃ pos, ∃ h : pos < (upJ keep j i l).length, (upJ keep j i l)[pos] = f ∧ upJ keep (j + 1) i l = (upJ keep j i l).set pos (upOne keep j f)
  | [], _, _, _, h => by simp [looseF] at h
  | x :: l, i, hs, hij, h => by
    have hs1 : SafeF l := fun y hy => hs y (by simp [hy])
    rw [looseF_cons x l (hs x (by simp)).2] at h
    unfold upJ
    by_cases h2 : (x.b.size : Int) = x.safe
    · rw [if_pos h2] at h
      obtain ⟨pos, hp, e1, e2⟩ := upJ_step keep j f l i hs1 hij h
      simp only [if_pos h2]
      exact ⟨pos + 1, by simpa using hp, by simpa using e1, by rw [e2]; simp⟩
    · rw [if_neg h2] at h
      simp only [if_neg h2]
      by_cases hj : i = j
      · subst hj
        rw [Nat.sub_self] at h
        have hx : x = f := by simpa using h
        subst hx
        refine ⟨0, by simp, by simp, ?_⟩
        rw [upJ_none keep i l (i + 1) (by omega), upJ_none keep (i + 1) l (i + 1) (by omega), if_pos (by omega)]
        rfl
      · have h3 : (looseF l)[j - (i + 1)]? = some f := by
          rw [show j - i = (j - (i + 1)) + 1 from by omega] at h
          simpa using h
        obtain ⟨pos, hp, e1, e2⟩ := upJ_step keep j f l (i + 1) hs1 (by omega) h3
        simp only [if_pos (show i < j from by omega), if_pos (show i < j + 1 from by omega)]
        exact ⟨pos + 1, by simpa using hp, by simpa using e1, by rw [e2]; simp⟩
theorem upJ_len (keep : List Int) (j : Nat) : ∀ (l : List Fl) (i : Nat), (upJ keep j i l).length = l.length
  | [], _ => rfl
  | f :: l, i => by unfold upJ; split <;> simp [upJ_len keep j l]

theorem OwnX.fil {α : Type} {L : Lay α} {e : TypeId} {base : Nat} {v : Value} {x : List α} (h : OwnX L e w base v x) (hf : ∀ (i : Nat) (o : Obj), filO o = false → w.heap[i]? = some o → w'.heap[i]? = some o) (he : ∀ cs, filO (.cells cs e (0, 0)) = false) : OwnX L e w' base v x := by
  refine ⟨h.1, ?_⟩
  rcases h.2 with h2 | ⟨g, cap, cur, e1, hg, hc, h3⟩
  · exact .inl h2
  · exact .inr ⟨g, cap, cur, e1, hg, hf g _ (he cur) hc, h3⟩

set_option maxHeartbeats 16000000 in
set_option maxRecDepth 100000 in
theorem p_up (h : RdM w S g p d) (hd : OkD d) (hS : ∀ i, w.heap.size ≤ i → S i) (kv : Value) (keep : List Int) (hk : ∀ wr, Kept S w wr → ∃ B, RdI wr B kv keep) (hkb : ∀ x ∈ keep, -9223372036854775808 ≤ x ∧ x ≤ 9223372036854775807) :
    Calls Try.prog 20 #[p, kv] w fun e w' => e = .returned (.tuple #[]) ∧ RdM w' S g p (upD d keep) ∧ Kept S w w' := by
  obtain ⟨rfl, m, gb, vv, hs, ⟨A, hb, hA⟩, hf⟩ := h
  have hlen := hd.len
  have hsafe : SafeF d.f := hd.safe
  have hused := hd.used
  have hug := usedF_ge d.f
  have HS := Lib.hid hs
  have HB := Lib.hid hb
  have HF := Lib.hid hf
  have HSS := Lib.hid hS
  have RK := Lib.hid hk
  have HKB := Lib.hid hkb
  have HU := Lib.hid (show upD d keep = if d.down = true then ⟨upGo keep 0 d.f, d.max, -1, false⟩ else { d with left := -1 } from rfl)
  obtain ⟨l, mx, lf, dn⟩ := d
  simp only at *
  have c2 := hb.cell 2 (.int .i64 A) rfl
  have c3 := hb.cell 3 (.bool dn) rfl
  have f2 := hb.frozen 2
  have f3 := hb.frozen 3
  have hgl := hb.lt
  clear hb hf hs hA hS hk hkb hd
  cases dn
  · have hr := Lib.hid (show upD ⟨l, mx, lf, false⟩ keep = ⟨l, mx, -1, false⟩ from by rw [HU.out]; simp)
    go_enter Try.func20, Try.ntmps20
    go_wp2_with fail
    (try simp only [Exit.inBlock, Exit.then])
    refine bodyPost_ret (results_none rfl _ _ _) rfl ?_
    rw [hr.out]
    exact ⟨rfl, ⟨rfl, m, gb, vv, HS.out, ⟨-1, HB.out.set 2 _, by omega, by omega, fun _ => .inl rfl⟩, HF.out.disk_set HB.out _ _⟩, (Kept.refl S w).set HB.out HS.out (projO_disk _) 2 _⟩
  · have hr := Lib.hid (show upD ⟨l, mx, lf, true⟩ keep = ⟨upGo keep 0 l, mx, -1, false⟩ from by rw [HU.out]; simp)
    obtain ⟨W0, hW0⟩ : ∃ W0, (w.setCell ⟨g, 2, none⟩ (.int .i64 (-1))).setCell ⟨g, 3, none⟩ (.bool false) = W0 := ⟨_, rfl⟩
    have B0 := Lib.hid (show Box W0 g #[.map (some m), .int .i64 mx, .int .i64 (-1), .bool false] 54 from by rw [← hW0]; exact (HB.out.set 2 _).set 3 _)
    have F0 := Lib.hid (show FilesR W0 S l m gb vv from by rw [← hW0]; exact (HF.out.disk_set HB.out _ _).disk_set (HB.out.set 2 _) _ _)
    have K0 := Lib.hid (show Kept S w W0 from by rw [← hW0]; exact ((Kept.refl S w).set HB.out HS.out (projO_disk _) 2 _).set (HB.out.set 2 _) HS.out (projO_disk _) 3 _)
    have LC := Lib.hid (p_loose (d := ⟨l, mx, -1, false⟩) ⟨HS.out, ⟨-1, B0.out, by omega, by omega, fun _ => .inl rfl⟩, F0.out⟩ hlen)
    have HW0 := Lib.hid hW0
    clear hW0
    go_enter Try.func20, Try.ntmps20
    go_wp2_with (go_at_call 45; rw [HW0.out]; refine (LC.out).mono ?_; rintro e w1 ⟨v, rfl, ho, hb1⟩; have O := Lib.hid ho; have G1 := Lib.hid hb1; clear ho hb1; obtain ⟨LA, lc, el, -⟩ := O.out.rd; rw [List.length_map] at el; subst el)
    clear c2 c3 f2 f3
    have B1 := Lib.hid (B0.out.later G1.out)
    have K1 := Lib.hid (K0.out.trans (Kept.of_below G1.out))
    go_loopw [20] (fun i wr => ∃ (k : Nat) (vv' : ByteArray → Value), i = .int .i64 k ∧ k ≤ (looseF l).length ∧ FilesR wr S (upJ keep k 0 l) m gb vv' ∧ Kept S w wr ∧ ∀ (i : Nat) (o : Obj), filO o = false → w1.heap[i]? = some o → wr.heap[i]? = some o) (fun i _ => (looseF l).length - (intOf i).toNat)
    case atStart => exact ⟨0, vv, rfl, Nat.zero_le _, by rw [upJ_none keep 0 l 0 (Nat.le_refl _)]; exact F0.out.on G1.out, K1.out, fun i o _ h => h⟩
    case round =>
      obtain ⟨k, vv1, rfl, hk, hfr, hkr, hfil⟩ := hrel
      have FR := Lib.hid hfr
      have KR := Lib.hid hkr
      have FIL := Lib.hid hfil
      have OR := Lib.hid (O.out.fil hfil (fun cs => by simp [filO]))
      have BR := Lib.hid (show Box wr g #[.map (some m), .int .i64 mx, .int .i64 (-1), .bool false] 54 from hfil g _ (filO_disk _) B1.out)
      clear hfr hkr hfil
      by_cases hlt : k < (looseF l).length
      · obtain ⟨pos, hp, he, hst⟩ := upJ_step keep k (looseF l)[k] l 0 hsafe (Nat.zero_le _) (by rw [Nat.sub_zero]; exact List.getElem?_eq_getElem hlt)
        have hml : (looseF l)[k] ∈ l := (List.mem_filter.1 (List.getElem_mem hlt)).1
        have hlo : (looseF l)[k].safe < ((looseF l)[k].b.size : Int) := by have := (List.mem_filter.1 (List.getElem_mem hlt)).2; simpa using this
        have hlk : k < ((looseF l).map (fun f => gb f.name)).length := by rw [List.length_map]; exact hlt
        obtain ⟨pb, po, e, hpb, hpc⟩ := OR.out.rd.at k hlk
        subst e
        have hsf := hsafe _ hml
        have hszu : ((looseF l)[k].b.size : Int) ≤ 16777216 := by
          obtain ⟨i, hi, e⟩ := List.getElem_of_mem hml
          have := hug i hi
          rw [e] at this
          omega
        have p0 : wr.cell? ⟨pb, po + k, none⟩ = some (.pointer (some ⟨gb (looseF l)[k].name, 0, none⟩)) := by
          have := hpc 0 (.pointer (some ⟨((looseF l).map (fun f => gb f.name))[k], 0, none⟩)) rfl
          rw [List.getElem_map] at this
          simpa [ptL] using this
        have hkl400 : k ≤ 1000000 := by
          have : (looseF l).length ≤ l.length := List.length_filter_le ..
          omega
        clear hpc hlk hml hpb
        obtain ⟨f, hfe⟩ : ∃ f, (looseF l)[k] = f := ⟨_, rfl⟩
        rw [hfe] at he hst hlo hsf hszu p0
        have FL : FileR wr S (gb f.name) (vv1 f.name) f := by have := FR.out.file _ (List.getElem_mem hp); rwa [he] at this
        obtain ⟨v0, hv0⟩ : ∃ v0, v0 = vv1 f.name := ⟨_, rfl⟩
        rw [← hv0] at FL
        obtain ⟨X, c, e3, -⟩ := own_cap FL.own
        have hsz : f.b.data.toList.length = f.b.size := by simp
        rw [hsz] at e3
        subst e3
        have q0 := FL.box.cell 0 (.slice X f.b.size c) rfl
        have q1 := FL.box.cell 1 (.int .i64 f.safe) rfl
        obtain ⟨kn, hkn⟩ : ∃ kn, kn = keepN keep k (f.b.size - f.safe + 1) := ⟨_, rfl⟩
        have hkb2 := keepN_bd keep k (f.b.size - f.safe + 1) (by omega)
        rw [← hkn] at hkb2
        obtain ⟨BK, hrk⟩ := RK.out wr.drew KR.out.drew
        have KC := Lib.hid (p_kept wr.drew BK kv keep hrk HKB.out k hkl400 ((f.b.size : Int) - f.safe) (by omega))
        rw [← hkn] at KC
        clear hrk
        have hn2 : (((f.safe + kn).toNat : Nat) : Int) = f.safe + kn := by omega
        have CC := Lib.hid (p_cut wr.drew hp f he (FR.out.on (Below.refl _ wr).drew) (fun i hi => HSS.out i (Nat.le_trans KR.out.size hi)) (f.safe + kn).toNat (by omega) (by omega))
        rw [hn2] at CC
        have HN := Lib.hid (show upJ keep (k + 1) 0 l = (upJ keep k 0 l).set pos ⟨f.name, f.b.extract 0 (f.safe + kn).toNat, f.safe + kn⟩ from by
          rw [hst]
          unfold upOne
          rw [← hkn]
          have h3 : ((f.b.extract 0 (f.safe + kn).toNat).size : Int) = f.safe + kn := by rw [ByteArray.size_extract]; omega
          rw [h3])
        have hw1 : IntKind.i64.wrap ((f.b.size : Int) - f.safe) = (f.b.size : Int) - f.safe := by rw [IntKind.wrap_i64]; omega
        have hw3 : IntKind.i64.wrap (f.safe + kn) = f.safe + kn := by rw [IntKind.wrap_i64]; omega
        have zl : decide ((k : Int) < ((looseF l).length : Int)) = true := by simp; omega
        clear he hst hlo hsf hszu FL hv0 hsz hkn hn2 hfe hug hused hlen hsafe hkb2
        obtain ⟨gf, hgf⟩ : ∃ gf, gb f.name = gf := ⟨_, rfl⟩
        rw [hgf] at p0 q0 q1 CC
        clear hgf
        go_wp2_with fail
        have HI : (fun W => W = wr.drew) wr.drew := rfl
        refine regk_start [19] (fun W => W = wr.drew) (by kernel_rfl) ?_
        refine regk_free 0 25 (v := ?_) (T' := ?_) (fun _ => HI) (by kernel_rfl) (by kernel_rfl) (by kernel_rfl) (by kernel_rfl) (fun _ _ _ h => h) (fun o ho => ?_) ?_ ?_
        rotate_left 2
        · cases ho
          refine ⟨rfl, rfl, fun W => ?_⟩
          go_simp; (try with_reducible rfl)
        · simp only [List.setIfInBounds_toArray, List.set_cons_succ, List.set_cons_zero]; exact rfl
        refine regk_free 1 26 (v := ?_) (T' := ?_) (fun _ => HI) (by kernel_rfl) (by kernel_rfl) (by kernel_rfl) (by kernel_rfl) (fun _ _ _ h => h) (fun o ho => ?_) ?_ ?_
        rotate_left 2
        · cases ho
          refine ⟨rfl, rfl, fun W => ?_⟩
          go_simp; (try with_reducible rfl)
        · simp only [List.setIfInBounds_toArray, List.set_cons_succ, List.set_cons_zero]; exact rfl
        refine regk_take 2 27 (v := ?_) (T' := ?_) HI (by kernel_rfl) (by kernel_rfl) (by kernel_rfl) (by kernel_rfl) (by kernel_rfl) (by kernel_rfl) (fun _ _ _ h => h) (fun o ho => ?_) ?_ ?_
        rotate_left 2
        · cases ho
          refine ⟨rfl, rfl, fun W hW => ?_⟩
          have hW := (show W = _ from hW); subst hW; go_simp; (try with_reducible rfl)
        · simp only [List.setIfInBounds_toArray, List.set_cons_succ, List.set_cons_zero]; exact rfl
        refine regk_free 3 28 (v := ?_) (T' := ?_) (fun _ => HI) (by kernel_rfl) (by kernel_rfl) (by kernel_rfl) (by kernel_rfl) (fun _ _ _ h => h) (fun o ho => ?_) ?_ ?_
        rotate_left 2
        · cases ho
          refine ⟨rfl, rfl, fun W => ?_⟩
          go_simp; (try with_reducible rfl)
        · simp only [List.setIfInBounds_toArray, List.set_cons_succ, List.set_cons_zero]; exact rfl
        refine regk_take 4 29 (v := ?_) (T' := ?_) HI (by kernel_rfl) (by kernel_rfl) (by kernel_rfl) (by kernel_rfl) (by kernel_rfl) (by kernel_rfl) (fun _ _ _ h => h) (fun o ho => ?_) ?_ ?_
        rotate_left 2
        · cases ho
          refine ⟨rfl, rfl, fun W hW => ?_⟩
          have hW := (show W = _ from hW); subst hW; go_simp; (try with_reducible rfl)
        · simp only [List.setIfInBounds_toArray, List.set_cons_succ, List.set_cons_zero]; exact rfl
        refine regk_free 5 30 (v := ?_) (T' := ?_) (fun _ => HI) (by kernel_rfl) (by kernel_rfl) (by kernel_rfl) (by kernel_rfl) (fun _ _ _ h => h) (fun o ho => ?_) ?_ ?_
        rotate_left 2
        · cases ho
          refine ⟨rfl, rfl, fun W => ?_⟩
          go_simp; (try with_reducible rfl)
        · simp only [List.setIfInBounds_toArray, List.set_cons_succ, List.set_cons_zero]; exact rfl
        refine regk_free 6 31 (v := ?_) (T' := ?_) (fun _ => HI) (by kernel_rfl) (by kernel_rfl) (by kernel_rfl) (by kernel_rfl) (fun _ _ _ h => h) (fun o ho => ?_) ?_ ?_
        rotate_left 2
        · cases ho
          refine ⟨rfl, rfl, fun W => ?_⟩
          go_simp; (try with_reducible rfl)
        · simp only [List.setIfInBounds_toArray, List.set_cons_succ, List.set_cons_zero]; exact rfl
        refine regk_free 7 32 (v := ?_) (T' := ?_) (fun _ => HI) (by kernel_rfl) (by kernel_rfl) (by kernel_rfl) (by kernel_rfl) (fun _ _ _ h => h) (fun o ho => ?_) ?_ ?_
        rotate_left 2
        · cases ho
          refine ⟨rfl, rfl, fun W => ?_⟩
          go_simp; (try with_reducible rfl)
        · simp only [List.setIfInBounds_toArray, List.set_cons_succ, List.set_cons_zero]; exact rfl
        refine regk_take 8 33 (v := ?_) (T' := ?_) HI (by kernel_rfl) (by kernel_rfl) (by kernel_rfl) (by kernel_rfl) (by kernel_rfl) (by kernel_rfl) (fun _ _ _ h => h) (fun o ho => ?_) ?_ ?_
        rotate_left 2
        · cases ho
          refine ⟨rfl, rfl, fun W hW => ?_⟩
          have hW := (show W = _ from hW); subst hW; go_simp; (try with_reducible rfl)
        · simp only [List.setIfInBounds_toArray, List.set_cons_succ, List.set_cons_zero]; exact rfl
        refine regk_free 9 34 (v := ?_) (T' := ?_) (fun _ => HI) (by kernel_rfl) (by kernel_rfl) (by kernel_rfl) (by kernel_rfl) (fun _ _ _ h => h) (fun o ho => ?_) ?_ ?_
        rotate_left 2
        · cases ho
          refine ⟨rfl, rfl, fun W => ?_⟩
          go_simp; (try with_reducible rfl)
        · simp only [List.setIfInBounds_toArray, List.set_cons_succ, List.set_cons_zero]; exact rfl
        refine regk_take 10 35 (v := ?_) (T' := ?_) HI (by kernel_rfl) (by kernel_rfl) (by kernel_rfl) (by kernel_rfl) (by kernel_rfl) (by kernel_rfl) (fun _ _ _ h => h) (fun o ho => ?_) ?_ ?_
        rotate_left 2
        · cases ho
          refine ⟨rfl, rfl, fun W hW => ?_⟩
          have hW := (show W = _ from hW); subst hW; go_simp; (try with_reducible rfl)
        · simp only [List.setIfInBounds_toArray, List.set_cons_succ, List.set_cons_zero]; exact rfl
        refine regk_free 11 36 (v := ?_) (T' := ?_) (fun _ => HI) (by kernel_rfl) (by kernel_rfl) (by kernel_rfl) (by kernel_rfl) (fun _ _ _ h => h) (fun o ho => ?_) ?_ ?_
        rotate_left 2
        · cases ho
          refine ⟨rfl, rfl, fun W => ?_⟩
          go_simp; (try with_reducible rfl)
        · simp only [List.setIfInBounds_toArray, List.set_cons_succ, List.set_cons_zero]; exact rfl
        refine regk_free 12 37 (v := ?_) (T' := ?_) (fun _ => HI) (by kernel_rfl) (by kernel_rfl) (by kernel_rfl) (by kernel_rfl) (fun _ _ _ h => h) (fun o ho => ?_) ?_ ?_
        rotate_left 2
        · cases ho
          refine ⟨rfl, rfl, fun W => ?_⟩
          go_simp; (try with_reducible rfl)
        · simp only [List.setIfInBounds_toArray, List.set_cons_succ, List.set_cons_zero]; exact rfl
        refine regk_take 13 38 (v := ?_) (T' := ?_) HI (by kernel_rfl) (by kernel_rfl) (by kernel_rfl) (by kernel_rfl) (by kernel_rfl) (by kernel_rfl) (fun _ _ _ h => h) (fun o ho => ?_) ?_ ?_
        rotate_left 2
        · cases ho
          refine ⟨rfl, rfl, fun W hW => ?_⟩
          have hW := (show W = _ from hW); subst hW; go_simp; (try with_reducible rfl)
        · simp only [List.setIfInBounds_toArray, List.set_cons_succ, List.set_cons_zero]; exact rfl
        refine regk_free 14 39 (v := ?_) (T' := ?_) (fun _ => HI) (by kernel_rfl) (by kernel_rfl) (by kernel_rfl) (by kernel_rfl) (fun _ _ _ h => h) (fun o ho => ?_) ?_ ?_
        rotate_left 2
        · cases ho
          refine ⟨rfl, rfl, fun W => ?_⟩
          go_simp; (try with_reducible rfl)
        · simp only [List.setIfInBounds_toArray, List.set_cons_succ, List.set_cons_zero]; exact rfl
        refine regk_take 15 40 (v := ?_) (T' := ?_) HI (by kernel_rfl) (by kernel_rfl) (by kernel_rfl) (by kernel_rfl) (by kernel_rfl) (by kernel_rfl) (fun _ _ _ h => h) (fun o ho => ?_) ?_ ?_
        rotate_left 2
        · cases ho
          refine ⟨rfl, rfl, fun W hW => ?_⟩
          have hW := (show W = _ from hW); subst hW; go_simp; (try with_reducible rfl)
        · simp only [List.setIfInBounds_toArray, List.set_cons_succ, List.set_cons_zero]; exact rfl
        refine regk_free 16 41 (v := ?_) (T' := ?_) (fun _ => HI) (by kernel_rfl) (by kernel_rfl) (by kernel_rfl) (by kernel_rfl) (fun _ _ _ h => h) (fun o ho => ?_) ?_ ?_
        rotate_left 2
        · cases ho
          refine ⟨rfl, rfl, fun W => ?_⟩
          go_simp; (try with_reducible rfl)
        · simp only [List.setIfInBounds_toArray, List.set_cons_succ, List.set_cons_zero]; exact rfl
        refine regk_call (I' := (fun W => W = wr.drew)) (fun _ h => h) 17 42 (by kernel_rfl) 47 #[kv, .int .i64 k, .int .i64 ((f.b.size : Int) - f.safe)] (fun o ho => by cases ho; exact ⟨rfl, rfl, fun W => by go_simp⟩) ?_
        refine (KC.out).mono ?_
        rintro e x1 ⟨rfl, rfl⟩
        refine ⟨_, _, rfl, fun _ => rfl, (by simp only [List.setIfInBounds_toArray, List.set_cons_succ, List.set_cons_zero]; exact rfl), ?_⟩
        refine regk_free 18 43 (v := ?_) (T' := ?_) (fun _ => HI) (by kernel_rfl) (by kernel_rfl) (by kernel_rfl) (by kernel_rfl) (fun _ _ _ h => h) (fun o ho => ?_) ?_ ?_
        rotate_left 2
        · cases ho
          refine ⟨rfl, rfl, fun W => ?_⟩
          go_simp; (try with_reducible rfl)
        · simp only [List.setIfInBounds_toArray, List.set_cons_succ, List.set_cons_zero]; exact rfl
        refine regk_call (I' := (fun W => W = wr.drew)) (fun _ h => h) 19 44 (by kernel_rfl) 46 #[.pointer (some ⟨gf, 0, none⟩), .int .i64 (f.safe + kn)] (fun o ho => by cases ho; exact ⟨rfl, rfl, fun W => by go_simp⟩) ?_
        refine (CC.out).mono ?_
        rintro e x2 ⟨rfl, vv2, hf2, hk2⟩
        have F2 := Lib.hid hf2
        have K2 := Lib.hid hk2
        clear hf2 hk2
        refine ⟨_, _, rfl, noB_no (by kernel_rfl), (by simp only [List.setIfInBounds_toArray, List.set_cons_succ, List.set_cons_zero]; exact rfl), ?_⟩
        refine regk_done (by kernel_rfl) ?_
        go_wp2_with fail
        go_roundw
        case rel => exact ⟨k + 1, vv2, by go_num, by omega, by rw [HN.out]; exact F2.out, KR.out.drew.trans K2.out.1, fun i o ho h => K2.out.2 i o ho (FIL.out i o ho h)⟩
        case measure => simp [intOf]; omega
      · have hke := Lib.hid (show upJ keep k 0 l = upGo keep 0 l from upJ_all keep k l 0 hsafe (by omega))
        have zl : decide ((k : Int) < ((looseF l).length : Int)) = false := by rw [decide_eq_false_iff_not]; omega
        go_wp2_with fail
        go_end0
        rw [hr.out, ← hke.out]
        exact ⟨rfl, ⟨rfl, m, gb, vv1, HS.out, ⟨-1, BR.out, by omega, by omega, fun _ => .inl rfl⟩, FR.out⟩, KR.out⟩
end
end Go.Proofs.Ytbdaflhmloodfaa
