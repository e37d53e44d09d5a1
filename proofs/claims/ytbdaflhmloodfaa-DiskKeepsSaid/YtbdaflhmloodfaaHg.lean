/- Layer 7, the project's disk: bytes behind a file's. -/
import Derived.Test.YtbdaflhmloodfaaHd
namespace Go.Proofs.Ytbdaflhmloodfaa
open Go.RowKit
set_option linter.unusedVariables false

theorem app_bytes_run {W : World} {base B : Nat} {v u : Value} {l r : List UInt8} (ty : TypeId) (hown : OwnB W base v l) (hrd : RdB W B u r) (hb : base ≤ W.heap.size) (hlen : l.length + r.length ≤ 1099511627776) :
    ∃ v' w', (Builtin.append_ #[38, 38] ty #[v, u]).run Try.prog W = .ok v' w' ∧ OwnB w' base v' (l ++ r) ∧ Grew W w' v v' := by
  obtain ⟨A, c, rfl, _, _, hc⟩ := hrd
  by_cases hr : 0 < r.length
  · obtain ⟨g, off, rfl, _, hc⟩ := hc hr
    obtain ⟨v', w', h1, h2, h3, h4⟩ := app_run_at (P := Try.prog) (ty := ty) Try.underlying38 u8_info rfl (by omega) v l.length (bv l) hown g off r.length c (bv r) (by simp [bv]) (by
      intro j u hu
      simp only [bv, List.getElem?_map, Option.map_eq_some_iff] at hu
      obtain ⟨y, hy, rfl⟩ := hu
      exact hc j y hy) (by simp [bv, Value.oneCell']) (by omega) (by omega) hb
    exact ⟨v', w', h1, by unfold OwnB; rw [bv_append, List.length_append]; exact h2, h3⟩
  · have hr0 : r = [] := List.eq_nil_of_length_eq_zero (by omega)
    subst hr0
    obtain ⟨v', w', h1, h2, h3, h4⟩ := app_run_zero (P := Try.prog) (ty := ty) Try.underlying38 u8_info rfl (by omega) v l.length (bv l) hown A c (by omega) (by omega) hb
    exact ⟨v', w', h1, by rw [List.append_nil]; exact h2, h3⟩
section
variable {S : Nat → Prop} {w w' w7 : World} {l : List Fl} {m : Nat} {gb : ByteArray → Nat} {vv : ByteArray → Value} {g : Nat} {d : Dk} {p : Value}
theorem OwnB.rowBlk {base : Nat} {v : Value} {x : List UInt8} (h : OwnB w base v x) {j : Nat} (hj : v.ownBlock = some j) : ∃ cur, Box w j cur 5 := by
  rcases h.2 with ⟨h3, _⟩ | ⟨g', cap, cur, e1, hg', hc, h3⟩
  · rw [h3] at hj; cases hj
  · rw [e1] at hj; simp only [Value.ownBlock, Option.some.injEq] at hj; subst hj; exact ⟨cur, hc⟩
theorem box_two {n : Nat} {cs cs' : Array Value} {t t' : TypeId} (h : Box w n cs t) (h' : Box w n cs' t') : t = t' := by
  have h1 : w.heap[n]? = some (.cells cs t (0, 0)) := h
  have h2 : w.heap[n]? = some (.cells cs' t' (0, 0)) := h'
  rw [h1] at h2
  injection h2 with h2
  injection h2
theorem FileR.apart {gf : Nat} {v : Value} {f : Fl} (h : FileR w S gf v f) : v.ownBlock ≠ some gf := fun e => by
  obtain ⟨cur, hb⟩ := h.own.rowBlk e
  have := box_two h.box hb
  cases this
theorem FileR.grewKept {gf : Nat} {v v' : Value} {f : Fl} (h : FileR w S gf v f) (hg : Grew w w7 v v') : Kept S w w7 := by
  cases hv : v.ownBlock with
  | none => exact Kept.of_below ((Below.refl _ _).grown hg.grown (Nat.le_refl _) (fun k hk => by rw [hv] at hk; cases hk))
  | some j =>
    obtain ⟨cur, hb⟩ := h.own.rowBlk hv
    refine Kept.of_grown (by have := hg.grown; rw [hv] at this; exact this) (h.sv j hv) hb (projO_fil (filO_u8 cur))
/-- Bytes were appended, and the row is stored back. -/
theorem FilesR.appended (h : FilesR w S l m gb vv) {k : Nat} (hk : k < l.length) (hS : ∀ i, w.heap.size ≤ i → S i) {v' : Value} {b : ByteArray} (ho : OwnB w7 0 v' (l[k].b.data.toList ++ b.data.toList)) (hg : Grew w w7 (vv l[k].name) v') :
    FilesR (w7.setCell ⟨gb l[k].name, 0, none⟩ v') S (l.set k ⟨l[k].name, l[k].b ++ b, l[k].safe⟩) m gb (upd vv l[k].name v') ∧ Kept S w (w7.setCell ⟨gb l[k].name, 0, none⟩ v') ∧ Box w7 (gb l[k].name) #[vv l[k].name, .int .i64 l[k].safe] 70 := by
  have hf := h.file _ (List.getElem_mem hk)
  have hlt := hf.lt
  have hap := hf.apart
  have hbox : Box w7 (gb l[k].name) #[vv l[k].name, .int .i64 l[k].safe] 70 := hf.box.keep hg.grown (fun e => hap e.symm)
  have hne : v'.ownBlock ≠ some (gb l[k].name) := by
    rcases hg.own with e | ⟨j, e, hj⟩
    · rw [e]; exact hap
    · rw [e]; intro e2; injection e2 with e2; omega
  refine ⟨h.turn (f' := ⟨l[k].name, l[k].b ++ b, l[k].safe⟩) hk rfl ⟨hf.sg, hbox.set 0 v', ?_, fun j hj => ?_⟩ (fun j hj => ?_) (fun i o hi hv hio => ?_), (hf.grewKept hg).trans (Kept.of_grown (grown_set _ _ _ _) hf.sg hbox (projO_file _)), hbox⟩
  · rw [ByteArray.data_append, Array.toList_append]
    exact ho.to fun j o hj _ hjo => (Below.heap_setCell w7 ⟨gb l[k].name, 0, none⟩ v' j (fun e => hne (by rw [hj, e]))).trans hjo
  · rcases hg.own with e | ⟨j2, e, hj2⟩
    · rw [e] at hj; exact hf.sv j hj
    · rw [e] at hj; injection hj with hj; subst hj; exact hS _ hj2
  · rcases hg.own with e | ⟨j2, e, hj2⟩
    · rw [e] at hj; exact .inl hj
    · rw [e] at hj; injection hj with hj; subst hj; exact .inr hj2
  · have h1 := (hg.grown.block i (Array.getElem?_eq_some_iff.1 hio).1 (fun e => hv e.symm)).trans hio
    exact (Below.heap_setCell w7 ⟨gb l[k].name, 0, none⟩ v' i hi).trans h1

set_option maxHeartbeats 4000000 in
theorem p_append1 (w : World) (bf bb B : Nat) (u : Value) (b : ByteArray) {k : Nat} (hk : k < d.f.length) (hbf : Box w bf #[.pointer (some ⟨gb d.f[k].name, 0, none⟩)] 67) (hbb : Box w bb #[u] 38) (hrd : RdB w B u b.data.toList) (h : RdMp w S g d m gb vv) (hS : ∀ i, w.heap.size ≤ i → S i)
    (hsz : d.f[k].b.size + b.size ≤ 1000000000000) :
    Calls Try.prog 43 #[.pointer (some ⟨bf, 0, none⟩), .pointer (some ⟨bb, 0, none⟩)] w fun e w' => e = .returned (.tuple #[]) ∧ RdM w' S g (.pointer (some ⟨g, 0, none⟩)) { d with f := d.f.set k ⟨d.f[k].name, d.f[k].b ++ b, d.f[k].safe⟩ } ∧ Kept S w w' := by
  obtain ⟨hs, ⟨A, hb, hA⟩, hf⟩ := h
  have hfd : FilesR w.drew S d.f m gb vv := hf.on (Below.refl _ w).drew
  have hff := hfd.file _ (List.getElem_mem hk)
  obtain ⟨v', w7, hrun, hown, hg⟩ := app_bytes_run (W := w.drew) (base := 0) (B := B) 38 hff.own (show RdB w.drew B u b.data.toList from hrd) (Nat.zero_le _) (by simp; omega)
  obtain ⟨h1, h2, h3⟩ := hfd.appended hk hS hown hg
  obtain ⟨X, c, e, -⟩ := own_cap hown
  have hne2 : ∀ {n : Nat} {cs : Array Value} {t : TypeId}, Box w n cs t → t ≠ 5 → Box w7 n cs t := fun {n cs t} hn ht => (show Box w.drew n cs t from hn).keep hg.grown (fun e => by
    obtain ⟨cur, hb2⟩ := hff.own.rowBlk e.symm
    exact ht (box_two (show Box w.drew n cs t from hn) hb2))
  have hbd : Box w7 g #[.map (some m), .int .i64 d.max, .int .i64 A, .bool d.down] 54 := hne2 hb (by decide)
  have hgne : g ≠ gb d.f[k].name := fun e => by
    have := box_two hb (show Box w g _ _ from by rw [e]; exact (hf.file _ (List.getElem_mem hk)).box)
    cases this
  have R := Lib.hid (show RdM (w7.setCell ⟨gb d.f[k].name, 0, none⟩ v') S g (.pointer (some ⟨g, 0, none⟩)) { d with f := d.f.set k ⟨d.f[k].name, d.f[k].b ++ b, d.f[k].safe⟩ } from
    ⟨rfl, m, gb, _, hs, ⟨A, hbd.other _ _ hgne, hA⟩, h1⟩)
  have KK := Lib.hid (show Kept S w (w7.setCell ⟨gb d.f[k].name, 0, none⟩ v') from (Kept.refl S w).drew.trans h2)
  have HI0 := Lib.hid (show (fun W => W.cell? ⟨bf, 0, none⟩ = some (.pointer (some ⟨gb d.f[k].name, 0, none⟩)) ∧ W.cell? ⟨bb, 0, none⟩ = some u ∧ W.cell? ⟨gb d.f[k].name, 0, none⟩ = some (vv d.f[k].name)) w.drew from ⟨hbf.cell 0 _ rfl, hbb.cell 0 _ rfl, hff.box.cell 0 _ rfl⟩)
  have HI2 := Lib.hid (show (fun W => W.cell? ⟨bf, 0, none⟩ = some (.pointer (some ⟨gb d.f[k].name, 0, none⟩)) ∧ W.cell? ⟨bb, 0, none⟩ = some u ∧ W.cell? ⟨gb d.f[k].name, 0, none⟩ = some (vv d.f[k].name)) w7 from ⟨(hne2 hbf (by decide)).cell 0 _ rfl, (hne2 hbb (by decide)).cell 0 _ rfl, h3.cell 0 _ rfl⟩)
  have F7 := Lib.hid (h3.frozen 0)
  have HRUN := Lib.hid hrun
  clear hown hg hrun h1 h2 h3 hne2 hbd hgne hff hfd hbf hbb hrd hb hf hA hs hS
  generalize gb d.f[k].name = gf at *
  generalize vv d.f[k].name = v at *
  generalize (d.f[k].b.data.toList ++ b.data.toList).length = nl at *
  subst e
  go_enter Try.func43, Try.ntmps43
  go_wp2_with fail
  have HI : (fun W => W.cell? ⟨bf, 0, none⟩ = some (.pointer (some ⟨gf, 0, none⟩)) ∧ W.cell? ⟨bb, 0, none⟩ = some u ∧ W.cell? ⟨gf, 0, none⟩ = some v) w.drew := HI0.out
  refine regk_start [9] (fun W => W.cell? ⟨bf, 0, none⟩ = some (.pointer (some ⟨gf, 0, none⟩)) ∧ W.cell? ⟨bb, 0, none⟩ = some u ∧ W.cell? ⟨gf, 0, none⟩ = some v) (by kernel_rfl) ?_
  refine regk_take 0 2 (v := ?_) (T' := ?_) HI (by kernel_rfl) (by kernel_rfl) (by kernel_rfl) (by kernel_rfl) (by kernel_rfl) (by kernel_rfl) (fun _ _ _ h => h) (fun o ho => ?_) ?_ ?_
  rotate_left 2
  · cases ho
    refine ⟨rfl, rfl, fun W hW => ?_⟩
    obtain ⟨i1, i2, i3⟩ := hW
    go_simp; (try with_reducible rfl)
  · simp only [List.setIfInBounds_toArray, List.set_cons_succ, List.set_cons_zero]; exact rfl
  refine regk_take 1 3 (v := ?_) (T' := ?_) HI (by kernel_rfl) (by kernel_rfl) (by kernel_rfl) (by kernel_rfl) (by kernel_rfl) (by kernel_rfl) (fun _ _ _ h => h) (fun o ho => ?_) ?_ ?_
  rotate_left 2
  · cases ho
    refine ⟨rfl, rfl, fun W hW => ?_⟩
    obtain ⟨i1, i2, i3⟩ := hW
    go_simp; (try with_reducible rfl)
  · simp only [List.setIfInBounds_toArray, List.set_cons_succ, List.set_cons_zero]; exact rfl
  refine regk_take 2 4 (v := ?_) (T' := ?_) HI (by kernel_rfl) (by kernel_rfl) (by kernel_rfl) (by kernel_rfl) (by kernel_rfl) (by kernel_rfl) (fun _ _ _ h => h) (fun o ho => ?_) ?_ ?_
  rotate_left 2
  · cases ho
    refine ⟨rfl, rfl, fun W hW => ?_⟩
    obtain ⟨i1, i2, i3⟩ := hW
    go_simp; (try with_reducible rfl)
  · simp only [List.setIfInBounds_toArray, List.set_cons_succ, List.set_cons_zero]; exact rfl
  refine regk_free 3 5 (v := ?_) (T' := ?_) (fun _ => HI) (by kernel_rfl) (by kernel_rfl) (by kernel_rfl) (by kernel_rfl) (fun _ _ _ h => h) (fun o ho => ?_) ?_ ?_
  rotate_left 2
  · cases ho
    refine ⟨rfl, rfl, fun W => ?_⟩
    go_simp; (try with_reducible rfl)
  · simp only [List.setIfInBounds_toArray, List.set_cons_succ, List.set_cons_zero]; exact rfl
  refine regk_take 4 6 (v := ?_) (T' := ?_) HI (by kernel_rfl) (by kernel_rfl) (by kernel_rfl) (by kernel_rfl) (by kernel_rfl) (by kernel_rfl) (fun _ _ _ h => h) (fun o ho => ?_) ?_ ?_
  rotate_left 2
  · cases ho
    refine ⟨rfl, rfl, fun W hW => ?_⟩
    obtain ⟨i1, i2, i3⟩ := hW
    go_simp; (try with_reducible rfl)
  · simp only [List.setIfInBounds_toArray, List.set_cons_succ, List.set_cons_zero]; exact rfl
  refine regk_take 5 7 (v := ?_) (T' := ?_) HI (by kernel_rfl) (by kernel_rfl) (by kernel_rfl) (by kernel_rfl) (by kernel_rfl) (by kernel_rfl) (fun _ _ _ h => h) (fun o ho => ?_) ?_ ?_
  rotate_left 2
  · cases ho
    refine ⟨rfl, rfl, fun W hW => ?_⟩
    obtain ⟨i1, i2, i3⟩ := hW
    go_simp; (try with_reducible rfl)
  · simp only [List.setIfInBounds_toArray, List.set_cons_succ, List.set_cons_zero]; exact rfl
  refine regk_make (I' := (fun W => W.cell? ⟨bf, 0, none⟩ = some (.pointer (some ⟨gf, 0, none⟩)) ∧ W.cell? ⟨bb, 0, none⟩ = some u ∧ W.cell? ⟨gf, 0, none⟩ = some v)) (fun _ h => h) 6 8 (v := .slice X nl c) (w' := w7) (T' := ?_) (by kernel_rfl) (fun o ho => ?_) (fun _ => HI2.out) ?_ ?_
  rotate_left
  · cases ho
    exact ⟨rfl, rfl, exec_appK (.tmp 6) (.tmp 7) rfl rfl rfl HRUN.out⟩
  · simp only [List.setIfInBounds_toArray, List.set_cons_succ, List.set_cons_zero]; exact rfl
  have HI : (fun W => W.cell? ⟨bf, 0, none⟩ = some (.pointer (some ⟨gf, 0, none⟩)) ∧ W.cell? ⟨bb, 0, none⟩ = some u ∧ W.cell? ⟨gf, 0, none⟩ = some v) w7 := HI2.out
  refine regk_take 7 9 (v := ?_) (T' := ?_) HI (by kernel_rfl) (by kernel_rfl) (by kernel_rfl) (by kernel_rfl) (by kernel_rfl) (by kernel_rfl) (fun _ _ _ h => h) (fun o ho => ?_) ?_ ?_
  rotate_left 2
  · cases ho
    refine ⟨rfl, rfl, fun W hW => ?_⟩
    obtain ⟨i1, i2, i3⟩ := hW
    go_simp; (try with_reducible rfl)
  · simp only [List.setIfInBounds_toArray, List.set_cons_succ, List.set_cons_zero]; exact rfl
  refine regk_free 8 10 (v := ?_) (T' := ?_) (fun _ => HI) (by kernel_rfl) (by kernel_rfl) (by kernel_rfl) (by kernel_rfl) (fun _ _ _ h => h) (fun o ho => ?_) ?_ ?_
  rotate_left 2
  · cases ho
    refine ⟨rfl, rfl, fun W => ?_⟩
    go_simp; (try with_reducible rfl)
  · simp only [List.setIfInBounds_toArray, List.set_cons_succ, List.set_cons_zero]; exact rfl
  refine regk_store (I' := (fun W => W.cell? ⟨bf, 0, none⟩ = some (.pointer (some ⟨gf, 0, none⟩)) ∧ W.cell? ⟨bb, 0, none⟩ = some u ∧ W.cell? ⟨gf, 0, none⟩ = some v)) (fun _ h => h) 9 (w' := (w7.setCell ⟨gf, 0, none⟩ (.slice X nl c))) (by kernel_rfl) (fun o ho => ?_) (noB_no (by kernel_rfl)) ?_
  · cases ho
    refine ⟨rfl, rfl, ?_⟩
    have c3 := HI2.out.2.2
    have f3 := F7.out
    go_simp; (try with_reducible rfl)
  refine regk_done (by kernel_rfl) ?_
  go_wp2_with fail
  go_end0
  exact ⟨rfl, R.out, KK.out⟩
end
end Go.Proofs.Ytbdaflhmloodfaa
