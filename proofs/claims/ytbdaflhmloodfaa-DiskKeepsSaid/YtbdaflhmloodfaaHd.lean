/- Layer 7, the project's disk: Create. -/
import Derived.Test.YtbdaflhmloodfaaHc
import Derived.Test.YtbdaflhmloodfaaBregk
import Derived.StillTailTactics
namespace Go.Proofs.Ytbdaflhmloodfaa
open Go.RowKit
set_option linter.unusedVariables false

theorem exec_put {P : Program} {o : Oper} {a : Act} {w w' : World} {t : TypeId} {M X V : Value} (m x v : Operand) (hop : o.op = Op.mapUpdate t m x v) (hm : a.eval m = M) (hx : a.eval x = X) (hv : a.eval v = V)
    (hrun : (Instr.mapUpdate t M X V).run P w = .ok () w') : (execOp a.eval o).run P w = .ok .skip w' := by
  simp [execOp, hop, hm, hx, hv, hrun, Result.andThen]
section
variable {S : Nat → Prop} {w w' : World} {l : List Fl} {m : Nat} {gb : ByteArray → Nat} {vv : ByteArray → Value} {g : Nat} {d : Dk} {p : Value}
/-- len(d.files), delete(d.files, name), d.files[name] = f, at the operation. -/
theorem wpl_len7 {ops : Array Oper} {rest : List Oper} {o : Oper} {a : Act} {Q : Exit → Act → World → Prop} (hg : o.guard = none) (x : Operand) (hop : o.op = Op.call { callee := Callee.builtin Builtin.len, args := #[x], argTypes := #[52] })
    (hx : a.eval x = .map (some m)) (h : FilesR w S l m gb vv) (hK : wpList Try.prog ops Q rest (a.put o.dst (.int .i64 l.length)) w) : wpList Try.prog ops Q (o :: rest) a w := by
  refine wpList_plain hg fun K' hK' => ?_
  unfold Oper.wp
  simp [execOp, hop, resolve, invoke, builtin, hx, h.len o.type, Result.andThen]
  exact hK' _ _ hK
theorem wpl_del7 {ops : Array Oper} {rest : List Oper} {o : Oper} {a : Act} {Q : Exit → Act → World → Prop} (hg : o.guard = none) (x y : Operand) (hop : o.op = Op.call { callee := Callee.builtin Builtin.delete, args := #[x, y], argTypes := #[52, 9] })
    {k : Nat} (hk : k < l.length) (hx : a.eval x = .map (some m)) (hy : a.eval y = .string l[k].name) (h : FilesR w S l m gb vv)
    (hK : ∀ w', FilesR w' S (cutF7 l k) m gb vv → w.grownBy w' (some m) → wpList Try.prog ops Q rest (a.put o.dst (.tuple #[])) w') : wpList Try.prog ops Q (o :: rest) a w := by
  refine wpList_plain hg fun K' hK' => ?_
  obtain ⟨w', hrun, r1, r2⟩ := h.drop hk o.type
  unfold Oper.wp
  simp [execOp, hop, resolve, invoke, builtin, hx, hy, hrun, Result.andThen]
  exact hK' _ _ (hK w' r1 r2)
theorem wpl_put7 {ops : Array Oper} {rest : List Oper} {o : Oper} {a : Act} {Q : Exit → Act → World → Prop} (hg : o.guard = none) (x y z : Operand) (hop : o.op = Op.mapUpdate 52 x y z)
    {q : Fl} {gq : Nat} {vq : Value} (hx : a.eval x = .map (some m)) (hy : a.eval y = .string q.name) (hz : a.eval z = .pointer (some ⟨gq, 0, none⟩)) (h : FilesR w S l m gb vv) (hl : l.length ≤ 1000000) (hq : FileR w S gq vq q) (hn : q.name.size ≤ 20)
    (hap : ∀ f ∈ l, f.name ≠ q.name → gb f.name ≠ gq ∧ ∀ j, (vv f.name).ownBlock = some j → vq.ownBlock ≠ some j)
    (hK : ∀ w', FilesR w' S (putF l q) m (upd gb q.name gq) (upd vv q.name vq) → w.grownBy w' (some m) → wpList Try.prog ops Q rest (a.put o.dst undef) w') : wpList Try.prog ops Q (o :: rest) a w := by
  refine wpList_plain hg fun K' hK' => ?_
  obtain ⟨w', hrun, r1, r2⟩ := h.put hl hq hn hap
  unfold Oper.wp
  simp [execOp, hop, hx, hy, hz, hrun, Result.andThen]
  exact hK' _ _ (hK w' r1 r2)
theorem FilesR.block (h : FilesR w S l m gb vv) : ∃ es c, w.heap[m]? = some (.map es c) := by obtain ⟨D, h1, _⟩ := h.map; exact OwnM.block h1
theorem FilesR.mapKept (h : FilesR w S l m gb vv) (hg : w.grownBy w' (some m)) : Kept S w w' := by
  obtain ⟨es, c, hb⟩ := h.block
  exact Kept.of_grown hg h.sm hb rfl
/-- The disk's own cells while the map turns. -/
theorem FilesR.mapBox (h : FilesR w S l m gb vv) (hg : w.grownBy w' (some m)) {n : Nat} {cs : Array Value} {t : TypeId} (hb : Box w n cs t) : Box w' n cs t := by
  obtain ⟨es, c, hm⟩ := h.block
  refine hb.keep hg fun e => ?_
  injection e with e
  subst e
  rw [show w.heap[n]? = _ from hb] at hm
  cases hm
theorem mayD_down {d : Dk} (h : d.down = true) (e : Int) : mayD d e = (d, 7) := by unfold mayD; rw [if_pos h]
theorem mayD_err {d : Dk} (h : d.down = false) {e : Int} (he : e ≠ 0) : mayD d e = (d, e) := by unfold mayD; rw [if_neg (by simp [h]), if_pos he]
theorem mayD_goes {d : Dk} (h : d.down = false) (h0 : d.left = 0) : mayD d 0 = ({ d with down := true, left := -1 }, 7) := by unfold mayD; rw [if_neg (by simp [h]), if_neg (by simp), if_pos h0]
theorem mayD_ok {d : Dk} (h : d.down = false) (h0 : d.left ≠ 0) : (mayD d 0).2 = 0 := by unfold mayD; rw [if_neg (by simp [h]), if_neg (by simp), if_neg h0]; split <;> rfl

set_option maxHeartbeats 4000000 in
theorem p_create1 (w : World) (bd bn : Nat) (n : ByteArray) (hbd : Box w bd #[.pointer (some ⟨g, 0, none⟩)] 23) (hbn : Box w bn #[.string n] 9) (h : RdMp w S g d m gb vv) (hS : ∀ i, w.heap.size ≤ i → S i) (hl : d.f.length ≤ 1000000) (hn : n.size ≤ 20) (hno : ∀ f ∈ d.f, f.name ≠ n) :
    Calls Try.prog 40 #[.pointer (some ⟨bd, 0, none⟩), .pointer (some ⟨bn, 0, none⟩)] w fun e w' => e = .returned (.tuple #[]) ∧ RdM w' S g (.pointer (some ⟨g, 0, none⟩)) { d with f := putF d.f ⟨n, ⟨#[]⟩, 0⟩ } ∧ Kept S w w' := by
  obtain ⟨hs, ⟨A, hb, hA⟩, hf⟩ := h
  have HI0 := Lib.hid (show (fun W => W.cell? ⟨bd, 0, none⟩ = some (.pointer (some ⟨g, 0, none⟩)) ∧ W.cell? ⟨bn, 0, none⟩ = some (.string n) ∧ W.cell? ⟨g, 0, none⟩ = some (.map (some m))) w.drew from ⟨hbd.cell 0 _ rfl, hbn.cell 0 _ rfl, hb.cell 0 _ rfl⟩)
  have HI2 := Lib.hid (show (fun W => W.cell? ⟨bd, 0, none⟩ = some (.pointer (some ⟨g, 0, none⟩)) ∧ W.cell? ⟨bn, 0, none⟩ = some (.string n) ∧ W.cell? ⟨g, 0, none⟩ = some (.map (some m))) (w.drew.alloc (.cells #[.slice none 0 0, .int .i64 0] 70)) from ⟨((show Box w.drew _ _ _ from hbd).alloc _).cell 0 _ rfl, ((show Box w.drew _ _ _ from hbn).alloc _).cell 0 _ rfl, ((show Box w.drew _ _ _ from hb).alloc _).cell 0 _ rfl⟩)
  have hf2 : FilesR (w.drew.alloc (.cells #[.slice none 0 0, .int .i64 0] 70)) S d.f m gb vv := (hf.on (Below.refl _ w).drew).on (alloc_below _ _)
  have HF2 := Lib.hid hf2
  have HP := Lib.hid (hf2.put hl (q := ⟨n, ⟨#[]⟩, 0⟩) (gq := w.heap.size) (vq := .slice none 0 0) ⟨hS _ (Nat.le_refl _), Box.new w.drew _ _ _ rfl, OwnB.nil _ _, fun j hj => by cases hj⟩ hn (fun f hf' _ => ⟨fun e => by have := (hf.file f hf').lt; omega, fun j _ e => by cases e⟩))
  have HB := Lib.hid hb
  have HS := Lib.hid hs
  clear hf2 hf hb hs hbd hbn hno hS
  go_enter Try.func40, Try.ntmps40
  go_wp2_with fail
  have HI : (fun W => W.cell? ⟨bd, 0, none⟩ = some (.pointer (some ⟨g, 0, none⟩)) ∧ W.cell? ⟨bn, 0, none⟩ = some (.string n) ∧ W.cell? ⟨g, 0, none⟩ = some (.map (some m))) w.drew := HI0.out
  refine regk_start [7] (fun W => W.cell? ⟨bd, 0, none⟩ = some (.pointer (some ⟨g, 0, none⟩)) ∧ W.cell? ⟨bn, 0, none⟩ = some (.string n) ∧ W.cell? ⟨g, 0, none⟩ = some (.map (some m))) (by kernel_rfl) ?_
  refine regk_take 0 2 (v := ?_) (T' := ?_) HI (by kernel_rfl) (by kernel_rfl) (by kernel_rfl) (by kernel_rfl) (by kernel_rfl) (by kernel_rfl) (fun _ _ _ h => h) (fun o ho => ?_) ?_ ?_
  rotate_left 2
  · cases ho
    refine ⟨rfl, rfl, fun W hW => ?_⟩
    obtain ⟨i1, i2, i3⟩ := hW
    go_simp; (try with_reducible rfl)
  · simp only [List.setIfInBounds_toArray, List.set_cons_succ, List.set_cons_zero]; exact rfl
  refine regk_take 1 3 (v := ?_) (T' := ?_) HI (by kernel_rfl) (by kernel_rfl) (by kernel_rfl) (by kernel_rfl) (by kernel_rfl) (by kernel_rfl) (fun _ _ _ h => h) (fun o ho => ?_) ?_ ?_
  rotate_left 2
  · cases ho
    refine ⟨rfl, rfl, fun W hW => ?_⟩
    obtain ⟨i1, i2, i3⟩ := hW
    go_simp; (try with_reducible rfl)
  · simp only [List.setIfInBounds_toArray, List.set_cons_succ, List.set_cons_zero]; exact rfl
  refine regk_free 2 4 (v := ?_) (T' := ?_) (fun _ => HI) (by kernel_rfl) (by kernel_rfl) (by kernel_rfl) (by kernel_rfl) (fun _ _ _ h => h) (fun o ho => ?_) ?_ ?_
  rotate_left 2
  · cases ho
    refine ⟨rfl, rfl, fun W => ?_⟩
    go_simp; (try with_reducible rfl)
  · simp only [List.setIfInBounds_toArray, List.set_cons_succ, List.set_cons_zero]; exact rfl
  refine regk_take 3 5 (v := ?_) (T' := ?_) HI (by kernel_rfl) (by kernel_rfl) (by kernel_rfl) (by kernel_rfl) (by kernel_rfl) (by kernel_rfl) (fun _ _ _ h => h) (fun o ho => ?_) ?_ ?_
  rotate_left 2
  · cases ho
    refine ⟨rfl, rfl, fun W hW => ?_⟩
    obtain ⟨i1, i2, i3⟩ := hW
    go_simp; (try with_reducible rfl)
  · simp only [List.setIfInBounds_toArray, List.set_cons_succ, List.set_cons_zero]; exact rfl
  refine regk_take 4 6 (v := ?_) (T' := ?_) HI (by kernel_rfl) (by kernel_rfl) (by kernel_rfl) (by kernel_rfl) (by kernel_rfl) (by kernel_rfl) (fun _ _ _ h => h) (fun o ho => ?_) ?_ ?_
  rotate_left 2
  · cases ho
    refine ⟨rfl, rfl, fun W hW => ?_⟩
    obtain ⟨i1, i2, i3⟩ := hW
    go_simp; (try with_reducible rfl)
  · simp only [List.setIfInBounds_toArray, List.set_cons_succ, List.set_cons_zero]; exact rfl
  refine regk_free 5 7 (v := ?_) (T' := ?_) (fun _ => HI) (by kernel_rfl) (by kernel_rfl) (by kernel_rfl) (by kernel_rfl) (fun _ _ _ h => h) (fun o ho => ?_) ?_ ?_
  rotate_left 2
  · cases ho
    refine ⟨rfl, rfl, fun W => ?_⟩
    go_simp; (try with_reducible rfl)
  · simp only [List.setIfInBounds_toArray, List.set_cons_succ, List.set_cons_zero]; exact rfl
  refine regk_make (I' := (fun W => W.cell? ⟨bd, 0, none⟩ = some (.pointer (some ⟨g, 0, none⟩)) ∧ W.cell? ⟨bn, 0, none⟩ = some (.string n) ∧ W.cell? ⟨g, 0, none⟩ = some (.map (some m)))) (fun _ h => h) 6 8 (v := .pointer (some ⟨w.heap.size, 0, none⟩)) (w' := (w.drew.alloc (.cells #[.slice none 0 0, .int .i64 0] 70))) (T' := ?_) (by kernel_rfl) (fun o ho => ?_) (fun _ => HI2.out) ?_ ?_
  rotate_left
  · cases ho
    refine ⟨rfl, rfl, ?_⟩
    go_simp
  · simp only [List.setIfInBounds_toArray, List.set_cons_succ, List.set_cons_zero]; exact rfl
  have HI : (fun W => W.cell? ⟨bd, 0, none⟩ = some (.pointer (some ⟨g, 0, none⟩)) ∧ W.cell? ⟨bn, 0, none⟩ = some (.string n) ∧ W.cell? ⟨g, 0, none⟩ = some (.map (some m))) (w.drew.alloc (.cells #[.slice none 0 0, .int .i64 0] 70)) := HI2.out
  obtain ⟨w7, hrun, hf7, hg7⟩ := HP.out
  refine regk_store (I' := (fun W => W.cell? ⟨bd, 0, none⟩ = some (.pointer (some ⟨g, 0, none⟩)) ∧ W.cell? ⟨bn, 0, none⟩ = some (.string n) ∧ W.cell? ⟨g, 0, none⟩ = some (.map (some m)))) (fun _ h => h) 7 (w' := w7) (by kernel_rfl) (fun o ho => ?_) (noB_no (by kernel_rfl)) ?_
  · cases ho
    exact ⟨rfl, rfl, exec_put (.tmp 5) (.tmp 6) (.tmp 8) rfl rfl rfl rfl hrun⟩
  refine regk_done (by kernel_rfl) ?_
  go_wp2_with fail
  go_end0
  exact ⟨rfl, ⟨rfl, m, _, _, HS.out, ⟨A, HF2.out.mapBox hg7 (Box.alloc (show Box w.drew _ _ _ from HB.out) _), hA⟩, hf7⟩, ((Kept.refl S w).drew.alloc _).trans (HF2.out.mapKept hg7)⟩
end
end Go.Proofs.Ytbdaflhmloodfaa
