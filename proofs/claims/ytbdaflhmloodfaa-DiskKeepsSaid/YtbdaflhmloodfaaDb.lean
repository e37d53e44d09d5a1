/- Layer 7, the document's disk: a file is put where it belongs; a file is no more. -/
import Derived.Test.YtbdaflhmloodfaaDa
import Derived.Test.YtbdaflhmloodfaaBslx
import Derived.Test.YtbdaflhmloodfaaBcopy
namespace Go.Proofs.Ytbdaflhmloodfaa
open Go.RowKit
set_option linter.unusedVariables false

/-- Is x's name that of f, or behind it? -/
def geF (x f : Fl) : Bool := !(Op.bytesLess x.name.toList f.name.toList)
def putGo (f : Fl) : Bool → List Fl → List Fl
  | done, [] => if done = true then [] else [f]
  | done, x :: l => (if done = false ∧ geF x f = true then [f] else []) ++ (if x.name = f.name then [] else [x]) ++ putGo f (done || geF x f) l
def putF (l : List Fl) (f : Fl) : List Fl := putGo f false l
theorem less_irrD (a : List UInt8) : Op.bytesLess a a = false := by
  induction a with
  | nil => rfl
  | cons x l ih => simp [Op.bytesLess, ih]
theorem geF_same {x f : Fl} (h : x.name = f.name) : geF x f = true := by unfold geF; rw [h, less_irrD]; rfl
theorem bytes_eqD (a b : ByteArray) : (a.toList = b.toList) ↔ a = b := by
  constructor
  · intro e
    rw [ByteArray.toList_eq, ByteArray.toList_eq] at e
    obtain ⟨⟨x⟩⟩ := a
    obtain ⟨⟨y⟩⟩ := b
    simp at e
    subst e
    rfl
  · intro e; rw [e]
theorem Keeps.alloc {B : Nat} {P : Obj → Bool} {w w' : World} (h : Keeps B P w w') (hB : B ≤ w'.heap.size) (o : Obj) : Keeps B P w (w'.alloc o) := h.trans (Keeps.of_below (alloc_below w' o) hB)

set_option maxHeartbeats 8000000 in
theorem ref_put7 (w : World) (B g : Nat) (p : Value) (d : Dk) (f : Fl) (h : RdD w B g p d) (hl : d.f.length ≤ 100000) :
    Calls Try.prog 52 #[p, .agg #[.string f.name, .string f.b, .int .i64 f.safe]] w fun x w' => x = .returned (.tuple #[]) ∧ RdD w' B g p { d with f := putF d.f f } ∧ Keeps B docO w w' := by
  obtain ⟨rfl, hf, fv, hb, ho⟩ := h
  have hgl := hb.lt
  have HP := Lib.hid (show putF d.f f = putGo f false d.f from rfl)
  generalize putF d.f f = res at *
  obtain ⟨l, mx, lf, dn⟩ := d
  simp only at *
  obtain ⟨A, c, rfl, -⟩ := ho.rd
  have HB := Lib.hid (hb.alloc (.cells #[.string f.name, .string f.b, .int .i64 f.safe] 66))
  have HO := Lib.hid (ho.on (alloc_below w (.cells #[.string f.name, .string f.b, .int .i64 f.safe] 66)))
  have HX := Lib.hid (Box.new w #[.string f.name, .string f.b, .int .i64 f.safe] 66 _ rfl)
  have K := Lib.hid (show Keeps B docO w (w.alloc (.cells #[.string f.name, .string f.b, .int .i64 f.safe] 66)) from Keeps.of_below (alloc_below w _) (by omega))
  clear ho hb
  go_enter Try.func52, Try.ntmps52
  go_wp2_with fail
  generalize w.alloc (.cells #[.string f.name, .string f.b, .int .i64 f.safe] 66) = W0 at *
  have c0 := HB.out.cell 0 _ rfl
  go_wp2_with fail
  go_loopw [4, 5, 6] (fun x q i wr => ∃ (k : Nat) (dd : Bool) (acc : List Fl), i = .int .i64 k ∧ k ≤ l.length ∧ q = .bool dd ∧ acc.length ≤ 2 * k ∧ OwnFl wr W0.heap.size x acc ∧ res = acc ++ putGo f dd (l.drop k) ∧ Below W0.heap.size W0 wr) (fun _ _ i _ => l.length - (intOf i).toNat)
  case atStart => exact ⟨0, false, [], rfl, Nat.zero_le _, rfl, Nat.zero_le _, OwnX.nil _ _, by rw [HP.out]; rfl, Below.refl _ _⟩
  case round =>
    obtain ⟨k, dd, acc, rfl, hk, rfl, hal, hr, hres, hbw⟩ := hrel
    have R := Lib.hid hr
    have RES := Lib.hid hres
    have G := Lib.hid hbw
    have DB := Lib.hid (HB.out.later hbw)
    have DX := Lib.hid (HX.out.later hbw)
    have DO := Lib.hid (HO.out.on hbw)
    clear hr hres hbw c0
    have c0 := DB.out.cell 0 _ rfl
    have x0 := DX.out.cell 0 (.string f.name) rfl
    have x1 := DX.out.cell 1 (.string f.b) rfl
    have x2 := DX.out.cell 2 (.int .i64 f.safe) rfl
    by_cases hlt : k < l.length
    · have zl : decide ((k : Int) < (l.length : Int)) = true := by simp; omega
      obtain ⟨b, o, e, hbb, hcl⟩ := DO.out.rd.at k hlt
      cases e
      have n0 : wr.cell? ⟨b, o + k * 3, none⟩ = some (.string l[k].name) := hcl 0 (.string l[k].name) rfl
      have n1 : wr.cell? ⟨b, o + k * 3 + 1, none⟩ = some (.string l[k].b) := hcl 1 (.string l[k].b) rfl
      have n2 : wr.cell? ⟨b, o + k * 3 + 2, none⟩ = some (.int .i64 l[k].safe) := hcl 2 (.int .i64 l[k].safe) rfl
      clear hcl
      have HSTEP := Lib.hid (show res = acc ++ ((if dd = false ∧ geF l[k] f = true then [f] else []) ++ (if l[k].name = f.name then [] else [l[k]]) ++ putGo f (dd || geF l[k] f) (l.drop (k + 1))) from by rw [RES.out, List.drop_eq_getElem_cons hlt]; rfl)
      have hal1 := Lib.hid (show acc.length + 1 ≤ 1000000000 from by omega)
      have HGE := Lib.hid (show geF l[k] f = !(Op.bytesLess l[k].name.toList f.name.toList) from rfl)
      cases dd
      · cases hg : geF l[k] f
        · have hsm : ¬ l[k].name = f.name := fun e => by rw [geF_same e] at hg; cases hg
          have zge : Op.bytesLess l[k].name.toList f.name.toList = true := by have := HGE.out; rw [hg] at this; simpa using this.symm
          have zn : (l[k].name.toList == f.name.toList) = false := by rw [beq_eq_false_iff_ne]; exact fun e => hsm ((bytes_eqD _ _).1 e)
          have hal2 := Lib.hid (show acc.length + 1 ≤ 1000000000 from by omega)
          have HS := Lib.hid (show res = acc ++ ([] ++ ([l[k]] ++ putGo f false (l.drop (k + 1)))) from by rw [HSTEP.out, hg, if_neg hsm]; simp)
          clear hsm
          go_wp2_with fail
          go_quiet (fail)
          go_wp2_with fail
          go_quiet (fail)
          go_wp2_with (at_builtin; refine wpl_appX rfl (.tmp 46) (.tmp 54) rfl Try.underlying55 fl_info rfl W0.heap.size _ acc [(⟨l[k].name, l[k].b, l[k].safe⟩ : Fl)] _ _ _ rfl rfl rfl rfl (R.out.on ((Below.refl _ _).drewN _)) (G.out.drewN _).size hal2.out (by decide) ?_; intro v4 w4 ho hg hb; have O4 := Lib.hid ho; have G4 := Lib.hid ((G.out.drewN _).trans hb); clear ho hg hb)
          go_roundw
          case rel => exact ⟨k + 1, false, (acc ++ [l[k]]), by go_num, by omega, rfl, by first | omega | (simp only [List.length_append, List.length_cons, List.length_nil]; omega), O4.out, by rw [HS.out]; simp, G4.out⟩
          case measure => simp [intOf]; omega
        · have zge : Op.bytesLess l[k].name.toList f.name.toList = false := by have := HGE.out; rw [hg] at this; simpa using this.symm
          by_cases hsm : l[k].name = f.name
          · have zn : (l[k].name.toList == f.name.toList) = true := by rw [hsm]; simp
            have HS := Lib.hid (show res = acc ++ ([f] ++ putGo f true (l.drop (k + 1))) from by rw [HSTEP.out, hg, if_pos hsm]; simp)
            clear hsm
            go_wp2_with fail
            go_quiet (fail)
            go_wp2_with (at_builtin; refine wpl_appX rfl (.tmp 31) (.tmp 33) rfl Try.underlying55 fl_info rfl W0.heap.size _ acc [f] _ _ _ rfl rfl rfl rfl (R.out.on ((Below.refl _ _).drewN _)) (G.out.drewN _).size hal1.out (by decide) ?_; intro v3 w3 ho hg hb; have O3 := Lib.hid ho; have G3 := Lib.hid ((G.out.drewN _).trans hb); have DB3 := Lib.hid (HB.out.later G3.out); have DX3 := Lib.hid (HX.out.later G3.out); have DO3 := Lib.hid (HO.out.on G3.out); have c03 := DB3.out.cell 0 _ rfl; have x03 := DX3.out.cell 0 (.string f.name) rfl; have x13 := DX3.out.cell 1 (.string f.b) rfl; have x23 := DX3.out.cell 2 (.int .i64 f.safe) rfl; obtain ⟨b3, o3, e3, hbb3, hcl3⟩ := DO3.out.rd.at k hlt; cases e3; have n03 : w3.cell? ⟨b, o + k * 3, none⟩ = some (.string l[k].name) := hcl3 0 (.string l[k].name) rfl; have n13 : w3.cell? ⟨b, o + k * 3 + 1, none⟩ = some (.string l[k].b) := hcl3 1 (.string l[k].b) rfl; have n23 : w3.cell? ⟨b, o + k * 3 + 2, none⟩ = some (.int .i64 l[k].safe) := hcl3 2 (.int .i64 l[k].safe) rfl; clear hcl3 ho hg hb)
            go_quiet (fail)
            go_wp2_with fail
            go_roundw
            case rel => exact ⟨k + 1, true, (acc ++ [f]), by go_num, by omega, rfl, by first | omega | (simp only [List.length_append, List.length_cons, List.length_nil]; omega), (O3.out.on ((Below.refl _ _).drewN _)), by rw [HS.out]; simp, (G3.out.drewN _)⟩
            case measure => simp [intOf]; omega
          · have zn : (l[k].name.toList == f.name.toList) = false := by rw [beq_eq_false_iff_ne]; exact fun e => hsm ((bytes_eqD _ _).1 e)
            have hal2 := Lib.hid (show (acc ++ [f]).length + 1 ≤ 1000000000 from by first | omega | (simp only [List.length_append, List.length_cons, List.length_nil]; omega))
            have HS := Lib.hid (show res = acc ++ ([f] ++ ([l[k]] ++ putGo f true (l.drop (k + 1)))) from by rw [HSTEP.out, hg, if_neg hsm]; simp)
            clear hsm
            go_wp2_with fail
            go_quiet (fail)
            go_wp2_with (at_builtin; refine wpl_appX rfl (.tmp 31) (.tmp 33) rfl Try.underlying55 fl_info rfl W0.heap.size _ acc [f] _ _ _ rfl rfl rfl rfl (R.out.on ((Below.refl _ _).drewN _)) (G.out.drewN _).size hal1.out (by decide) ?_; intro v3 w3 ho hg hb; have O3 := Lib.hid ho; have G3 := Lib.hid ((G.out.drewN _).trans hb); have DB3 := Lib.hid (HB.out.later G3.out); have DX3 := Lib.hid (HX.out.later G3.out); have DO3 := Lib.hid (HO.out.on G3.out); have c03 := DB3.out.cell 0 _ rfl; have x03 := DX3.out.cell 0 (.string f.name) rfl; have x13 := DX3.out.cell 1 (.string f.b) rfl; have x23 := DX3.out.cell 2 (.int .i64 f.safe) rfl; obtain ⟨b3, o3, e3, hbb3, hcl3⟩ := DO3.out.rd.at k hlt; cases e3; have n03 : w3.cell? ⟨b, o + k * 3, none⟩ = some (.string l[k].name) := hcl3 0 (.string l[k].name) rfl; have n13 : w3.cell? ⟨b, o + k * 3 + 1, none⟩ = some (.string l[k].b) := hcl3 1 (.string l[k].b) rfl; have n23 : w3.cell? ⟨b, o + k * 3 + 2, none⟩ = some (.int .i64 l[k].safe) := hcl3 2 (.int .i64 l[k].safe) rfl; clear hcl3 ho hg hb)
            go_quiet (fail)
            go_wp2_with (at_builtin; refine wpl_appX rfl (.tmp 46) (.tmp 54) rfl Try.underlying55 fl_info rfl W0.heap.size _ (acc ++ [f]) [(⟨l[k].name, l[k].b, l[k].safe⟩ : Fl)] _ _ _ rfl rfl rfl rfl (O3.out.on ((Below.refl _ _).drewN _)) (G3.out.drewN _).size hal2.out (by decide) ?_; intro v4 w4 ho hg hb; have O4 := Lib.hid ho; have G4 := Lib.hid ((G3.out.drewN _).trans hb); clear ho hg hb)
            go_roundw
            case rel => exact ⟨k + 1, true, ((acc ++ [f]) ++ [l[k]]), by go_num, by omega, rfl, by first | omega | (simp only [List.length_append, List.length_cons, List.length_nil]; omega), O4.out, by rw [HS.out]; simp, G4.out⟩
            case measure => simp [intOf]; omega
      · cases hg : geF l[k] f
        · by_cases hsm : l[k].name = f.name
          · have zn : (l[k].name.toList == f.name.toList) = true := by rw [hsm]; simp
            have HS := Lib.hid (show res = acc ++ ([] ++ putGo f true (l.drop (k + 1))) from by rw [HSTEP.out, hg, if_pos hsm]; simp)
            clear hsm
            go_wp2_with fail
            go_quiet (fail)
            go_wp2_with fail
            go_quiet (fail)
            go_wp2_with fail
            go_roundw
            case rel => exact ⟨k + 1, true, acc, by go_num, by omega, rfl, by first | omega | (simp only [List.length_append, List.length_cons, List.length_nil]; omega), (R.out.on ((Below.refl _ _).drewN _)), by rw [HS.out]; simp, (G.out.drewN _)⟩
            case measure => simp [intOf]; omega
          · have zn : (l[k].name.toList == f.name.toList) = false := by rw [beq_eq_false_iff_ne]; exact fun e => hsm ((bytes_eqD _ _).1 e)
            have hal2 := Lib.hid (show acc.length + 1 ≤ 1000000000 from by first | omega | (simp only [List.length_append, List.length_cons, List.length_nil]; omega))
            have HS := Lib.hid (show res = acc ++ ([] ++ ([l[k]] ++ putGo f true (l.drop (k + 1)))) from by rw [HSTEP.out, hg, if_neg hsm]; simp)
            clear hsm
            go_wp2_with fail
            go_quiet (fail)
            go_wp2_with fail
            go_quiet (fail)
            go_wp2_with (at_builtin; refine wpl_appX rfl (.tmp 46) (.tmp 54) rfl Try.underlying55 fl_info rfl W0.heap.size _ acc [(⟨l[k].name, l[k].b, l[k].safe⟩ : Fl)] _ _ _ rfl rfl rfl rfl (R.out.on ((Below.refl _ _).drewN _)) (G.out.drewN _).size hal2.out (by decide) ?_; intro v4 w4 ho hg hb; have O4 := Lib.hid ho; have G4 := Lib.hid ((G.out.drewN _).trans hb); clear ho hg hb)
            go_roundw
            case rel => exact ⟨k + 1, true, (acc ++ [l[k]]), by go_num, by omega, rfl, by first | omega | (simp only [List.length_append, List.length_cons, List.length_nil]; omega), O4.out, by rw [HS.out]; simp, G4.out⟩
            case measure => simp [intOf]; omega
        · by_cases hsm : l[k].name = f.name
          · have zn : (l[k].name.toList == f.name.toList) = true := by rw [hsm]; simp
            have HS := Lib.hid (show res = acc ++ ([] ++ putGo f true (l.drop (k + 1))) from by rw [HSTEP.out, hg, if_pos hsm]; simp)
            clear hsm
            go_wp2_with fail
            go_quiet (fail)
            go_wp2_with fail
            go_quiet (fail)
            go_wp2_with fail
            go_roundw
            case rel => exact ⟨k + 1, true, acc, by go_num, by omega, rfl, by first | omega | (simp only [List.length_append, List.length_cons, List.length_nil]; omega), (R.out.on ((Below.refl _ _).drewN _)), by rw [HS.out]; simp, (G.out.drewN _)⟩
            case measure => simp [intOf]; omega
          · have zn : (l[k].name.toList == f.name.toList) = false := by rw [beq_eq_false_iff_ne]; exact fun e => hsm ((bytes_eqD _ _).1 e)
            have hal2 := Lib.hid (show acc.length + 1 ≤ 1000000000 from by first | omega | (simp only [List.length_append, List.length_cons, List.length_nil]; omega))
            have HS := Lib.hid (show res = acc ++ ([] ++ ([l[k]] ++ putGo f true (l.drop (k + 1)))) from by rw [HSTEP.out, hg, if_neg hsm]; simp)
            clear hsm
            go_wp2_with fail
            go_quiet (fail)
            go_wp2_with fail
            go_quiet (fail)
            go_wp2_with (at_builtin; refine wpl_appX rfl (.tmp 46) (.tmp 54) rfl Try.underlying55 fl_info rfl W0.heap.size _ acc [(⟨l[k].name, l[k].b, l[k].safe⟩ : Fl)] _ _ _ rfl rfl rfl rfl (R.out.on ((Below.refl _ _).drewN _)) (G.out.drewN _).size hal2.out (by decide) ?_; intro v4 w4 ho hg hb; have O4 := Lib.hid ho; have G4 := Lib.hid ((G.out.drewN _).trans hb); clear ho hg hb)
            go_roundw
            case rel => exact ⟨k + 1, true, (acc ++ [l[k]]), by go_num, by omega, rfl, by first | omega | (simp only [List.length_append, List.length_cons, List.length_nil]; omega), O4.out, by rw [HS.out]; simp, G4.out⟩
            case measure => simp [intOf]; omega
    · have zl : decide ((k : Int) < (l.length : Int)) = false := by rw [decide_eq_false_iff_not]; omega
      have hgb := Lib.hid hgl
      have HE := Lib.hid (show res = acc ++ (if dd = true then [] else [f]) from by rw [RES.out, List.drop_of_length_le (by omega)]; rfl)
      have hal1 := Lib.hid (show acc.length + 1 ≤ 1000000000 from by omega)
      have BW := Lib.hid (show B ≤ W0.heap.size from Nat.le_trans (by omega : B ≤ w.heap.size) K.out.size)
      have GW := Lib.hid (show g < W0.heap.size from Nat.lt_of_lt_of_le hgl K.out.size)
      have fz := DB.out.frozen 0
      cases dd
      · have HS := Lib.hid (show res = acc ++ [f] from by rw [HE.out]; simp)
        go_wp2_with (at_builtin; refine wpl_appX rfl (.tmp 58) (.tmp 60) rfl Try.underlying55 fl_info rfl W0.heap.size _ acc [f] _ _ _ rfl rfl rfl rfl R.out G.out.size hal1.out (by decide) ?_; intro v3 w3 ho hg hb; have O3 := Lib.hid ho; have G3 := Lib.hid (G.out.trans hb); have DB3 := Lib.hid (HB.out.later G3.out); have c03 := DB3.out.cell 0 _ rfl; have fz3 := DB3.out.frozen 0; obtain ⟨A3, c3, e3, -⟩ := id O3.out.rd; rw [show (acc ++ [f]).length = acc.length + 1 from by simp] at e3; subst e3; clear ho hg hb)
        go_end0
        rw [HS.out]
        refine ⟨rfl, ⟨rfl, hf, (.slice A3 (acc.length + 1) c3), DB3.out.set 0 (.slice A3 (acc.length + 1) c3), ?_⟩, ((K.out.trans (Keeps.of_below (G3.out.mono (Nat.le_refl _)) BW.out)).set DB3.out hf docO_disk 0 (.slice A3 (acc.length + 1) c3))⟩
        exact OwnX.mono (OwnX.apart (n := g) (O3.out) (fun i hi _ => Below.heap_setCell _ ⟨g, 0, none⟩ _ i hi) (fun e2 => by have := OwnX.base (O3.out) _ e2; have := GW.out; omega)) BW.out
      · have HS := Lib.hid (show res = acc from by rw [HE.out]; simp)
        obtain ⟨A4, c4, e4, -⟩ := id R.out.rd
        subst e4
        go_wp2_with fail
        go_end0
        rw [HS.out]
        refine ⟨rfl, ⟨rfl, hf, (.slice A4 acc.length c4), DB.out.set 0 (.slice A4 acc.length c4), ?_⟩, ((K.out.trans (Keeps.of_below (G.out.mono (Nat.le_refl _)) BW.out)).set DB.out hf docO_disk 0 (.slice A4 acc.length c4))⟩
        exact OwnX.mono (OwnX.apart (n := g) (R.out) (fun i hi _ => Below.heap_setCell _ ⟨g, 0, none⟩ _ i hi) (fun e2 => by have := OwnX.base (R.out) _ e2; have := GW.out; omega)) BW.out
-- ENDPUT
theorem fl_size (w : World) : (Go.sizeOf 66).run Try.prog w = .ok 3 w := by kernel_rfl

set_option maxHeartbeats 4000000 in
theorem ref_cut7s (w : World) (B g : Nat) (p : Value) (d : Dk) (k : Nat) (h : RdD w B g p d) (hk : k < d.f.length) (hl : d.f.length ≤ 100000) :
    Calls Try.prog 53 #[p, .int .i64 k] w fun x w' => x = .returned (.tuple #[]) ∧ (∃ fv, Box w' g #[fv, .int .i64 d.max, .int .i64 d.left, .bool d.down] 57 ∧ OwnFl w' w.heap.size fv (d.f.take k ++ d.f.drop (k + 1))) ∧ w.grownBy w' (some g) := by
  obtain ⟨rfl, hf, fv, hb, ho⟩ := h
  have hgl := hb.lt
  have HNE := Lib.hid (ho.notBox hb (by decide))
  obtain ⟨l, mx, lf, dn⟩ := d
  simp only at *
  obtain ⟨A1, c1, h1, r1⟩ := slX_head ho.rd Try.underlying55 fl_size k (k : Int) rfl (by omega)
  obtain ⟨A2, c2, h2, r2⟩ := slX_tail ho.rd Try.underlying55 fl_size (k + 1) ((k : Int) + 1) (by omega) (by omega)
  have hlt : (l.take k).length = k := by rw [List.length_take]; omega
  have hld : (l.drop (k + 1)).length = l.length - (k + 1) := List.length_drop
  have R1 := Lib.hid r1
  have R2 := Lib.hid r2
  have HB := Lib.hid hb
  obtain ⟨A, c, rfl, -⟩ := ho.rd
  have c0 := hb.cell 0 _ rfl
  have hw : IntKind.i64.wrap ((k : Int) + 1) = (k : Int) + 1 := by rw [IntKind.wrap_i64]; omega
  have hal1 := Lib.hid (show ([] : List Fl).length + (l.take k).length ≤ 1000000000 from by simp; omega)
  have hal2 := Lib.hid (show ([] ++ l.take k).length + (l.drop (k + 1)).length ≤ 1000000000 from by rw [List.nil_append]; omega)
  have HL := Lib.hid hlt
  have HD := Lib.hid hld
  clear r1 r2 hb hlt hld
  go_enter Try.func53, Try.ntmps53
  have HLN := Lib.hid (show (([] ++ l.take k) ++ l.drop (k + 1)).length = l.length - 1 from by rw [List.nil_append, List.length_append, HL.out, HD.out]; omega)
  go_wp2_with (at_builtin; first
    | (refine wpl_appX_rd rfl (.tmp 5) (.tmp 11) rfl Try.underlying55 fl_info rfl w.heap.size w.heap.size _ _ [] (l.take k) rfl rfl (OwnX.nil _ _) R1.out (Nat.le_refl _) hal1.out (by decide) ?_; intro v3 w3 ho hg hb; have O3 := Lib.hid ho; have G3 := Lib.hid hb; have R3 := Lib.hid (R2.out.below hb); have c03 := (HB.out.later hb).cell 0 _ rfl; clear ho hg hb)
    | (refine wpl_appX_rd rfl (.tmp 14) (.tmp 21) rfl Try.underlying55 fl_info rfl w.heap.size w.heap.size _ _ ([] ++ l.take k) (l.drop (k + 1)) rfl rfl O3.out R3.out G3.out.size hal2.out (by decide) ?_; intro v4 w4 ho hg hb; have O4 := Lib.hid ho; have G4 := Lib.hid (G3.out.trans hb); have DB4 := Lib.hid (HB.out.later G4.out); have c04 := DB4.out.cell 0 _ rfl; have fz4 := DB4.out.frozen 0; obtain ⟨A4, c4, e4, -⟩ := id O4.out.rd; rw [HLN.out] at e4; subst e4; clear ho hg hb))
  go_end0
  refine ⟨rfl, ⟨.slice A4 (l.length - 1) c4, DB4.out.set 0 _, ?_⟩, grown_put G4.out g 0 _⟩
  have := OwnX.apart (n := g) O4.out (fun i hi _ => Below.heap_setCell _ ⟨g, 0, none⟩ (.slice A4 (l.length - 1) c4) i hi) (fun e2 => by have := OwnX.base O4.out _ e2; omega)
  rw [List.nil_append] at this
  exact this
theorem ref_cut7 (w : World) (B g : Nat) (p : Value) (d : Dk) (k : Nat) (h : RdD w B g p d) (hk : k < d.f.length) (hl : d.f.length ≤ 100000) :
    Calls Try.prog 53 #[p, .int .i64 k] w fun x w' => x = .returned (.tuple #[]) ∧ RdD w' B g p { d with f := d.f.take k ++ d.f.drop (k + 1) } ∧ Keeps B docO w w' := by
  refine (ref_cut7s w B g p d k h hk hl).mono ?_
  rintro x w' ⟨hx, ⟨fv, hb, ho⟩, hg⟩
  obtain ⟨hp, hf, fv0, hb0, ho0⟩ := h
  have hlt := hb0.lt
  exact ⟨hx, ⟨hp, hf, fv, hb, OwnX.mono ho (by omega)⟩, Keeps.of_grown hg hb0 hf docO_disk⟩
end Go.Proofs.Ytbdaflhmloodfaa
