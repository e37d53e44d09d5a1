/- Layer 7, the document's disk: Up. -/
import Derived.Test.YtbdaflhmloodfaaDe
import Derived.Test.YtbdaflhmloodfaaBstr
namespace Go.Proofs.Ytbdaflhmloodfaa
open Go.RowKit
set_option linter.unusedVariables false

/-- How many of m bytes and one more the i-th file keeps. -/
def keepN (keep : List Int) (i : Nat) (m : Int) : Int := if keep.length = 0 then 0 else (if keep.getD (i % keep.length) 0 < 0 then -(keep.getD (i % keep.length) 0 + 1) else keep.getD (i % keep.length) 0).tmod m
def upOne (keep : List Int) (i : Nat) (f : Fl) : Fl := ⟨f.name, f.b.extract 0 (f.safe + keepN keep i (f.b.size - f.safe + 1)).toNat, ((f.b.extract 0 (f.safe + keepN keep i (f.b.size - f.safe + 1)).toNat).size : Int)⟩
def upGo (keep : List Int) : Nat → List Fl → List Fl
  | _, [] => []
  | i, f :: l => if (f.b.size : Int) = f.safe then f :: upGo keep i l else upOne keep i f :: upGo keep (i + 1) l
def upD (d : Dk) (keep : List Int) : Dk := if d.down = true then ⟨upGo keep 0 d.f, d.max, -1, false⟩ else { d with left := -1 }
theorem keepN_bd (keep : List Int) (i : Nat) (m : Int) (hm : 0 < m) : 0 ≤ keepN keep i m ∧ keepN keep i m < m := by
  unfold keepN
  split
  · omega
  · generalize keep.getD (i % keep.length) 0 = x
    have h : 0 ≤ (if x < 0 then -(x + 1) else x) := by split <;> omega
    rw [Int.tmod_eq_emod_of_nonneg h]
    exact ⟨Int.emod_nonneg _ (by omega), Int.emod_lt_of_pos _ hm⟩

/-- A file stored whole. -/
theorem fl_stored3 {w : World} {base g n c : Nat} {l : List Fl} (h : OwnFl w base (.slice (some ⟨g, 0, none⟩) n c) l) (k : Nat) (hk : k < l.length) (x : Fl) :
    OwnFl (((w.setCell ⟨g, k * 3, none⟩ (.string x.name)).setCell ⟨g, k * 3 + 1, none⟩ (.string x.b)).setCell ⟨g, k * 3 + 2, none⟩ (.int .i64 x.safe)) base (.slice (some ⟨g, 0, none⟩) n c) (l.set k x) := by
  have h1 := (OwnX.stored h k hk 0 (by decide) (.string x.name) ⟨x.name, l[k].b, l[k].safe⟩ rfl).1
  have hk1 : k < (l.set k (⟨x.name, l[k].b, l[k].safe⟩ : Fl)).length := by rw [List.length_set]; exact hk
  have e1 : (l.set k (⟨x.name, l[k].b, l[k].safe⟩ : Fl))[k] = ⟨x.name, l[k].b, l[k].safe⟩ := List.getElem_set_self ..
  have h2 := (OwnX.stored h1 k hk1 1 (by decide) (.string x.b) ⟨x.name, x.b, l[k].safe⟩ (by rw [e1]; rfl)).1
  rw [List.set_set] at h2
  have hk2 : k < (l.set k (⟨x.name, x.b, l[k].safe⟩ : Fl)).length := by rw [List.length_set]; exact hk
  have e2 : (l.set k (⟨x.name, x.b, l[k].safe⟩ : Fl))[k] = ⟨x.name, x.b, l[k].safe⟩ := List.getElem_set_self ..
  have h3 := (OwnX.stored h2 k hk2 2 (by decide) (.int .i64 x.safe) ⟨x.name, x.b, x.safe⟩ (by rw [e2]; rfl)).1
  rw [List.set_set] at h3
  exact h3
theorem fl_kept3 {B : Nat} {w w' : World} (h : Keeps B docO w w') {g : Nat} {cur : Array Value} (hb : Box w' g cur 66) (hg : B ≤ g) (k : Nat) (x : Fl) :
    Keeps B docO w (((w'.setCell ⟨g, k * 3, none⟩ (.string x.name)).setCell ⟨g, k * 3 + 1, none⟩ (.string x.b)).setCell ⟨g, k * 3 + 2, none⟩ (.int .i64 x.safe)) :=
  ((h.set hb hg docO_file _ _).set (hb.set _ _) hg docO_file _ _).set ((hb.set _ _).set _ _) hg docO_file _ _

set_option maxRecDepth 100000 in
set_option maxHeartbeats 16000000 in
theorem ref_up7 (w : World) (B g : Nat) (p kv : Value) (d : Dk) (keep : List Int) (h : RdD w B g p d) (hd : OkD d) (hk : RdI w B kv keep) (hkb : ∀ x ∈ keep, -9223372036854775808 ≤ x ∧ x ≤ 9223372036854775807) :
    Calls Try.prog 25 #[p, kv] w fun x w' => x = .returned (.tuple #[]) ∧ RdD w' B g p (upD d keep) ∧ Keeps B docO w w' := by
  have hlen := hd.len
  have hsafe := hd.safe
  have hused := hd.used
  have hug := usedF_ge d.f
  obtain ⟨rfl, hf, fv, hb, ho⟩ := h
  have HU := Lib.hid (show upD d keep = if d.down = true then ⟨upGo keep 0 d.f, d.max, -1, false⟩ else { d with left := -1 } from rfl)
  generalize upD d keep = res at *
  obtain ⟨l, mx, lf, dn⟩ := d
  simp only at *
  have HO := Lib.hid ho
  have HB := Lib.hid hb
  have HNB := Lib.hid (ho.notBox hb (by decide))
  have c0 := hb.cell 0 _ rfl
  have c2 := hb.cell 2 _ rfl
  have c3 := hb.cell 3 _ rfl
  have f2 := hb.frozen 2
  have f3 := hb.frozen 3
  have B1 := Lib.hid (hb.set 2 (.int .i64 (-1)))
  have K1 := Lib.hid ((Keeps.refl B docO w).set hb hf docO_disk 2 (.int .i64 (-1)))
  obtain ⟨A, c, rfl, -⟩ := ho.rd
  have RK := Lib.hid hk
  obtain ⟨KA, kc, rfl, -⟩ := hk
  generalize hKL : keep.length = KL at *
  have HKL := Lib.hid hKL
  clear hKL
  cases dn
  · have HS := Lib.hid (show res = ⟨l, mx, -1, false⟩ from HU.out)
    clear ho hb
    go_enter Try.func25, Try.ntmps25
    go_wp2_with fail
    (try simp only [Exit.inBlock, Exit.then])
    refine bodyPost_ret (results_none rfl _ _ _) rfl ?_
    rw [HS.out]
    exact ⟨rfl, ⟨rfl, hf, _, B1.out, HO.out.apart (n := g) (fun i hi _ => Below.heap_setCell _ ⟨g, 2, none⟩ _ i hi) HNB.out⟩, K1.out⟩
  · have HS := Lib.hid (show res = ⟨upGo keep 0 l, mx, -1, false⟩ from HU.out)
    have B2 := Lib.hid (show Box ((w.setCell ⟨g, 2, none⟩ (.int .i64 (-1))).setCell ⟨g, 3, none⟩ (.bool false)) g #[.slice A l.length c, .int .i64 mx, .int .i64 (-1), .bool false] 57 from B1.out.set 3 (.bool false))
    have K2 := Lib.hid (K1.out.set B1.out hf docO_disk 3 (.bool false))
    have O2 := Lib.hid (HO.out.apart (n := g) (w' := (w.setCell ⟨g, 2, none⟩ (.int .i64 (-1))).setCell ⟨g, 3, none⟩ (.bool false)) (fun i hi _ => (Below.heap_setCell _ ⟨g, 3, none⟩ _ i hi).trans (Below.heap_setCell _ ⟨g, 2, none⟩ _ i hi)) HNB.out)
    have HGL := Lib.hid hb.lt
    clear ho hb
    go_enter Try.func25, Try.ntmps25
    go_wp2_with fail
    generalize (w.setCell ⟨g, 2, none⟩ (.int .i64 (-1))).setCell ⟨g, 3, none⟩ (.bool false) = W0 at *
    clear c0 c2 c3 f2 f3
    go_loopw [4, 5] (fun i k wr => ∃ (a : Nat) (n : Nat) (acc : List Fl), i = .int .i64 n ∧ k = .int .i64 a ∧ a ≤ l.length ∧ acc.length = a ∧ n ≤ a ∧ upGo keep 0 l = acc ++ upGo keep n (l.drop a) ∧ Box wr g #[.slice A l.length c, .int .i64 mx, .int .i64 (-1), .bool false] 57 ∧ OwnFl wr B (.slice A l.length c) (acc ++ l.drop a) ∧ Keeps B docO w wr) (fun _ k _ => l.length - (intOf k).toNat)
    case atStart => exact ⟨0, 0, [], rfl, rfl, Nat.zero_le _, rfl, Nat.le_refl _, rfl, B2.out, O2.out, K2.out⟩
    case round =>
      obtain ⟨a, n, acc, rfl, rfl, ha, hacc, hna, hup, hbx, how, hkp⟩ := hrel
      have UP := Lib.hid hup
      have BX := Lib.hid hbx
      have O := Lib.hid how
      have K := Lib.hid hkp
      have HACC := Lib.hid hacc
      have c0 := hbx.cell 0 _ rfl
      clear hup hbx how hkp
      by_cases hlt : a < l.length
      · have zl : decide ((a : Int) < (l.length : Int)) = true := by simp; omega
        have zlN : decide (a < l.length) = true := by simpa using hlt
        have hel : (acc ++ l.drop a)[a]? = some l[a] := by
          rw [List.getElem?_append_right (by omega), hacc, Nat.sub_self, List.getElem?_drop, Nat.add_zero, List.getElem?_eq_getElem hlt]
        have hal2 : a < (acc ++ l.drop a).length := by rw [List.length_append, List.length_drop]; omega
        have hel2 : (acc ++ l.drop a)[a] = l[a] := by
          rw [List.getElem?_eq_getElem hal2] at hel
          exact Option.some.inj hel
        have HSP := Lib.hid (show upGo keep n (l.drop a) = if (l[a].b.size : Int) = l[a].safe then l[a] :: upGo keep n (l.drop (a + 1)) else upOne keep n l[a] :: upGo keep (n + 1) (l.drop (a + 1)) from by
          rw [List.drop_eq_getElem_cons hlt]; rfl)
        have hsf := hsafe l[a] (List.getElem_mem _)
        have hsz := hug a hlt
        obtain ⟨rb, cc, e2, hrb, hrl⟩ := O.out.pos (by omega)
        injection e2 with e2 e3 e4
        subst e2
        clear e3 e4
        have r0 : wr.cell? ⟨rb, a * 3, none⟩ = some (.string l[a].name) := by have := O.out.cell a hal2 0 _ rfl; rw [hel2] at this; exact this
        have r1 : wr.cell? ⟨rb, a * 3 + 1, none⟩ = some (.string l[a].b) := by have := O.out.cell a hal2 1 _ rfl; rw [hel2] at this; exact this
        have r2 : wr.cell? ⟨rb, a * 3 + 2, none⟩ = some (.int .i64 l[a].safe) := by have := O.out.cell a hal2 2 _ rfl; rw [hel2] at this; exact this
        have BV := Lib.hid (Box.new wr #[.string l[a].name, .string l[a].b, .int .i64 l[a].safe] 66 _ rfl)
        have hBr : B ≤ wr.heap.size := by omega
        have K3 := Lib.hid (K.out.trans (Keeps.of_below (alloc_below wr (.cells #[.string l[a].name, .string l[a].b, .int .i64 l[a].safe] 66)) hBr))
        have O3 := Lib.hid (O.out.on (alloc_below wr (.cells #[.string l[a].name, .string l[a].b, .int .i64 l[a].safe] 66)))
        have BX3 := Lib.hid (BX.out.alloc (.cells #[.string l[a].name, .string l[a].b, .int .i64 l[a].safe] 66))
        have HRL := Lib.hid hrl
        by_cases hse : (l[a].b.size : Int) = l[a].safe
        · have zs : ((l[a].b.size : Int) == l[a].safe) = true := by simpa using hse
          have HS2 := Lib.hid (show upGo keep 0 l = (acc ++ [l[a]]) ++ upGo keep n (l.drop (a + 1)) from by rw [UP.out, HSP.out, if_pos hse]; simp)
          have HRW := Lib.hid (show acc ++ l.drop a = (acc ++ [l[a]]) ++ l.drop (a + 1) from by rw [List.drop_eq_getElem_cons hlt]; simp)
          clear hse hel hel2 hrl hBr
          go_wp2_with fail
          go_roundw
          case rel => exact ⟨a + 1, n, acc ++ [l[a]], by go_num, by go_num, by omega, by rw [List.length_append, HACC.out]; rfl, by omega, HS2.out, BX3.out, by rw [← HRW.out]; exact O3.out, K3.out⟩
          case measure => simp [intOf]; omega
        · have zs : ((l[a].b.size : Int) == l[a].safe) = false := by simpa using hse
          have hkn := keepN_bd keep n (l[a].b.size - l[a].safe + 1) (by omega)
          have HKN := Lib.hid (show keepN keep n (l[a].b.size - l[a].safe + 1) = if keep.length = 0 then 0 else (if keep.getD (n % keep.length) 0 < 0 then -(keep.getD (n % keep.length) 0 + 1) else keep.getD (n % keep.length) 0).tmod (l[a].b.size - l[a].safe + 1) from rfl)
          rw [HKL.out] at HKN
          have HS2 := Lib.hid (show upGo keep 0 l = (acc ++ [upOne keep n l[a]]) ++ upGo keep (n + 1) (l.drop (a + 1)) from by rw [UP.out, HSP.out, if_neg hse]; simp)
          have HUO := Lib.hid (show upOne keep n l[a] = ⟨l[a].name, l[a].b.extract 0 (l[a].safe + keepN keep n (l[a].b.size - l[a].safe + 1)).toNat, ((l[a].b.extract 0 (l[a].safe + keepN keep n (l[a].b.size - l[a].safe + 1)).toNat).size : Int)⟩ from rfl)
          have HSET := Lib.hid (show ∀ y : Fl, (acc ++ l.drop a).set a y = (acc ++ [y]) ++ l.drop (a + 1) from fun y => by
            rw [List.set_append_right _ _ (by omega), hacc, Nat.sub_self, List.drop_eq_getElem_cons hlt, List.set_cons_zero, List.append_assoc]; rfl)
          have hw1 : IntKind.i64.wrap ((l[a].b.size : Int) - l[a].safe) = (l[a].b.size : Int) - l[a].safe := by rw [IntKind.wrap_i64]; omega
          have hv1 : wrap64 ((l[a].b.size : Int) - l[a].safe) = (l[a].b.size : Int) - l[a].safe := by unfold wrap64; omega
          have hw2 : IntKind.i64.wrap ((l[a].b.size : Int) - l[a].safe + 1) = (l[a].b.size : Int) - l[a].safe + 1 := by rw [IntKind.wrap_i64]; omega
          have hv2 : wrap64 ((l[a].b.size : Int) - l[a].safe + 1) = (l[a].b.size : Int) - l[a].safe + 1 := by unfold wrap64; omega
          generalize hknv : keepN keep n (l[a].b.size - l[a].safe + 1) = kn at *
          have hw3 : IntKind.i64.wrap (l[a].safe + kn) = l[a].safe + kn := by rw [IntKind.wrap_i64]; omega
          have hv3 : wrap64 (l[a].safe + kn) = l[a].safe + kn := by unfold wrap64; omega
          have hm0 : ((l[a].b.size : Int) - l[a].safe + 1 == 0) = false := by rw [beq_eq_false_iff_ne]; omega
          have ha2 : (l[a].safe + kn).toNat ≤ l[a].b.size := by omega
          have hsl : ∀ W, (Instr.slice 9 (.string l[a].b) none (some (.int .i64 (l[a].safe + kn))) none).run Try.prog W = .ok (.string (l[a].b.extract 0 (l[a].safe + kn).toNat)) W := fun W => by
            have h0 : 0 ≤ l[a].safe + kn := by omega
            have h1 : l[a].safe + kn ≤ (l[a].b.size : Int) := by omega
            go_simp
          obtain ⟨s2, hs2⟩ : ∃ s2, s2 = l[a].b.extract 0 (l[a].safe + kn).toNat := ⟨_, rfl⟩
          rw [← hs2] at hsl HUO
          have HS22 := Lib.hid hs2
          clear hs2
          have BV4 := Lib.hid (Box.new wr #[.string l[a].name, .string s2, .int .i64 (s2.size : Int)] 66 _ rfl)
          have K4 := Lib.hid (K.out.trans (Keeps.of_below (alloc_below wr (.cells #[.string l[a].name, .string s2, .int .i64 (s2.size : Int)] 66)) hBr))
          have O4 := Lib.hid (O.out.on (alloc_below wr (.cells #[.string l[a].name, .string s2, .int .i64 (s2.size : Int)] 66)))
          have BX4 := Lib.hid (BX.out.alloc (.cells #[.string l[a].name, .string s2, .int .i64 (s2.size : Int)] 66))
          have HEL := Lib.hid hel2
          have HRB := Lib.hid hrb
          obtain ⟨cur, hcur, -⟩ := OwnX.box O4.out
          have HCUR := Lib.hid hcur
          have HNG := Lib.hid (show rb ≠ g from fun e => (OwnX.notBox O4.out BX4.out (by decide)) (by rw [e]; rfl))
          clear BX3 K3 O3 BV hel hel2 hrl hBr hcur hse hrb
          by_cases hk0 : KL = 0
          · have hkn0 : kn = 0 := by rw [HKN.out, if_pos hk0]
            have zk0 : decide ((0 : Int) < (KL : Int)) = false := by rw [decide_eq_false_iff_not]; omega
            have zk0N : decide (0 < KL) = false := by rw [decide_eq_false_iff_not]; omega
            clear hk0
            rw [hkn0, Int.add_zero] at hsl
            clear hw3 hv3
            go_wp2_with fail
            generalize wr.heap.size = nx at *
            generalize wr.alloc (.cells #[.string l[a].name, .string s2, .int .i64 (s2.size : Int)] 66) = W1 at *
            clear c0 r0 r1 r2
            have c0 := BX4.out.cell 0 _ rfl
            have v0 := BV4.out.cell 0 (.string l[a].name) rfl
            have v1 := BV4.out.cell 1 (.string s2) rfl
            have v2 := BV4.out.cell 2 (.int .i64 (s2.size : Int)) rfl
            have r0 : W1.cell? ⟨rb, a * 3, none⟩ = some (.string l[a].name) := by have := O4.out.cell a hal2 0 _ rfl; rw [HEL.out] at this; exact this
            have r1 : W1.cell? ⟨rb, a * 3 + 1, none⟩ = some (.string l[a].b) := by have := O4.out.cell a hal2 1 _ rfl; rw [HEL.out] at this; exact this
            have r2 : W1.cell? ⟨rb, a * 3 + 2, none⟩ = some (.int .i64 l[a].safe) := by have := O4.out.cell a hal2 2 _ rfl; rw [HEL.out] at this; exact this
            have z0 : W1.frozen? ⟨rb, a * 3, none⟩ = false := O4.out.frozen _
            have z1 : W1.frozen? ⟨rb, a * 3 + 1, none⟩ = false := O4.out.frozen _
            have z2 : W1.frozen? ⟨rb, a * 3 + 2, none⟩ = false := O4.out.frozen _
            have zk : decide ((0 : Int) ≤ (a : Int)) = true := by simp
            go_region_with (fail)
            all_goals
              go_wp2_with fail
              go_roundw
              case rel => exact ⟨a + 1, n + 1, acc ++ [upOne keep n l[a]], by go_num, by go_num, by omega, by rw [List.length_append, HACC.out]; rfl, by omega, HS2.out, ((BX4.out.other ⟨rb, a * 3, none⟩ _ (fun e => HNG.out e.symm)).other ⟨rb, a * 3 + 1, none⟩ _ (fun e => HNG.out e.symm)).other ⟨rb, a * 3 + 2, none⟩ _ (fun e => HNG.out e.symm), by rw [← HSET.out, HUO.out]; exact fl_stored3 O4.out a hal2 ⟨l[a].name, s2, (s2.size : Int)⟩, (fl_kept3 K4.out HCUR.out HRB.out a ⟨l[a].name, s2, (s2.size : Int)⟩).drew⟩
              case measure => simp [intOf]; omega
          · have zk0 : decide ((0 : Int) < (KL : Int)) = true := by rw [decide_eq_true_iff]; omega
            have zk0N : decide (0 < KL) = true := by rw [decide_eq_true_iff]; omega
            have hkn1 := HKN.out
            rw [if_neg hk0] at hkn1
            have hjl : n % KL < KL := Nat.mod_lt _ (by omega)
            have hrm : Int.tmod (n : Int) (KL : Int) = ((n % KL : Nat) : Int) := by rw [Int.tmod_eq_emod_of_nonneg (by omega)]; exact (Int.natCast_emod n KL).symm
            have hKz : ((KL : Int) == 0) = false := by rw [beq_eq_false_iff_ne]; omega
            have hkl := HKL.out
            obtain ⟨KA', kc', eK, -, -, h3⟩ := RK.out.below K.out.below
            injection eK with eA eL eC
            subst eA
            obtain ⟨kb, ko, eb, hkbb, hkc⟩ := h3 (by omega)
            subst eb
            have hget : keep[n % KL]? = some (keep.getD (n % KL) 0) := by
              rw [List.getD_eq_getElem?_getD, List.getElem?_eq_getElem (by omega)]; rfl
            have kx : wr.cell? ⟨kb, ko + n % KL, none⟩ = some (.int .i64 (keep.getD (n % KL) 0)) := hkc _ _ hget
            have hxb := hkb (keep.getD (n % KL) 0) (List.mem_of_getElem? hget)
            clear eL eC hget hkc h3 hkl hk0
            generalize keep.getD (n % KL) 0 = x at *
            generalize n % KL = j at *
            have kx4 : (wr.alloc (.cells #[.string l[a].name, .string l[a].b, .int .i64 l[a].safe] 66)).cell? ⟨kb, ko + j, none⟩ = some (.int .i64 x) := ((alloc_below wr (.cells #[.string l[a].name, .string l[a].b, .int .i64 l[a].safe] 66)).cell (p := ⟨kb, ko + j, none⟩) (cell_lt kx)).trans kx
            have zj : decide ((j : Int) < (KL : Int)) = true := by rw [decide_eq_true_iff]; omega
            have zj0 : decide ((0 : Int) ≤ (j : Int)) = true := by simp
            by_cases hx0 : x < 0
            · rw [if_pos hx0] at hkn1
              have zx : decide (x < 0) = true := by simpa using hx0
              have hwx : IntKind.i64.wrap (x + 1) = x + 1 := by rw [IntKind.wrap_i64]; omega
              have hvx : wrap64 (x + 1) = x + 1 := by unfold wrap64; omega
              have hwn : IntKind.i64.wrap (-(x + 1)) = -(x + 1) := by rw [IntKind.wrap_i64]; omega
              have hvn : wrap64 (-(x + 1)) = -(x + 1) := by unfold wrap64; omega
              have hkn2 := hkn1.symm
              clear hkn1 hx0 hxb
              go_wp2_with fail
              generalize wr.heap.size = nx at *
              generalize wr.alloc (.cells #[.string l[a].name, .string s2, .int .i64 (s2.size : Int)] 66) = W1 at *
              clear c0 r0 r1 r2
              have c0 := BX4.out.cell 0 _ rfl
              have v0 := BV4.out.cell 0 (.string l[a].name) rfl
              have v1 := BV4.out.cell 1 (.string s2) rfl
              have v2 := BV4.out.cell 2 (.int .i64 (s2.size : Int)) rfl
              have r0 : W1.cell? ⟨rb, a * 3, none⟩ = some (.string l[a].name) := by have := O4.out.cell a hal2 0 _ rfl; rw [HEL.out] at this; exact this
              have r1 : W1.cell? ⟨rb, a * 3 + 1, none⟩ = some (.string l[a].b) := by have := O4.out.cell a hal2 1 _ rfl; rw [HEL.out] at this; exact this
              have r2 : W1.cell? ⟨rb, a * 3 + 2, none⟩ = some (.int .i64 l[a].safe) := by have := O4.out.cell a hal2 2 _ rfl; rw [HEL.out] at this; exact this
              have z0 : W1.frozen? ⟨rb, a * 3, none⟩ = false := O4.out.frozen _
              have z1 : W1.frozen? ⟨rb, a * 3 + 1, none⟩ = false := O4.out.frozen _
              have z2 : W1.frozen? ⟨rb, a * 3 + 2, none⟩ = false := O4.out.frozen _
              have zk : decide ((0 : Int) ≤ (a : Int)) = true := by simp
              go_region_with (fail)
              all_goals
                go_wp2_with fail
                go_roundw
                case rel => exact ⟨a + 1, n + 1, acc ++ [upOne keep n l[a]], by go_num, by go_num, by omega, by rw [List.length_append, HACC.out]; rfl, by omega, HS2.out, ((BX4.out.other ⟨rb, a * 3, none⟩ _ (fun e => HNG.out e.symm)).other ⟨rb, a * 3 + 1, none⟩ _ (fun e => HNG.out e.symm)).other ⟨rb, a * 3 + 2, none⟩ _ (fun e => HNG.out e.symm), by rw [← HSET.out, HUO.out]; exact fl_stored3 O4.out a hal2 ⟨l[a].name, s2, (s2.size : Int)⟩, (fl_kept3 K4.out HCUR.out HRB.out a ⟨l[a].name, s2, (s2.size : Int)⟩).drew⟩
                case measure => simp [intOf]; omega
            · rw [if_neg hx0] at hkn1
              have zx : decide (x < 0) = false := by simpa using hx0
              have hkn2 := hkn1.symm
              clear hkn1 hx0 hxb
              go_wp2_with fail
              generalize wr.heap.size = nx at *
              generalize wr.alloc (.cells #[.string l[a].name, .string s2, .int .i64 (s2.size : Int)] 66) = W1 at *
              clear c0 r0 r1 r2
              have c0 := BX4.out.cell 0 _ rfl
              have v0 := BV4.out.cell 0 (.string l[a].name) rfl
              have v1 := BV4.out.cell 1 (.string s2) rfl
              have v2 := BV4.out.cell 2 (.int .i64 (s2.size : Int)) rfl
              have r0 : W1.cell? ⟨rb, a * 3, none⟩ = some (.string l[a].name) := by have := O4.out.cell a hal2 0 _ rfl; rw [HEL.out] at this; exact this
              have r1 : W1.cell? ⟨rb, a * 3 + 1, none⟩ = some (.string l[a].b) := by have := O4.out.cell a hal2 1 _ rfl; rw [HEL.out] at this; exact this
              have r2 : W1.cell? ⟨rb, a * 3 + 2, none⟩ = some (.int .i64 l[a].safe) := by have := O4.out.cell a hal2 2 _ rfl; rw [HEL.out] at this; exact this
              have z0 : W1.frozen? ⟨rb, a * 3, none⟩ = false := O4.out.frozen _
              have z1 : W1.frozen? ⟨rb, a * 3 + 1, none⟩ = false := O4.out.frozen _
              have z2 : W1.frozen? ⟨rb, a * 3 + 2, none⟩ = false := O4.out.frozen _
              have zk : decide ((0 : Int) ≤ (a : Int)) = true := by simp
              go_region_with (fail)
              all_goals
                go_wp2_with fail
                go_roundw
                case rel => exact ⟨a + 1, n + 1, acc ++ [upOne keep n l[a]], by go_num, by go_num, by omega, by rw [List.length_append, HACC.out]; rfl, by omega, HS2.out, ((BX4.out.other ⟨rb, a * 3, none⟩ _ (fun e => HNG.out e.symm)).other ⟨rb, a * 3 + 1, none⟩ _ (fun e => HNG.out e.symm)).other ⟨rb, a * 3 + 2, none⟩ _ (fun e => HNG.out e.symm), by rw [← HSET.out, HUO.out]; exact fl_stored3 O4.out a hal2 ⟨l[a].name, s2, (s2.size : Int)⟩, (fl_kept3 K4.out HCUR.out HRB.out a ⟨l[a].name, s2, (s2.size : Int)⟩).drew⟩
                case measure => simp [intOf]; omega
      · have hal : a = l.length := by omega
        have zl : decide ((a : Int) < (l.length : Int)) = false := by rw [decide_eq_false_iff_not]; omega
        have zlN : decide (a < l.length) = false := by simpa using hlt
        have HF := Lib.hid (show upGo keep 0 l = acc ++ l.drop a from by rw [UP.out, List.drop_of_length_le (by omega)]; rfl)
        go_wp2_with fail
        go_end0
        rw [HS.out, HF.out]
        exact ⟨rfl, ⟨rfl, hf, _, BX.out, O.out⟩, K.out⟩
end Go.Proofs.Ytbdaflhmloodfaa
