/- Layer 14: Scan, by the document; pairs compared. -/
import Derived.Test.YtlpakooogbaclaaGp
import Derived.Test.YtlpakooogbaclaaGg
import Derived.BigQuiet
namespace Go.Proofs.Ytlpakooogbaclaa
open Go.RowKit
set_option linter.unusedVariables false

def prL : Lay (ByteArray × ByteArray) := ⟨2, fun x => [.string x.1, .string x.2], fun _ => rfl, fun x u hu => by simp at hu; rcases hu with rfl | rfl <;> rfl, by omega⟩
theorem pr_info : (Try.prog.info? 74).map (fun i => (i.zero, i.size, i.bytes)) = some (some (.agg #[.string ⟨#[]⟩, .string ⟨#[]⟩]), prL.sz, 32) := by kernel_rfl
def ofV (l : List Ver) (k : ByteArray) : List Ver := l.filter fun v => decide (v.key = k)
def pairV (l : List Ver) (p : List (Int × Int)) (t : Int) (k : ByteArray) : List (ByteArray × ByteArray) := if (getV (orderV (ofV l k) p) t).2 = true then [(k, (getV (orderV (ofV l k) p) t).1)] else []
def scanG (l : List Ver) (p : List (Int × Int)) (t : Int) (ks : List ByteArray) : List (ByteArray × ByteArray) := ks.flatMap (pairV l p t)
theorem scan_step {l : List Ver} {p : List (Int × Int)} {t : Int} {ks : List ByteArray} {n : Nat} (h : n < ks.length) : scanG l p t (ks.take (n + 1)) = scanG l p t (ks.take n) ++ pairV l p t ks[n] := by
  unfold scanG
  rw [List.take_succ_eq_append_getElem h, List.flatMap_append]
  simp
theorem scan_len (l : List Ver) (p : List (Int × Int)) (t : Int) : ∀ ks : List ByteArray, (scanG l p t ks).length ≤ ks.length
  | [] => Nat.le_refl _
  | k :: r => by
    have := scan_len l p t r
    unfold scanG at this ⊢
    rw [List.flatMap_cons, List.length_append, List.length_cons]
    have h : (pairV l p t k).length ≤ 1 := by unfold pairV; split <;> simp
    omega
set_option maxHeartbeats 8000000 in
set_option maxRecDepth 100000 in
theorem ref14_scan (va vp : Value) (l : List Ver) (p : List (Int × Int)) (t : Int) (w : World) (ha : RdVr w w.heap.size va l) (hp : RdX lgL w w.heap.size vp p) (hl : l.length ≤ 1000) (hpl : p.length ≤ 1000) :
    Calls Try.prog 24 #[va, vp, .int .i64 t] w fun z w' => ∃ v' ks, z = .returned v' ∧ KeysV l ks ∧ OwnX prL 74 w' w.heap.size v' (scanG l p t ks) ∧ Below w.heap.size w w' := by
  have KY := Lib.hid (ref14_keys va l w ha hl)
  have HA := Lib.hid ha
  have HP := Lib.hid hp
  have HL := Lib.hid hl
  have HPL := Lib.hid hpl
  obtain ⟨A, ca, rfl, -⟩ := ha
  obtain ⟨Ap, cp, rfl, -⟩ := hp
  clear hl hpl
  go_enter Try.func24, Try.ntmps24
  go_wp2_with fail
  refine KY.out.mono ?_
  rintro z w1 ⟨v1, ks, rfl, ho, hks, hkl, hb⟩
  have OK1 := Lib.hid ho
  have KS := Lib.hid hks
  have G1 := Lib.hid hb
  have KL := Lib.hid (show ks.length ≤ 1000 from Nat.le_trans hkl HL.out)
  obtain ⟨KA, kc, rfl, -⟩ := ho.rd
  clear ho hks hkl hb KY
  go_wp2_with fail
  go_loopw [7, 9] (fun x i wr => ∃ n : Nat, i = .int .i64 n ∧ n ≤ ks.length ∧ OwnX prL 74 wr w1.heap.size x (scanG l p t (ks.take n)) ∧ Below w1.heap.size w1 wr) (fun _ i _ => ks.length - (intOf i).toNat)
  case atStart => exact ⟨0, rfl, Nat.zero_le _, OwnX.nil _ _, Below.refl _ _⟩
  case round =>
    obtain ⟨n, rfl, hn, hon, hbw⟩ := hrel
    rename World => wo
    have G := Lib.hid hbw
    have O := Lib.hid hon
    have GA := Lib.hid (G1.out.trans (hbw.mono G1.out.size))
    clear hbw hon
    by_cases hlt : n < ks.length
    · have zl : decide ((n : Int) < (ks.length : Int)) = true := by rw [decide_eq_true_eq]; omega
      have zn : decide (n < ks.length) = true := by rw [decide_eq_true_eq]; exact hlt
      have hni : (n : Int) < (ks.length : Int) := by omega
      have hw64 : IntKind.i64.wrap ((n : Int) + 1) = (n : Int) + 1 := by rw [IntKind.wrap_i64]; have := KL.out; omega
      have SS := Lib.hid (scan_step (l := l) (p := p) (t := t) hlt)
      have SL := Lib.hid (Nat.le_trans (scan_len l p t (ks.take n)) (show (ks.take n).length ≤ 1000 from by rw [List.length_take]; have := KL.out; omega))
      obtain ⟨b, o, rfl, hbb, d0⟩ := RdX.strK (OK1.out.on G.out).rd n hlt
      obtain ⟨kk, hkk⟩ : ∃ kk, (ks[n]'hlt) = kk := ⟨_, rfl⟩
      rw [hkk] at d0 SS
      have OF := Lib.hid (ref14_of (.slice A l.length ca) l kk wo (HA.out.on GA.out) (by have := HL.out; omega))
      have OL := Lib.hid (show (ofV l kk).length ≤ 1000 from Nat.le_trans (List.length_filter_le _ _) HL.out)
      have D0 := Lib.hid d0
      have HLO : b < wo.heap.size := cell_lt d0
      have PV := Lib.hid (show pairV l p t kk = if (getV (orderV (ofV l kk) p) t).2 = true then [(kk, (getV (orderV (ofV l kk) p) t).1)] else [] from rfl)
      obtain ⟨vs, hvs⟩ : ∃ vs, ofV l kk = vs := ⟨_, rfl⟩
      have OF := Lib.hid (show Calls Try.prog 50 #[.slice A l.length ca, .string kk] wo fun e w' => ∃ v', e = .returned v' ∧ OwnX verL 50 w' wo.heap.size v' vs ∧ Below wo.heap.size wo w' from by rw [← hvs]; exact OF.out)
      rw [hvs] at PV OL
      have HLT := Lib.hid hlt
      obtain ⟨acc, hacc⟩ : ∃ acc, scanG l p t (ks.take n) = acc := ⟨_, rfl⟩
      rw [hacc] at O SS SL
      clear hbb hkk hvs hacc
      go_wp2_with fail
      refine OF.out.mono ?_
      rintro z w3 ⟨v3, rfl, ho3, hb3⟩
      have G3 := Lib.hid (G.out.trans (hb3.mono G.out.size))
      have GA3 := Lib.hid (GA.out.trans (hb3.mono GA.out.size))
      have O3 := Lib.hid (O.out.on hb3)
      have D3 := Lib.hid ((hb3.cell (p := ⟨b, o + n, none⟩) HLO).trans D0.out)
      have HL3 : b < w3.heap.size := Nat.lt_of_lt_of_le HLO hb3.size
      obtain ⟨VA, vc, rfl, -⟩ := ho3.rd
      have GT := Lib.hid (ref14_get _ (.slice Ap p.length cp) vs p t w3 w3.heap.size w3.heap.size ho3.rd (Nat.le_refl _) (HP.out.on GA3.out) (Nat.le_refl _) OL.out HPL.out)
      obtain ⟨gr, hgr⟩ : ∃ gr, getV (orderV vs p) t = gr := ⟨_, rfl⟩
      rw [hgr] at GT PV
      obtain ⟨gv, gb⟩ := gr
      simp only at GT PV
      clear ho3 hb3 OF d0 hgr HLO
      cases gb
      · have SN := Lib.hid (show scanG l p t (ks.take (n + 1)) = acc from by rw [SS.out, PV.out]; simp)
        go_wp2_with fail
        refine GT.out.mono ?_
        rintro z w4 ⟨rfl, hb4⟩
        have G4 := Lib.hid (G3.out.trans (hb4.mono G3.out.size))
        have O4 := Lib.hid (O3.out.on hb4)
        clear hb4 GT
        go_wp2_with fail
        go_roundw
        case rel => exact ⟨n + 1, by go_num, HLT.out, by rw [SN.out]; exact O4.out, G4.out⟩
        case measure => have := HLT.out; simp [intOf]; omega
      · have SN := Lib.hid (show scanG l p t (ks.take (n + 1)) = acc ++ [(kk, gv)] from by rw [SS.out, PV.out]; simp)
        go_wp2_with fail
        refine GT.out.mono ?_
        rintro z w4 ⟨rfl, hb4⟩
        have G4 := Lib.hid (G3.out.trans (hb4.mono G3.out.size))
        have O4 := Lib.hid (O3.out.on hb4)
        have d0 := (hb4.cell (p := ⟨b, o + n, none⟩) HL3).trans D3.out
        clear hb4 GT
        go_wp2_with (at_builtin; refine wpl_appX rfl (.tmp 33) (.tmp 40) rfl Try.underlying40 pr_info rfl w1.heap.size _ acc [((kk, gv) : ByteArray × ByteArray)] _ _ _ rfl rfl rfl rfl O4.out G4.out.size (by rw [List.length_singleton]; have := SL.out; omega) (by decide) ?_; intro v5 w5 ho5 hg5 hb5)
        go_roundw
        case rel => exact ⟨n + 1, by go_num, HLT.out, by rw [SN.out]; exact ho5, G4.out.trans hb5⟩
        case measure => have := HLT.out; simp [intOf]; omega
    · obtain rfl : n = ks.length := by omega
      have zl : decide ((ks.length : Int) < (ks.length : Int)) = false := by simp
      rw [List.take_length] at O
      clear hlt
      go_wp2_with fail
      go_ret
      exact ⟨_, ks, rfl, KS.out, OwnX.mono O.out G1.out.size, GA.out⟩
set_option maxHeartbeats 4000000 in
set_option maxRecDepth 100000 in
theorem ref14_pairs (va vb : Value) (l : List (ByteArray × ByteArray)) (w : World) (ha : RdX prL w w.heap.size va l) (hb : RdX prL w w.heap.size vb l) (hl : l.length ≤ 100000) :
    Calls Try.prog 22 #[va, vb] w fun z w' => z = .returned (.bool true) ∧ Below w.heap.size w w' := by
  have HA := Lib.hid ha
  have HB := Lib.hid hb
  have HL := Lib.hid hl
  obtain ⟨A, ca, rfl, -⟩ := ha
  obtain ⟨B, cb, rfl, -⟩ := hb
  have y1 : ((l.length : Int) != (l.length : Int)) = false := by simp
  have y2 : (l.length != l.length) = false := by simp
  clear hl
  go_enter Try.func22, Try.ntmps22
  go_wp2_with fail
  go_loopw [5] (fun i wr => ∃ n : Nat, i = .int .i64 n ∧ n ≤ l.length ∧ Below w.heap.size w wr) (fun i _ => l.length - (intOf i).toNat)
  case atStart => exact ⟨0, rfl, Nat.zero_le _, Below.refl _ _⟩
  case round =>
    obtain ⟨n, rfl, hn, hbw⟩ := hrel
    rename World => wo
    have G := Lib.hid hbw
    clear hbw
    by_cases hlt : n < l.length
    · have zl : decide ((n : Int) < (l.length : Int)) = true := by rw [decide_eq_true_eq]; omega
      have zn : decide (n < l.length) = true := by rw [decide_eq_true_eq]; exact hlt
      have hni : (n : Int) < (l.length : Int) := by omega
      have hw64 : IntKind.i64.wrap ((n : Int) + 1) = (n : Int) + 1 := by rw [IntKind.wrap_i64]; have := HL.out; omega
      obtain ⟨b, o, rfl, hbb, hc⟩ := (HA.out.below G.out).at n hlt
      obtain ⟨b2, o2, rfl, hbb2, hc2⟩ := (HB.out.below G.out).at n hlt
      obtain ⟨q, hq⟩ : ∃ q, (l[n]'hlt) = q := ⟨_, rfl⟩
      rw [hq] at hc hc2
      obtain ⟨kk, uu⟩ := q
      have c0 : wo.cell? ⟨b, o + n * 2, none⟩ = some (.string kk) := hc 0 _ rfl
      have c1 : wo.cell? ⟨b, o + n * 2 + 1, none⟩ = some (.string uu) := hc 1 _ rfl
      have d0 : wo.cell? ⟨b2, o2 + n * 2, none⟩ = some (.string kk) := hc2 0 _ rfl
      have d1 : wo.cell? ⟨b2, o2 + n * 2 + 1, none⟩ = some (.string uu) := hc2 1 _ rfl
      have HLT := Lib.hid hlt
      clear hq hc hc2 hbb hbb2
      go_wp2_with fail
      go_quiet (fail)
      have GX := Lib.hid (G.out.drewN nq)
      go_wp2_with fail
      go_roundw
      case rel => exact ⟨n + 1, by go_num, HLT.out, GX.out⟩
      case measure => have := HLT.out; simp [intOf]; omega
    · obtain rfl : n = l.length := by omega
      have zl : decide ((l.length : Int) < (l.length : Int)) = false := by simp
      clear hlt
      go_wp2_with fail
      go_ret
      exact ⟨rfl, G.out⟩
end Go.Proofs.Ytlpakooogbaclaa
