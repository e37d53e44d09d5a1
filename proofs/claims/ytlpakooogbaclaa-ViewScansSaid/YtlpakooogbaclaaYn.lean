/- Layer 14: the keys of l for which a path sees a value, each with it: by the project. -/
import Derived.Test.YtlpakooogbaclaaYl
import Derived.Test.YtlpakooogbaclaaYm
import Derived.Test.YtlpakooogbaclaaYe
import Derived.Test.YtlpakooogbaclaaGr
import Derived.Sort.Walk0
import Derived.Sort.KeysCollected
namespace Go.Proofs.Ytlpakooogbaclaa
open Go.RowKit
set_option linter.unusedVariables false

theorem strG_all (l : List ByteArray) : strG.all l = l.map Value.string := by
  induction l with
  | nil => rfl
  | cons x l ih => rw [Lay.all_cons, ih]; rfl
theorem strKeys_ok {w : World} {m n : Nat} {D : DataW Value} (hown : w.ownsMap Try.prog 9 hdR m n D) : (strKeys D).Nodup ∧ ∀ x, x ∈ strKeys D ↔ Maps.has D (.string x) = true := by
  obtain ⟨es, hD, hpw, _⟩ := World.ownsMap.entries hown keyedG
  obtain ⟨es', hD', hko⟩ := World.ownsMap.keysOf hown
  obtain rfl : es = es' := by rw [hD] at hD'; simpa using hD'
  subst hD
  have hk : ∀ p ∈ es, ∃ x, p.1 = .string x := fun p hp => by obtain ⟨v, hv⟩ := hko p hp; obtain ⟨x, _, hx, _⟩ := Maps.keyOf_str Try.underlying9 hv; exact ⟨x, hx⟩
  refine ⟨?_, fun x => ?_⟩
  · show (es.map fun p => strOf p.1).Nodup
    refine List.pairwise_map.2 (hpw.imp_of_mem fun {p q} hp' hq' hne e => hne ?_)
    obtain ⟨a, ha⟩ := hk p hp'
    obtain ⟨b, hb⟩ := hk q hq'
    rw [ha, hb] at e ⊢
    exact congrArg _ e
  · rw [Maps.has_eq, List.any_eq_true]
    show x ∈ es.map (fun p => strOf p.1) ↔ _
    rw [List.mem_map]
    constructor
    · rintro ⟨p, hp', rfl⟩
      obtain ⟨a, ha⟩ := hk p hp'
      exact ⟨p, hp', by rw [ha]; simp [Lit.sameKey, strOf]⟩
    · rintro ⟨p, hp', hs⟩
      obtain ⟨a, ha⟩ := hk p hp'
      rw [ha] at hs
      exact ⟨p, hp', by rw [ha]; simpa [Lit.sameKey, strOf] using hs⟩
def baG (b : List UInt8) : ByteArray := ⟨b.toArray⟩
theorem baG_data (b : List UInt8) : (baG b).data.toList = b := by unfold baG; simp
theorem baG_list (b : List UInt8) : (baG b).toList = b := by rw [ByteArray.toList_eq]; exact baG_data b
theorem baG_of (k : ByteArray) : baG k.data.toList = k := by unfold baG; simp
theorem keys_sorted {w : World} {m n : Nat} {D : DataW Value} {l : List Ver} {f : ByteArray → Value} (hown : w.ownsMap Try.prog 9 hdR m n D) (hm : MapG D l f) {ss : List (List UInt8)} (hp : ss.Perm (strKeys D)) :
    ∃ ks : List ByteArray, KeysV l ks ∧ ks.length = ss.length ∧ (ss.mergeSort (fun x y => decide (x ≤ y))).map Go.Proofs.encStr = strG.all ks := by
  obtain ⟨hnd, hmem⟩ := strKeys_ok hown
  have tr : ∀ a b c : List UInt8, leB a b = true → leB b c = true → leB a c = true := fun a b c h1 h2 => by simp only [leB, decide_eq_true_eq] at *; exact List.le_trans h1 h2
  have tot : ∀ a b : List UInt8, (leB a b || leB b a) = true := fun a b => by simp only [leB, Bool.or_eq_true, decide_eq_true_eq]; exact List.le_total a b
  have hps := List.mergeSort_perm ss leB
  have hnd2 : (ss.mergeSort leB).Nodup := (hps.trans hp).nodup_iff.2 hnd
  have hpw := List.pairwise_mergeSort tr tot ss
  refine ⟨(ss.mergeSort leB).map baG, ⟨?_, fun k => ?_⟩, by rw [List.length_map, List.length_mergeSort], ?_⟩
  · refine List.pairwise_map.2 ((hpw.and hnd2).imp fun {a b} h => ?_)
    obtain ⟨h1, h2⟩ := h
    rw [baG_list, baG_list]
    simp only [leB, decide_eq_true_eq] at h1
    refine less_totalG _ _ ?_ (fun e => h2 e.symm)
    rw [Go.Proofs.bytesLess_eq, decide_eq_false_iff_not]
    exact List.not_lt.2 h1
  · rw [List.mem_map]
    have h1 : (∃ a, a ∈ ss.mergeSort leB ∧ baG a = k) ↔ k.data.toList ∈ strKeys D := by
      constructor
      · rintro ⟨a, ha, rfl⟩; rw [baG_data]; exact (hps.trans hp).mem_iff.1 ha
      · intro h; exact ⟨_, (hps.trans hp).mem_iff.2 h, baG_of k⟩
    rw [h1, hmem]
    show Maps.has D (keyG k) = true ↔ _
    rw [hm.has]
    constructor
    · rintro ⟨v, hv, e⟩; exact ⟨v, hv, (keyG_inj e).symm⟩
    · rintro ⟨v, hv, e⟩; exact ⟨v, hv, by rw [e]⟩
  · rw [strG_all, List.map_map]
    rfl

theorem p_mapKeys (m : Nat) (W : World) : Calls Try.prog 48 #[.map (some m)] W fun e w' => e = .returned (.func (.func 68) #[] #[.pointer (some ⟨W.heap.size, 0, none⟩)]) ∧ w' = W.alloc (.cells #[.map (some m)] 75) :=
  (callsIn_wide (n := 5)).1 (maps_KeysL _ _)
theorem p_sortedKeys {w : World} {base m : Nat} {l : List Ver} {f : ByteArray → Value} (h : ByK w base m l f) (hl : l.length ≤ 100000) :
    Calls Try.prog 47 #[.func (.func 68) #[] #[.pointer (some ⟨w.heap.size, 0, none⟩)]] (w.alloc (.cells #[.map (some m)] 75)) fun e w' =>
      ∃ v ks, e = .returned v ∧ KeysV l ks ∧ OwnX strG 9 w' w.heap.size v ks ∧ Below w.heap.size w w' := by
  obtain ⟨D, h1, h2⟩ := h.map
  have hsz := World.ownsMap.size_le h1
  refine (callsIn_wide (n := 5)).1 ((sorted_keysL m l.length D hdR w h1 (by simp only [maxLen]; omega) (by omega)).mono ?_)
  rintro e w' ⟨v, ss, rfl, hp, ho, -, hb⟩
  obtain ⟨ks, hks, hlen, he⟩ := keys_sorted h1 h2 hp
  refine ⟨v, ks, rfl, hks, ?_, (alloc_below w _).trans (hb.mono (by simp))⟩
  rw [he, ← hlen] at ho
  exact OwnX.mono (show OwnX strG 9 w' _ v ks from ho) (by simp)

set_option maxHeartbeats 8000000 in
set_option maxRecDepth 100000 in
theorem p_scan (w : World) (va vp : Value) (l : List Ver) (p : List (Int × Int)) (t : Int) (ha : RdVr w w.heap.size va l) (hp : RdX lgL w w.heap.size vp p) (hl : l.length ≤ 20) (hpl : p.length ≤ 1000) (hkey : ∀ v ∈ l, v.key.size ≤ 1000000) :
    Calls Try.prog 23 #[va, vp, .int .i64 t] w fun z w' => ∃ v' ks, z = .returned v' ∧ KeysV l ks ∧ OwnX prL 74 w' w.heap.size v' (scanG l p t ks) ∧ Below w.heap.size w w' := by
  have BK := Lib.hid (p_byKey va l w ha (by omega) hkey)
  have HP := Lib.hid hp
  have HL := Lib.hid hl
  have HPL := Lib.hid hpl
  have HKEY := Lib.hid hkey
  obtain ⟨A, ca, rfl, -⟩ := ha
  obtain ⟨Ap, cp, rfl, -⟩ := hp
  clear hl hpl hkey
  go_enter Try.func23, Try.ntmps23
  go_wp2_with fail
  refine BK.out.mono ?_
  rintro z w1 ⟨f, rfl, hby, hb1⟩
  have BY := Lib.hid hby
  have G1 := Lib.hid hb1
  have SK := Lib.hid (p_sortedKeys hby (by have := HL.out; omega))
  clear hby hb1 BK
  go_wp2_with fail
  refine (p_mapKeys _ _).mono ?_
  rintro z w2 ⟨rfl, rfl⟩
  go_wp2_with fail
  refine SK.out.mono ?_
  rintro z w3 ⟨v3, ks, rfl, hks, ho3, hb3⟩
  have O3 := Lib.hid ho3
  have KS := Lib.hid hks
  have BY := Lib.hid (BY.out.on hb3)
  have G3 := Lib.hid (G1.out.trans (hb3.mono G1.out.size))
  have KL := Lib.hid (keys_len hks HL.out)
  obtain ⟨KA, kc, rfl, -⟩ := ho3.rd
  have HMEM := Lib.hid (fun k (h : k ∈ ks) => (hks.mem k).1 h)
  clear ho3 hks hb3 SK G1
  go_wp2_with fail
  go_loopw [8, 19] (fun x i wr => ∃ n : Nat, i = .int .i64 n ∧ n ≤ ks.length ∧ OwnX prL 74 wr w3.heap.size x (scanG l p t (ks.take n)) ∧ Below w3.heap.size w3 wr) (fun _ i _ => ks.length - (intOf i).toNat)
  case atStart => exact ⟨0, rfl, Nat.zero_le _, OwnX.nil _ _, Below.refl _ _⟩
  case round =>
    obtain ⟨n, rfl, hn, hon, hbw⟩ := hrel
    rename World => wo
    have G := Lib.hid hbw
    have O := Lib.hid hon
    have GA := Lib.hid (G3.out.trans (hbw.mono G3.out.size))
    obtain ⟨QA, qc, rfl, -⟩ := hon.rd
    clear hbw hon
    by_cases hlt : n < ks.length
    · have zl : decide ((n : Int) < (ks.length : Int)) = true := by rw [decide_eq_true_eq]; omega
      have hni : (n : Int) < (ks.length : Int) := by omega
      have hw64 : IntKind.i64.wrap ((n : Int) + 1) = (n : Int) + 1 := by rw [IntKind.wrap_i64]; have := KL.out; omega
      have SS := Lib.hid (scan_step (l := l) (p := p) (t := t) hlt)
      have SL := Lib.hid (Nat.le_trans (scan_len l p t (ks.take n)) (show (ks.take n).length ≤ 100000 from by rw [List.length_take]; have := KL.out; omega))
      obtain ⟨b, o, rfl, hbb, d0⟩ := RdX.strK (O3.out.on G.out).rd n hlt
      obtain ⟨v0, hv0, hvk⟩ := HMEM.out _ (List.getElem_mem hlt)
      have hks0 := HKEY.out v0 hv0
      rw [hvk] at hks0
      clear hv0 hvk
      obtain ⟨kk, hkk⟩ : ∃ kk, (ks[n]'hlt) = kk := ⟨_, rfl⟩
      rw [hkk] at d0 SS hks0
      have BYo := Lib.hid (BY.out.on G.out)
      obtain ⟨D, hD, hM⟩ := BYo.out.map
      have hlk := look_of hD hM hks0
      have RK := Lib.hid (BYo.out.row kk).rd
      obtain ⟨FA, fc, hfk, -⟩ := RK.out
      rw [hfk] at hlk
      have GT := Lib.hid (p_get wo (f kk) (.slice Ap p.length cp) (ofV l kk) p t RK.out (HP.out.on GA.out) (Nat.le_trans (List.length_filter_le _ _) HL.out) HPL.out)
      rw [hfk] at GT
      have PV := Lib.hid (show pairV l p t kk = if (getV (orderV (ofV l kk) p) t).2 = true then [(kk, (getV (orderV (ofV l kk) p) t).1)] else [] from rfl)
      obtain ⟨gr, hgr⟩ : ∃ gr, getV (orderV (ofV l kk) p) t = gr := ⟨_, rfl⟩
      rw [hgr] at GT PV
      obtain ⟨gv, gb⟩ := gr
      simp only at GT PV
      have HLT := Lib.hid hlt
      obtain ⟨acc, hacc⟩ : ∃ acc, scanG l p t (ks.take n) = acc := ⟨_, rfl⟩
      rw [hacc] at O SS SL
      rw [hacc]
      clear hbb hkk hgr hacc hfk hD hM hks0
      cases gb
      · have SN := Lib.hid (show scanG l p t (ks.take (n + 1)) = acc from by rw [SS.out, PV.out]; simp)
        go_wp2_with fail
        refine GT.out.mono ?_
        rintro z w4 ⟨rfl, hb4⟩
        have G4 := Lib.hid (G.out.trans (hb4.mono G.out.size))
        have O4 := Lib.hid (O.out.on hb4)
        clear hb4 GT hlk d0
        go_wp2_with fail
        go_roundw
        case rel => exact ⟨n + 1, by go_num, HLT.out, by rw [SN.out]; exact O4.out, G4.out⟩
        case measure => have := HLT.out; simp [intOf]; omega
      · have SN := Lib.hid (show scanG l p t (ks.take (n + 1)) = acc ++ [(kk, gv)] from by rw [SS.out, PV.out]; simp)
        go_wp2_with fail
        refine GT.out.mono ?_
        rintro z w4 ⟨rfl, hb4⟩
        have G4 := Lib.hid (G.out.trans (hb4.mono G.out.size))
        have O4 := Lib.hid (O.out.on hb4)
        clear hb4 GT hlk d0
        go_wp2_with (at_builtin; refine wpl_appX rfl (.tmp 33) (.tmp 37) rfl Try.underlying40 pr_info rfl w3.heap.size _ acc [((kk, gv) : ByteArray × ByteArray)] _ _ _ rfl rfl rfl rfl O4.out G4.out.size (by rw [List.length_singleton]; have := SL.out; omega) (by decide) ?_; intro v5 w5 ho5 hg5 hb5)
        go_roundw
        case rel => exact ⟨n + 1, by go_num, HLT.out, by rw [SN.out]; exact ho5, G4.out.trans hb5⟩
        case measure => have := HLT.out; simp [intOf]; omega
    · obtain rfl : n = ks.length := by omega
      have zl : decide ((ks.length : Int) < (ks.length : Int)) = false := by simp
      rw [List.take_length] at O ⊢
      clear hlt
      go_wp2_with fail
      go_ret
      exact ⟨_, ks, rfl, KS.out, OwnX.mono O.out G3.out.size, GA.out⟩
theorem scan_k : ScanK := fun w va vp l p t ha hp ok _ => p_scan w va vp l p t ha hp ok.l20 (Nat.le_trans ok.p5 (by decide)) fun v hv => Nat.le_trans (ok.ver v hv).2.1 (by decide)
end Go.Proofs.Ytlpakooogbaclaa
