/- Layer 14: a map of versions, key by key (byKey): by the project. -/
import Derived.Test.YtlpakooogbaclaaYc
import Derived.Test.YtlpakooogbaclaaGq
import Derived.Test.YtlpakooogbaclaaBapp
import Derived.Maps.OwnSet
import Derived.Maps.Ext
import Derived.BigQuiet
namespace Go.Proofs.Ytlpakooogbaclaa
open Go.RowKit
set_option linter.unusedVariables false

/-- What is in the map, as it is. -/
def hdR (v : Value) : Option (DataW Value × List MemPlace) := some (.held v, [])
theorem keyedG : Maps.Keyed Try.prog 9 := Maps.string_keyed Try.underlying9
theorem zeroG (w : World) : (zeroValue 22).run Try.prog w = .ok (.slice none 0 0) w := by kernel_rfl
def keyG (n : ByteArray) : Lit := .string n.data.toList
theorem keyG_of {n : ByteArray} (h : n.size ≤ 1000000) : keyOf Try.prog 9 (.string n) = some (keyG n) := Go.WideMaps.keyOf_string_mk Try.underlying9 (by simp only [maxLen]; omega)
theorem keyG_inj {a b : ByteArray} (h : keyG a = keyG b) : a = b := by
  unfold keyG at h
  injection h with h
  exact (bytes_listR _ _).1 (by rw [ByteArray.toList_eq, ByteArray.toList_eq]; exact h)
theorem keyG_lit (n : ByteArray) : WideAt.IsKeyLit (keyG n) := by unfold keyG; simp [WideAt.IsKeyLit]
def updG {α : Type} (f : ByteArray → α) (n : ByteArray) (a : α) : ByteArray → α := fun k => if k = n then a else f k
theorem updG_same {α : Type} (f : ByteArray → α) (n : ByteArray) (a : α) : updG f n a n = a := by simp [updG]
theorem updG_other {α : Type} (f : ByteArray → α) {n k : ByteArray} (a : α) (h : k ≠ n) : updG f n a k = f k := by simp [updG, h]

/-- What the map tells: of each key a row, of which keys it has one. -/
structure MapG (D : DataW Value) (l : List Ver) (f : ByteArray → Value) : Prop where
  at' : ∀ k, D.atKey (keyG k) (.held (.slice none 0 0)) = .held (f k)
  has : ∀ x : Lit, Maps.has D x = true ↔ ∃ v ∈ l, x = keyG v.key
/-- The map of block m has the versions l, key by key, each key's in a row of its own. -/
structure ByK (W : World) (base m : Nat) (l : List Ver) (f : ByteArray → Value) : Prop where
  lo : m < base
  map : ∃ D : DataW Value, W.ownsMap Try.prog 9 hdR m l.length D ∧ MapG D l f
  row : ∀ k, OwnX verL 50 W base (f k) (ofV l k)
  apart : ∀ k k', k ≠ k' → ∀ j, (f k).ownBlock = some j → (f k').ownBlock ≠ some j
theorem ByK.on {W W' : World} {base m : Nat} {l : List Ver} {f : ByteArray → Value} (h : ByK W base m l f) (hb : Below W.heap.size W W') : ByK W' base m l f := by
  obtain ⟨D, h1, h2⟩ := h.map
  exact ⟨h.lo, ⟨D, h1.kept (grown_of (g := none) hb) (by simp), h2⟩, fun k => (h.row k).on hb, h.apart⟩
theorem look_of {W : World} {m n : Nat} {D : DataW Value} {l : List Ver} {f : ByteArray → Value} (h : W.ownsMap Try.prog 9 hdR m n D) (hm : MapG D l f) {k : ByteArray} (hk : k.size ≤ 1000000) :
    (Instr.lookup 75 (.map (some m)) (.string k) false).run Try.prog W = .ok (f k) W := by
  obtain ⟨v, ps, hr, hv⟩ := h.lookup keyedG Try.underlying75 (zeroG W) (zd := .held (.slice none 0 0)) (zp := []) rfl (keyG_of hk)
  rw [hm.at'] at hv
  unfold hdR at hv
  simp only [Option.some.injEq, Prod.mk.injEq, DataW.held.injEq] at hv
  rw [hr, hv.1]
theorem ofV_snoc (l : List Ver) (v : Ver) (k : ByteArray) : ofV (l ++ [v]) k = if v.key = k then ofV l k ++ [v] else ofV l k := by
  unfold ofV
  rw [List.filter_append]
  by_cases h : v.key = k
  · rw [if_pos h]; simp [h]
  · rw [if_neg h]; simp [h]
/-- A row has grown, and the map is told of it. -/
theorem ByK.put {W W5 : World} {base m : Nat} {l : List Ver} {f : ByteArray → Value} {v5 : Value} (v : Ver) (h : ByK W base m l f) (hl : l.length ≤ 1000000) (hk : v.key.size ≤ 1000000) (ho : OwnX verL 50 W5 base v5 (ofV l v.key ++ [v])) (hg : Grew W W5 (f v.key) v5) :
    ∃ w', (Instr.mapUpdate 75 (.map (some m)) (.string v.key) v5).run Try.prog W5 = .ok () w' ∧ ByK w' base m (l ++ [v]) (updG f v.key v5) ∧ W5.grownBy w' (some m) := by
  obtain ⟨D, h1, h2⟩ := h.map
  have hlo := h.lo
  have hnm : ∀ k j, (f k).ownBlock = some j → base ≤ j := fun k j hj => (h.row k).base j hj
  have h5 : W5.ownsMap Try.prog 9 hdR m l.length D := h1.kept hg.grown fun e => by have := hnm v.key m e.symm; omega
  obtain ⟨w', hrun, hown, hgm⟩ := World.ownsMap.update (val := v5) (d := .held v5) (ps := []) h5 keyedG Try.underlying75 (by simp only [maxLen]; omega) (keyG_of hk) rfl
  have hism := World.ownsMap.isMap h5
  refine ⟨w', hrun, ⟨hlo, ⟨_, by rw [List.length_append, List.length_singleton]; exact hown, ⟨fun k => ?_, fun x => ?_⟩⟩, fun k => ?_, fun k k' hkk j hj => ?_⟩, hgm⟩
  · by_cases e : k = v.key
    · subst e
      rw [Maps.atKey_put_same hism (keyG_lit _), updG_same]
    · rw [Maps.atKey_put_other (fun e' => e (keyG_inj e')), h2.at', updG_other _ _ e]
  · by_cases e : x = keyG v.key
    · subst e
      rw [Maps.has_put_same hism (keyG_lit _)]
      exact ⟨fun _ => ⟨v, by simp, rfl⟩, fun _ => rfl⟩
    · rw [Maps.has_put_other e, h2.has]
      constructor
      · rintro ⟨y, hy, rfl⟩; exact ⟨y, List.mem_append_left _ hy, rfl⟩
      · rintro ⟨y, hy, rfl⟩
        rcases List.mem_append.1 hy with hy | hy
        · exact ⟨y, hy, rfl⟩
        · obtain rfl := List.mem_singleton.1 hy; exact absurd rfl e
  · rw [ofV_snoc]
    by_cases e : v.key = k
    · subst e
      rw [if_pos rfl, updG_same]
      exact OwnX.keep ho hgm (.inr fun e' => by have := ho.base m e'; omega)
    · rw [if_neg e, updG_other _ _ (fun e' => e e'.symm)]
      refine OwnX.keep (OwnX.keep (h.row k) hg.grown ?_) hgm (.inr fun e' => by have := hnm k m e'; omega)
      rcases hj : (f k).ownBlock with _ | j
      · exact .inl rfl
      · exact .inr fun e' => h.apart k v.key (fun e' => e e'.symm) j hj e'.symm
  · have key : ∀ k1 j, k1 ≠ v.key → v5.ownBlock = some j → (f k1).ownBlock ≠ some j := fun k1 j h1 h3 h4 => by
      rcases hg.own with e | ⟨g, e, h6⟩
      · rw [e] at h3; exact h.apart k1 v.key h1 j h4 h3
      · rw [e] at h3; injection h3 with h3
        have := ((h.row k1).lt j h4).2
        omega
    by_cases e1 : k = v.key
    · subst e1
      rw [updG_same] at hj
      rw [updG_other _ _ (fun e => hkk e.symm)]
      exact key k' j (fun e => hkk e.symm) hj
    · rw [updG_other _ _ e1] at hj
      by_cases e2 : k' = v.key
      · subst e2
        rw [updG_same]
        exact fun e => key k j e1 e hj
      · rw [updG_other _ _ e2]; exact h.apart k k' hkk j hj

set_option maxHeartbeats 8000000 in
set_option maxRecDepth 100000 in
theorem p_byKey (va : Value) (l : List Ver) (w : World) (ha : RdVr w w.heap.size va l) (hl : l.length ≤ 1000) (hkey : ∀ v ∈ l, v.key.size ≤ 1000000) :
    Calls Try.prog 46 #[va] w fun z w' => ∃ f, z = .returned (.map (some w.heap.size)) ∧ ByK w' (w.heap.size + 1) w.heap.size l f ∧ Below w.heap.size w w' := by
  have HA := Lib.hid ha
  have HKEY := Lib.hid hkey
  have HL := Lib.hid hl
  have hmm := @run_makeMap Try.prog
  obtain ⟨A, ca, rfl, hla, hca, -⟩ := ha
  have H0 := Lib.hid (show ByK (w.alloc (.map #[] 0)) (w.heap.size + 1) w.heap.size [] (fun _ => .slice none 0 0) from
    ⟨Nat.lt_succ_self _, ⟨.map [], World.ownsMap_made w Try.prog 9 hdR, ⟨fun _ => rfl, fun x => ⟨fun e => (by cases e), fun ⟨v, hv, _⟩ => (by cases hv)⟩⟩⟩, fun _ => OwnX.nil _ _, fun _ _ _ j hj => (by cases hj)⟩)
  have G0 := Lib.hid (alloc_below w (.map #[] 0))
  clear hkey hl
  go_enter Try.func46, Try.ntmps46
  go_wp2_with fail
  clear hmm
  go_loopw [9] (fun i wr => ∃ (k : Nat) (f : ByteArray → Value), i = .int .i64 k ∧ k ≤ l.length ∧ ByK wr (w.heap.size + 1) w.heap.size (l.take k) f ∧ Below w.heap.size w wr ∧ w.heap.size + 1 ≤ wr.heap.size) (fun i _ => l.length - (intOf i).toNat)
  case atStart => exact ⟨0, _, rfl, Nat.zero_le _, H0.out, G0.out, by simp⟩
  case round =>
    obtain ⟨k, f, rfl, hk, hby, hbw, hsz⟩ := hrel
    rename World => wo
    have BY := Lib.hid hby
    have G := Lib.hid hbw
    have SZ := Lib.hid hsz
    clear hbw hsz
    by_cases hlt : k < l.length
    · have zl : decide ((k : Int) < (l.length : Int)) = true := by rw [decide_eq_true_eq]; omega
      have hki : (k : Int) < (l.length : Int) := by omega
      have hw64 : IntKind.i64.wrap ((k : Int) + 1) = (k : Int) + 1 := by rw [IntKind.wrap_i64]; have := HL.out; omega
      obtain ⟨b, o, rfl, hbb, c0, c1, c2, c3, c4, c5, c6, c7⟩ := RdVr.here (HA.out.below G.out) k hlt
      have TK := Lib.hid (show l.take (k + 1) = l.take k ++ [l[k]] from List.take_succ_eq_append_getElem hlt)
      have KS := Lib.hid (HKEY.out l[k] (List.getElem_mem hlt))
      have TL : (l.take k).length = k := by rw [List.length_take]; omega
      have TLH := Lib.hid TL
      have HK := Lib.hid hlt
      obtain ⟨tk, htk⟩ : ∃ tk, l.take k = tk := ⟨_, rfl⟩
      rw [htk] at BY TK TL TLH hby
      obtain ⟨q, hq⟩ : ∃ q, (l[k]'hlt) = q := ⟨_, rfl⟩
      rw [hq] at c0 c1 c2 c3 c4 c5 c6 c7 TK KS
      obtain ⟨D, hD, hM⟩ := hby.map
      rw [TL] at hD
      clear hbb hq htk hby TL
      obtain ⟨kk, bb, ee, ss, ⟨xx, yy⟩, uu, gg⟩ := q
      simp only at c0 c1 c2 c3 c4 c5 c6 c7 KS
      have LK := Lib.hid (fun (W : World) (h : W.ownsMap Try.prog 9 hdR w.heap.size k D) => look_of h hM (k := kk) KS.out)
      obtain ⟨W1, hW1⟩ : ∃ W1, wo.alloc (.cells #[.string kk, .int .i64 bb, .int .i64 ee, .int .i64 ss, .int .i64 xx, .int .i64 yy, .string uu, .bool gg] 50) = W1 := ⟨_, rfl⟩
      have hb1 : Below wo.heap.size wo W1 := by rw [← hW1]; exact alloc_below _ _
      have BX := Lib.hid (show Box W1 wo.heap.size #[.string kk, .int .i64 bb, .int .i64 ee, .int .i64 ss, .int .i64 xx, .int .i64 yy, .string uu, .bool gg] 50 from by rw [← hW1]; exact Box.new _ _ _ _ rfl)
      have BY1 := Lib.hid (show ByK W1.drew (w.heap.size + 1) w.heap.size tk f from BY.out.on (show Below wo.heap.size wo W1.drew from hb1.drew))
      have MP := Lib.hid (show W1.ownsMap Try.prog 9 hdR w.heap.size k D from hD.kept (grown_of (g := none) hb1) (by simp))
      obtain ⟨W8, hW8⟩ : ∃ W8, W1.drew.alloc (.cells #[.string kk, .int .i64 bb, .int .i64 ee, .int .i64 ss, .int .i64 xx, .int .i64 yy, .string uu, .bool gg] 50) = W8 := ⟨_, rfl⟩
      have hb8 : Below W1.drew.heap.size W1.drew W8 := by rw [← hW8]; exact alloc_below _ _
      have hs8 : W1.drew.heap.size ≤ W8.heap.size := hb8.size
      have BY8 := Lib.hid (BY1.out.on hb8)
      have hbl : W8.heap[W1.drew.heap.size]? = some (.cells (verL.all [(⟨kk, bb, ee, ss, (xx, yy), uu, gg⟩ : Ver)]).toArray 50 (0, 0)) := by rw [← hW8]; exact heap_alloc_new _ _
      have LQ := Lib.hid (show (ofV tk kk).length ≤ 1000 from Nat.le_trans (List.length_filter_le _ _) (by rw [TLH.out]; exact Nat.le_trans (Nat.le_of_lt hlt) HL.out))
      have hsz1 : wo.heap.size ≤ W1.heap.size := hb1.size
      obtain ⟨v5, w5, hrun5, ho5, hg5, hb5⟩ := appX_run (L := verL) (W := W8) (t := 22) (ty := 22) (c := 1) (m := 1) (r := [(⟨kk, bb, ee, ss, (xx, yy), uu, gg⟩ : Ver)]) Try.underlying22 ver_info rfl (BY8.out.row kk) hbl rfl (by have := SZ.out; have : W1.drew.heap.size = W1.heap.size := rfl; omega) (by rw [List.length_singleton]; have := LQ.out; omega) (by decide)
      obtain ⟨w6, hrun6, hby6, hg6⟩ := ByK.put (⟨kk, bb, ee, ss, (xx, yy), uu, gg⟩ : Ver) BY8.out (by rw [TLH.out]; exact Nat.le_trans (Nat.le_of_lt hlt) (Nat.le_trans HL.out (by decide))) KS.out ho5 hg5
      have RUN5 := Lib.hid hrun5
      have RUN6 := Lib.hid hrun6
      have BY6 := Lib.hid (show ByK w6 (w.heap.size + 1) w.heap.size (l.take (k + 1)) _ from by rw [TK.out]; exact hby6)
      have hfb : ∀ j, (f kk).ownBlock = some j → w.heap.size + 1 ≤ j ∧ j < wo.heap.size := fun j hj => (BY.out.row kk).lt j hj
      have G6 := Lib.hid (show Below w.heap.size w w6 ∧ w.heap.size + 1 ≤ w6.heap.size from by
        have s5 := hg5.grown.size
        have s6 := hg6.size
        have s1 : W1.drew.heap.size = W1.heap.size := rfl
        have := SZ.out
        refine ⟨(((G.out.trans (hb1.mono G.out.size)).trans ((show Below W1.heap.size W1 W8 from (show Below W1.heap.size W1 W1.drew from (Below.refl _ _).drew).trans hb8).mono (by omega))).trans (grown_below hg5.grown (by omega) fun j hj => by have := (hfb j hj).1; omega)).trans (grown_below hg6 (by omega) fun j hj => by injection hj with hj; omega), by omega⟩)
      have BX8 : Box W8 wo.heap.size #[.string kk, .int .i64 bb, .int .i64 ee, .int .i64 ss, .int .i64 xx, .int .i64 yy, .string uu, .bool gg] 50 := (show Box W1.drew wo.heap.size _ _ from BX.out).later hb8
      have BX5 : Box w5 wo.heap.size #[.string kk, .int .i64 bb, .int .i64 ee, .int .i64 ss, .int .i64 xx, .int .i64 yy, .string uu, .bool gg] 50 := BX8.keep hg5.grown fun e => by have := (hfb _ e.symm).2; omega
      have MP8 : W8.ownsMap Try.prog 9 hdR w.heap.size k D := (show W1.drew.ownsMap _ _ _ _ _ _ from MP.out).kept (grown_of (g := none) hb8) (by simp)
      have MP5 : w5.ownsMap Try.prog 9 hdR w.heap.size k D := MP8.kept hg5.grown fun e => by have := (hfb _ e.symm).1; omega
      have HJ1 := Lib.hid (show (fun W : World => Box W wo.heap.size #[.string kk, .int .i64 bb, .int .i64 ee, .int .i64 ss, .int .i64 xx, .int .i64 yy, .string uu, .bool gg] 50 ∧ W.ownsMap Try.prog 9 hdR w.heap.size k D) W1.drew from ⟨BX.out, MP.out⟩)
      have HJ8 := Lib.hid (show (fun W : World => Box W wo.heap.size #[.string kk, .int .i64 bb, .int .i64 ee, .int .i64 ss, .int .i64 xx, .int .i64 yy, .string uu, .bool gg] 50 ∧ W.ownsMap Try.prog 9 hdR w.heap.size k D) W8 from ⟨BX8, MP8⟩)
      have HJ9 := Lib.hid (show (fun W : World => Box W wo.heap.size #[.string kk, .int .i64 bb, .int .i64 ee, .int .i64 ss, .int .i64 xx, .int .i64 yy, .string uu, .bool gg] 50 ∧ W.ownsMap Try.prog 9 hdR w.heap.size k D) w5 from ⟨BX5, MP5⟩)
      have HW8 := Lib.hid hW8
      have FK := Lib.hid (BY.out.row kk).rd
      obtain ⟨FA, fc, hfk, -⟩ := FK.out
      rw [hfk] at LK RUN5
      clear hD hM hb1 hb8 hs8 hbl hsz1 hrun5 ho5 hg5 hb5 hrun6 hby6 hg6 hfb BX8 BX5 MP8 MP5 hfk hW8
      go_wp2_with fail
      clear hW1 c0 c1 c2 c3 c4 c5 c6 c7
      have HI : (fun W : World => Box W wo.heap.size #[.string kk, .int .i64 bb, .int .i64 ee, .int .i64 ss, .int .i64 xx, .int .i64 yy, .string uu, .bool gg] 50 ∧ W.ownsMap Try.prog 9 hdR w.heap.size k D) W1.drew := HJ1.out
      have HI8 : (fun W : World => Box W wo.heap.size #[.string kk, .int .i64 bb, .int .i64 ee, .int .i64 ss, .int .i64 xx, .int .i64 yy, .string uu, .bool gg] 50 ∧ W.ownsMap Try.prog 9 hdR w.heap.size k D) (W1.drew.alloc (.cells #[.string kk, .int .i64 bb, .int .i64 ee, .int .i64 ss, .int .i64 xx, .int .i64 yy, .string uu, .bool gg] 50)) := by rw [HW8.out]; exact HJ8.out
      have HI9 : (fun W : World => Box W wo.heap.size #[.string kk, .int .i64 bb, .int .i64 ee, .int .i64 ss, .int .i64 xx, .int .i64 yy, .string uu, .bool gg] 50 ∧ W.ownsMap Try.prog 9 hdR w.heap.size k D) w5 := HJ9.out
      rw [← HW8.out] at RUN5
      refine regk_start [10] (fun W : World => Box W wo.heap.size #[.string kk, .int .i64 bb, .int .i64 ee, .int .i64 ss, .int .i64 xx, .int .i64 yy, .string uu, .bool gg] 50 ∧ W.ownsMap Try.prog 9 hdR w.heap.size k D) (by kernel_rfl) ?_
      refine regk_free 0 13 (v := ?_) (T' := ?_) (fun _ => HI) (by kernel_rfl) (by kernel_rfl) (by kernel_rfl) (by kernel_rfl) (fun _ _ _ h => h) (fun o ho => ?_) ?_ ?_
      rotate_left 2
      · cases ho
        refine ⟨rfl, rfl, fun W => ?_⟩
        go_simp; (try with_reducible rfl)
      · simp only [List.setIfInBounds_toArray, List.set_cons_succ, List.set_cons_zero]; exact rfl
      refine regk_free 1 14 (v := ?_) (T' := ?_) (fun _ => HI) (by kernel_rfl) (by kernel_rfl) (by kernel_rfl) (by kernel_rfl) (fun _ _ _ h => h) (fun o ho => ?_) ?_ ?_
      rotate_left 2
      · cases ho
        refine ⟨rfl, rfl, fun W => ?_⟩
        go_simp; (try with_reducible rfl)
      · simp only [List.setIfInBounds_toArray, List.set_cons_succ, List.set_cons_zero]; exact rfl
      refine regk_take 2 15 (v := ?_) (T' := ?_) HI (by kernel_rfl) (by kernel_rfl) (by kernel_rfl) (by kernel_rfl) (by kernel_rfl) (by kernel_rfl) (fun _ _ _ h => h) (fun o ho => ?_) ?_ ?_
      rotate_left 2
      · cases ho
        refine ⟨rfl, rfl, fun W hW => ?_⟩
        have c0 := Box.cell hW.1 0 _ rfl
        have c1 := Box.cell hW.1 1 _ rfl
        have c2 := Box.cell hW.1 2 _ rfl
        have c3 := Box.cell hW.1 3 _ rfl
        have c4 := Box.cell hW.1 4 _ rfl
        have c5 := Box.cell hW.1 5 _ rfl
        have c6 := Box.cell hW.1 6 _ rfl
        have c7 := Box.cell hW.1 7 _ rfl
        go_simp; (try with_reducible rfl)
      · simp only [List.setIfInBounds_toArray, List.set_cons_succ, List.set_cons_zero]; exact rfl
      refine regk_free 3 16 (v := ?_) (T' := ?_) (fun _ => HI) (by kernel_rfl) (by kernel_rfl) (by kernel_rfl) (by kernel_rfl) (fun _ _ _ h => h) (fun o ho => ?_) ?_ ?_
      rotate_left 2
      · cases ho
        refine ⟨rfl, rfl, fun W => ?_⟩
        go_simp; (try with_reducible rfl)
      · simp only [List.setIfInBounds_toArray, List.set_cons_succ, List.set_cons_zero]; exact rfl
      refine regk_free 4 17 (v := ?_) (T' := ?_) (fun _ => HI) (by kernel_rfl) (by kernel_rfl) (by kernel_rfl) (by kernel_rfl) (fun _ _ _ h => h) (fun o ho => ?_) ?_ ?_
      rotate_left 2
      · cases ho
        refine ⟨rfl, rfl, fun W => ?_⟩
        go_simp; (try with_reducible rfl)
      · simp only [List.setIfInBounds_toArray, List.set_cons_succ, List.set_cons_zero]; exact rfl
      refine regk_take 5 18 (v := ?_) (T' := ?_) HI (by kernel_rfl) (by kernel_rfl) (by kernel_rfl) (by kernel_rfl) (by kernel_rfl) (by kernel_rfl) (fun _ _ _ h => h) (fun o ho => ?_) ?_ ?_
      rotate_left 2
      · cases ho
        refine ⟨rfl, rfl, fun W hW => ?_⟩
        have c0 := Box.cell hW.1 0 _ rfl
        have c1 := Box.cell hW.1 1 _ rfl
        have c2 := Box.cell hW.1 2 _ rfl
        have c3 := Box.cell hW.1 3 _ rfl
        have c4 := Box.cell hW.1 4 _ rfl
        have c5 := Box.cell hW.1 5 _ rfl
        have c6 := Box.cell hW.1 6 _ rfl
        have c7 := Box.cell hW.1 7 _ rfl
        go_simp; (try with_reducible rfl)
      · simp only [List.setIfInBounds_toArray, List.set_cons_succ, List.set_cons_zero]; exact rfl
      refine regk_take 6 19 (v := ?_) (T' := ?_) HI (by kernel_rfl) (by kernel_rfl) (by kernel_rfl) (by kernel_rfl) (by kernel_rfl) (by kernel_rfl) (fun _ _ _ h => h) (fun o ho => ?_) ?_ ?_
      rotate_left 2
      · cases ho
        refine ⟨rfl, rfl, fun W hW => ?_⟩
        have hlk := LK.out W hW.2
        go_simp
        (try rw [hlk])
        (try rfl)
      · simp only [List.setIfInBounds_toArray, List.set_cons_succ, List.set_cons_zero]; exact rfl
      refine regk_take 7 20 (v := ?_) (T' := ?_) HI (by kernel_rfl) (by kernel_rfl) (by kernel_rfl) (by kernel_rfl) (by kernel_rfl) (by kernel_rfl) (fun _ _ _ h => h) (fun o ho => ?_) ?_ ?_
      rotate_left 2
      · cases ho
        refine ⟨rfl, rfl, fun W hW => ?_⟩
        have c0 := Box.cell hW.1 0 _ rfl
        have c1 := Box.cell hW.1 1 _ rfl
        have c2 := Box.cell hW.1 2 _ rfl
        have c3 := Box.cell hW.1 3 _ rfl
        have c4 := Box.cell hW.1 4 _ rfl
        have c5 := Box.cell hW.1 5 _ rfl
        have c6 := Box.cell hW.1 6 _ rfl
        have c7 := Box.cell hW.1 7 _ rfl
        go_simp; (try with_reducible rfl)
      · simp only [List.setIfInBounds_toArray, List.set_cons_succ, List.set_cons_zero]; exact rfl
      refine regk_make (I' := (fun W : World => Box W wo.heap.size #[.string kk, .int .i64 bb, .int .i64 ee, .int .i64 ss, .int .i64 xx, .int .i64 yy, .string uu, .bool gg] 50 ∧ W.ownsMap Try.prog 9 hdR w.heap.size k D)) (fun _ h => h) 8 21 (v := .slice (some ⟨W1.drew.heap.size, 0, none⟩) 1 1) (w' := W1.drew.alloc (.cells #[.string kk, .int .i64 bb, .int .i64 ee, .int .i64 ss, .int .i64 xx, .int .i64 yy, .string uu, .bool gg] 50)) (T' := ?_) (by kernel_rfl) (fun o ho => ?_) (fun _ => HI8) ?_ ?_
      rotate_left
      · cases ho
        refine ⟨rfl, rfl, ?_⟩
        go_simp; (try (constructor <;> with_reducible rfl))
      · simp only [List.setIfInBounds_toArray, List.set_cons_succ, List.set_cons_zero]; exact rfl
      refine regk_make (I' := (fun W : World => Box W wo.heap.size #[.string kk, .int .i64 bb, .int .i64 ee, .int .i64 ss, .int .i64 xx, .int .i64 yy, .string uu, .bool gg] 50 ∧ W.ownsMap Try.prog 9 hdR w.heap.size k D)) (fun _ h => h) 9 22 (v := v5) (w' := w5) (T' := ?_) (by kernel_rfl) (fun o ho => ?_) (fun _ => HI9) ?_ ?_
      rotate_left
      · cases ho
        exact ⟨rfl, rfl, exec_appK (.tmp 19) (.tmp 21) rfl rfl rfl RUN5.out⟩
      · simp only [List.setIfInBounds_toArray, List.set_cons_succ, List.set_cons_zero]; exact rfl
      refine regk_store (I' := (fun W : World => Box W wo.heap.size #[.string kk, .int .i64 bb, .int .i64 ee, .int .i64 ss, .int .i64 xx, .int .i64 yy, .string uu, .bool gg] 50 ∧ W.ownsMap Try.prog 9 hdR w.heap.size k D)) (fun _ h => h) 10 (w' := w6) (by kernel_rfl) (fun o ho => ?_) (noB_no (by kernel_rfl)) ?_
      · cases ho
        refine ⟨rfl, rfl, ?_⟩
        have h6 := RUN6.out
        go_simp
        (try rw [h6])
        (try rfl)
      refine regk_done (by kernel_rfl) ?_
      clear HI HI8 HI9
      go_wp2_with fail
      go_roundw
      case rel => exact ⟨k + 1, _, by go_num, HK.out, BY6.out, G6.out.1, G6.out.2⟩
      case measure => have := HK.out; simp [intOf]; omega
    · obtain rfl : k = l.length := by omega
      have zl : decide ((l.length : Int) < (l.length : Int)) = false := by simp
      have HE := Lib.hid (show ByK wo (w.heap.size + 1) w.heap.size l f from by have := BY.out; rw [List.take_length] at this; exact this)
      clear hlt hby
      go_wp2_with fail
      go_ret
      exact ⟨f, rfl, HE.out, G.out⟩
end Go.Proofs.Ytlpakooogbaclaa
