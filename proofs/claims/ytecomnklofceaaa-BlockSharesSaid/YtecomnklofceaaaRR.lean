/- Layer 6: spans that may be, by the document and by the project (out of s05/XEa). -/
import Derived.Test.YtecomnklofceaaaSm
import Derived.Test.YtecomnklofceaaaBB
import Derived.Test.YtecomnklofceaaaRb
import Derived.Test.YtecomnklofceaaaOB
import Derived.Test.YtecomnklofceaaaVV
namespace Go.Proofs.Ytecomnklofceaaa
open Go.RowKit
set_option linter.unusedVariables false

def spV (s : Sp) : Value := .agg #[.int .i64 s.1, .int .i64 s.2]

set_option maxHeartbeats 400000 in
theorem ref_may (s : Sp) (w : World) :
    Calls Try.prog 49 #[spV s] w fun e w' => e = .returned (.bool (mayB s)) ∧ Below w.heap.size w w' := by
  obtain ⟨a, b⟩ := s
  unfold spV
  go_enter Try.func49, Try.ntmps49
  go_wp2
  all_goals go_ret
  all_goals exact ⟨ret_bool (by simp [mayB, *] <;> omega), alloc_below w _⟩

set_option maxHeartbeats 400000 in
theorem p_may (s : Sp) (w : World) :
    Calls Try.prog 52 #[spV s] w fun e w' => e = .returned (.bool (mayB s)) ∧ Below w.heap.size w w' := by
  obtain ⟨a, b⟩ := s
  unfold spV
  go_enter Try.func52, Try.ntmps52
  go_wp2
  all_goals go_ret
  all_goals exact ⟨ret_bool (by simp [mayB, *] <;> omega), alloc_below w _⟩

end Go.Proofs.Ytecomnklofceaaa
/- Layer 6: versions: which may be, cut to few bytes, their bytes, by the document. -/
namespace Go.Proofs.Ytecomnklofceaaa
open Go.RowKit
set_option linter.unusedVariables false

structure Ver where
  key : ByteArray
  b : Int
  e : Int
  s : Int
  sp : Sp
  val : ByteArray
  gone : Bool
def verV (v : Ver) : Value := .agg #[.string v.key, .int .i64 v.b, .int .i64 v.e, .int .i64 v.s, .int .i64 v.sp.1, .int .i64 v.sp.2, .string v.val, .bool v.gone]
def rangeV (v : Ver) : Bool := decide (0 ≤ v.b) && decide (v.b ≤ 15) && decide (1 ≤ v.e) && decide (v.e ≤ 10000) && decide (1 ≤ v.s) && decide (v.s ≤ 100000)
def mayV (v : Ver) : Bool := decide ((Ord.splitOf v.key.data.toList).2.2 = 0) && mayB v.sp && decide (v.val.size ≤ 200) && !(v.gone && !decide (v.val = ⟨#[]⟩)) && rangeV v
def cutV (v : Ver) : Ver := { v with key := if 110 < v.key.size then v.key.extract 0 110 else v.key, val := if 210 < v.val.size then v.val.extract 0 210 else v.val }

theorem not_empty {u : ByteArray} (h : ¬ u = ⟨#[]⟩) : u.toList.isEmpty = false := by
  rw [ByteArray.toList_eq]
  obtain ⟨⟨l⟩⟩ := u
  cases l with
  | nil => exact absurd rfl h
  | cons x l => rfl

set_option maxHeartbeats 2000000 in
theorem ref6_cut (v : Ver) (w : World) :
    Calls Try.prog 15 #[verV v] w fun e w' => e = .returned (verV (cutV v)) ∧ Below w.heap.size w w' := by
  obtain ⟨k, b, e, s, ⟨x, y⟩, u, g⟩ := v
  unfold verV cutV
  simp only
  go_enter Try.func15, Try.ntmps15
  go_wp2_with fail
  all_goals
    first
      | refine bodyPost_ret (v := .agg #[.string (k.extract 0 110), .int .i64 b, .int .i64 e, .int .i64 s, .int .i64 x, .int .i64 y, .string (u.extract 0 210), .bool g]) ?_ rfl ⟨rfl, (alloc_below w _).trans ((alloc_below _ _).mono (by simp))⟩
      | refine bodyPost_ret (v := .agg #[.string (k.extract 0 110), .int .i64 b, .int .i64 e, .int .i64 s, .int .i64 x, .int .i64 y, .string u, .bool g]) ?_ rfl ⟨rfl, (alloc_below w _).trans ((alloc_below _ _).mono (by simp))⟩
      | refine bodyPost_ret (v := .agg #[.string k, .int .i64 b, .int .i64 e, .int .i64 s, .int .i64 x, .int .i64 y, .string (u.extract 0 210), .bool g]) ?_ rfl ⟨rfl, (alloc_below w _).trans ((alloc_below _ _).mono (by simp))⟩
      | refine bodyPost_ret (v := .agg #[.string k, .int .i64 b, .int .i64 e, .int .i64 s, .int .i64 x, .int .i64 y, .string u, .bool g]) ?_ rfl ⟨rfl, (alloc_below w _).trans ((alloc_below _ _).mono (by simp))⟩
    rw [results_cell1 rfl]
    go_simp

set_option maxHeartbeats 4000000 in
theorem ref6_may (v : Ver) (w : World) (hk : v.key.size ≤ 1000000) :
    Calls Try.prog 33 #[verV v] w fun e w' => e = .returned (.bool (mayV v)) ∧ Below w.heap.size w w' := by
  have M1 := Lib.hid (fun w => Ord.ref_split v.key w hk)
  have M2 := Lib.hid (fun w => ref_may v.sp w)
  have hh := Lib.hid (show mayV v = (decide ((Ord.splitOf v.key.data.toList).2.2 = 0) && mayB v.sp && decide (v.val.size ≤ 200) && !(v.gone && !decide (v.val = ⟨#[]⟩)) && rangeV v) from rfl)
  have hr := Lib.hid (show rangeV v = (decide (0 ≤ v.b) && decide (v.b ≤ 15) && decide (1 ≤ v.e) && decide (v.e ≤ 10000) && decide (1 ≤ v.s) && decide (v.s ≤ 100000)) from rfl)
  generalize mayV v = res at *
  generalize rangeV v = rg at *
  generalize mayB v.sp = ms at *
  generalize Ord.splitOf v.key.data.toList = sl at *
  obtain ⟨s1, s2, s3⟩ := sl
  obtain ⟨k, b, e, s, ⟨x, y⟩, u, g⟩ := v
  unfold verV
  unfold spV at M2
  simp only at *
  have B := Lib.hid (Box.new w #[.string k, .int .i64 b, .int .i64 e, .int .i64 s, .int .i64 x, .int .i64 y, .string u, .bool g] 39 _ rfl)
  have G := Lib.hid (alloc_below w (.cells #[.string k, .int .i64 b, .int .i64 e, .int .i64 s, .int .i64 x, .int .i64 y, .string u, .bool g] 39))
  go_enter Try.func33, Try.ntmps33
  go_wp2_with fail
  generalize w.alloc (.cells #[.string k, .int .i64 b, .int .i64 e, .int .i64 s, .int .i64 x, .int .i64 y, .string u, .bool g] 39) = w0 at *
  refine (M1.out _).mono ?_
  rintro z w1 ⟨rfl, hb1⟩
  have B := Lib.hid (B.out.later hb1)
  have G := Lib.hid (G.out.trans (hb1.mono G.out.size))
  clear hb1
  have c4 := B.out.cell 4 (.int .i64 x) rfl
  have c5 := B.out.cell 5 (.int .i64 y) rfl
  go_wp2_with fail
  refine (M2.out _).mono ?_
  rintro z w2 ⟨rfl, hb2⟩
  have B := Lib.hid (B.out.later hb2)
  have G := Lib.hid (G.out.trans (hb2.mono G.out.size))
  clear hb2 c4 c5
  have c1 := B.out.cell 1 (.int .i64 b) rfl
  have c2 := B.out.cell 2 (.int .i64 e) rfl
  have c3 := B.out.cell 3 (.int .i64 s) rfl
  have c6 := B.out.cell 6 (.string u) rfl
  have c7 := B.out.cell 7 (.bool g) rfl
  have hno : ∀ q, (s3 ≠ 0 ∨ ms = false ∨ 200 < u.size ∨ (g = true ∧ u ≠ ⟨#[]⟩)) → q = false → res = q := fun q h hq => by
    rw [hq, hh.out]
    rcases h with h | h | h | ⟨h1, h2⟩
    · simp [h]
    · simp [h]
    · rw [show decide (u.size ≤ 200) = false from by simp; omega]; simp
    · simp [h1, h2]
  have hyes : s3 = 0 → ms = true → u.size ≤ 200 → (g = true → u = ⟨#[]⟩) → res = rg := fun h1 h2 h3 h4 => by
    rw [hh.out, h1, h2]
    rw [show decide (u.size ≤ 200) = true from by simpa using h3]
    cases g
    · simp
    · simp [h4 rfl]
  have HN := Lib.hid hno
  have HY := Lib.hid hyes
  clear hno hyes hh
  by_cases z1 : s3 = 0
  · cases ms
    · have hres := Lib.hid (HN.out false (.inr (.inl rfl)) rfl)
      go_wp2_with fail
      go_ret
      exact ⟨ret_bool hres.out.symm, G.out⟩
    · by_cases z2 : 200 < u.size
      · have hres := Lib.hid (HN.out false (.inr (.inr (.inl z2))) rfl)
        go_wp2_with fail
        go_ret
        exact ⟨ret_bool hres.out.symm, G.out⟩
      · cases hg : g
        · have hres := Lib.hid (show res = rg from HY.out z1 rfl (by omega) (by simp [hg]))
          subst hg
          clear HN HY
          go_wp2_with fail
          all_goals go_ret
          all_goals exact ⟨ret_bool (by rw [hres.out, hr.out]; simp [*] <;> omega), G.out⟩
        · subst hg
          by_cases hu : u = ⟨#[]⟩
          · have hres := Lib.hid (show res = rg from HY.out z1 rfl (by omega) (fun _ => hu))
            clear HN HY
            subst hu
            go_wp2_with fail
            all_goals go_ret
            all_goals exact ⟨ret_bool (by rw [hres.out, hr.out]; simp [*] <;> omega), G.out⟩
          · have hres := Lib.hid (HN.out false (.inr (.inr (.inr ⟨rfl, hu⟩))) rfl)
            have hue := not_empty hu
            go_wp2_with fail
            go_ret
            exact ⟨ret_bool hres.out.symm, G.out⟩
  · have hres := Lib.hid (HN.out false (.inl z1) rfl)
    go_wp2_with fail
    go_ret
    exact ⟨ret_bool hres.out.symm, G.out⟩
end Go.Proofs.Ytecomnklofceaaa
/- Layer 6: a version's bytes, by the document. -/
namespace Go.Proofs.Ytecomnklofceaaa
open Go.RowKit
set_option linter.unusedVariables false

theorem ownB_mono {w : World} {base base' : Nat} {v : Value} {l : List UInt8} (h : OwnB w base v l) (hb : base' ≤ base) : OwnB w base' v l :=
  ⟨h.1, h.2.imp id fun ⟨g, cap, cur, e, hg, h3⟩ => ⟨g, cap, cur, e, Nat.le_trans hb hg, h3⟩⟩

def numsV (v : Ver) : List Int := [v.b, v.e, v.s, v.sp.1, v.sp.2 - v.sp.1, if v.gone = true then 1 else 0]
def encV (v : Ver) : List UInt8 := encNs (numsV v) ++ encT v.key ++ encT v.val
theorem mayV_iff {v : Ver} (h : mayV v = true) : (Ord.splitOf v.key.data.toList).2.2 = 0 ∧ mayB v.sp = true ∧ v.val.size ≤ 200 ∧ (v.gone = true → v.val = ⟨#[]⟩) ∧ 0 ≤ v.b ∧ v.b ≤ 15 ∧ 1 ≤ v.e ∧ v.e ≤ 10000 ∧ 1 ≤ v.s ∧ v.s ≤ 100000 := by
  unfold mayV rangeV at h
  simp only [Bool.and_eq_true, decide_eq_true_eq, Bool.not_eq_true', Bool.and_eq_false_iff, Bool.not_eq_false'] at h
  obtain ⟨⟨⟨⟨h1, h2⟩, h3⟩, h4⟩, ⟨⟨⟨⟨h5, h6⟩, h7⟩, h8⟩, h9⟩, h10⟩ := h
  refine ⟨h1, h2, h3, fun hg => ?_, h5, h6, h7, h8, h9, h10⟩
  rcases h4 with h4 | h4
  · rw [hg] at h4; cases h4
  · simpa using h4
theorem numsV_bd {v : Ver} (h : mayV v = true) : ∀ n ∈ numsV v, 0 ≤ n ∧ n ≤ 1099511627776 := by
  obtain ⟨_, h2, _, _, h5, h6, h7, h8, h9, h10⟩ := mayV_iff h
  have h11 := mayB_iff.1 h2
  intro n hn
  simp only [numsV, List.mem_cons, List.not_mem_nil, or_false] at hn
  rcases hn with rfl | rfl | rfl | rfl | rfl | rfl
  · omega
  · omega
  · omega
  · omega
  · omega
  · split <;> omega

set_option maxHeartbeats 4000000 in
theorem ref6_write (v : Ver) (w : World) (hm : mayV v = true) (hk : v.key.size ≤ 1000) :
    Calls Try.prog 20 #[verV v] w fun e w' => ∃ v', e = .returned v' ∧ OwnB w' w.heap.size v' (encV v) ∧ Below w.heap.size w w' := by
  have hbd := numsV_bd hm
  have hmi := mayV_iff hm
  have hsp := mayB_iff.1 hmi.2.1
  have hvs := hmi.2.2.1
  have HB := Lib.hid hbd
  have TK := Lib.hid (fun w => ref_text v.key w (by omega))
  have TV := Lib.hid (fun w => ref_text v.val w (by omega))
  have EK := Lib.hid (encT_len v.key (by omega))
  have EV := Lib.hid (encT_len v.val (by omega))
  have hen := Lib.hid (show encV v = encNs (numsV v) ++ encT v.key ++ encT v.val from rfl)
  have hnv : numsV v = [v.b, v.e, v.s, v.sp.1, v.sp.2 - v.sp.1, if v.gone = true then 1 else 0] := rfl
  generalize encV v = res at *
  generalize encT v.key = ek at *
  generalize encT v.val = ev at *
  generalize hns : numsV v = ns at *
  clear hns hmi hbd hm
  obtain ⟨k, b, e, s, ⟨x, y⟩, u, g⟩ := v
  unfold verV
  simp only at *
  have B := Lib.hid (Box.new w #[.string k, .int .i64 b, .int .i64 e, .int .i64 s, .int .i64 x, .int .i64 y, .string u, .bool g] 39 _ rfl)
  have G := Lib.hid (alloc_below w (.cells #[.string k, .int .i64 b, .int .i64 e, .int .i64 s, .int .i64 x, .int .i64 y, .string u, .bool g] 39))
  obtain ⟨gn, hgn⟩ : ∃ gn : Int, gn = if g = true then 1 else 0 := ⟨_, rfl⟩
  rw [← hgn] at hnv
  have B := Lib.hid (B.out.alloc (.cells #[.int .i64 b, .int .i64 e, .int .i64 s, .int .i64 x, .int .i64 (y - x), .int .i64 gn] 3))
  have BL := Lib.hid (Box.new (w.alloc (.cells #[.string k, .int .i64 b, .int .i64 e, .int .i64 s, .int .i64 x, .int .i64 y, .string u, .bool g] 39)) #[.int .i64 b, .int .i64 e, .int .i64 s, .int .i64 x, .int .i64 (y - x), .int .i64 gn] 3 (w.heap.size + 1) (by simp))
  have G := Lib.hid (G.out.alloc G.out.size (.cells #[.int .i64 b, .int .i64 e, .int .i64 s, .int .i64 x, .int .i64 (y - x), .int .i64 gn] 3))
  have HC := Lib.hid (show ∀ (j : Nat) (hj : j < ns.length), (#[Value.int .i64 b, .int .i64 e, .int .i64 s, .int .i64 x, .int .i64 (y - x), .int .i64 gn] : Array Value)[j]? = some (.int .i64 ns[j]) from by
    subst hnv
    intro j hj
    simp only [List.length_cons, List.length_nil] at hj
    rcases (show j = 0 ∨ j = 1 ∨ j = 2 ∨ j = 3 ∨ j = 4 ∨ j = 5 from by omega) with rfl | rfl | rfl | rfl | rfl | rfl <;> rfl)
  have hl6 : ns.length = 6 := by rw [hnv]; rfl
  clear hnv
  go_enter Try.func20, Try.ntmps20
  cases hg : g
  case' false => have hgn0 : gn = 0 := by rw [hgn, hg]; rfl
  case' true => have hgn0 : gn = 1 := by rw [hgn, hg]; rfl
  all_goals
    rw [hg] at B BL G
    subst hgn0
    clear hgn
    go_wp2_with fail
    generalize (w.alloc (.cells #[.string k, .int .i64 b, .int .i64 e, .int .i64 s, .int .i64 x, .int .i64 y, .string u, .bool _] 39)).alloc (.cells #[.int .i64 b, .int .i64 e, .int .i64 s, .int .i64 x, .int .i64 (y - x), .int .i64 _] 3) = W0 at *
    have lb := B.out.lt
    have ll := BL.out.lt
    go_loopw [3, 6] (fun x i wr => ∃ k : Nat, i = .int .i64 k ∧ k ≤ 6 ∧ OwnB wr W0.heap.size x (encNs (ns.take k)) ∧ Below W0.heap.size W0 wr) (fun _ i _ => 6 - (intOf i).toNat)
    case atStart => exact ⟨0, rfl, by omega, OwnB.nil _ _, Below.refl _ _⟩
    case round =>
      obtain ⟨j, rfl, hj, ho, hb⟩ := hrel
      have O := Lib.hid ho
      have GW := Lib.hid hb
      have BLw := Lib.hid (BL.out.on hb ll)
      have Bw := Lib.hid (B.out.on hb lb)
      clear ho hb
      have hlen := encNs_len (ns.take j) (fun n hn => Int.le_trans (HB.out n (List.mem_of_mem_take hn)).2 (by omega))
      have hlt2 : (ns.take j).length ≤ 6 := by rw [List.length_take]; omega
      have hol : (encNs (ns.take j)).length ≤ 54 := by omega
      clear hlen hlt2
      by_cases hlt : j < 6
      · have cj := BLw.out.cell j _ (HC.out j (by omega))
        have HS := Lib.hid (encNs_snoc ns j (by omega))
        have hnb := HB.out (ns[j]'(by omega)) (List.getElem_mem _)
        generalize ns[j]'(by omega) = n at *
        have HP := Lib.hid (fun w => ref_put n w (by omega))
        have h9 := encN_nine n.toNat (by omega)
        generalize encN n.toNat = en at *
        generalize encNs (ns.take j) = acc at *
        have hal : acc.length + en.length ≤ 1099511627776 := by omega
        go_wp2_with fail
        refine (HP.out _).mono ?_
        rintro z w2 ⟨v2, rfl, ho2, hb2⟩
        have O := Lib.hid (O.out.on hb2)
        have GW := Lib.hid (GW.out.trans (hb2.mono GW.out.size))
        obtain ⟨A2, c2, e2, -⟩ := own_cap ho2
        subst e2
        have R2 := Lib.hid ho2.rd
        clear ho2 hb2 cj
        go_wp2_with (at_builtin; refine wpl_app_bytes_b rfl (.tmp 36) (.tmp 41) rfl W0.heap.size _ _ _ acc en rfl rfl O.out R2.out GW.out.size hal ?_; intro v3 w3 ho3 hb3)
        have OZ := Lib.hid (show OwnB w3 W0.heap.size v3 (encNs (ns.take (j + 1))) from by rw [HS.out]; exact ho3)
        have GZ := Lib.hid (GW.out.trans hb3)
        clear ho3 hb3
        go_roundw
        case rel => exact ⟨j + 1, by go_num, by omega, OZ.out, GZ.out⟩
        case measure => simp [intOf]; omega
      · have hke : ns.take j = ns := List.take_of_length_le (by omega)
        rw [hke] at O hol
        have c0 := Bw.out.cell 0 (.string k) rfl
        have e1 := EK.out
        have e2 := EV.out
        generalize encNs ns = acc at *
        have hal : acc.length + ek.length ≤ 1099511627776 := by omega
        have hal2 : (acc ++ ek).length + ev.length ≤ 1099511627776 := by rw [List.length_append]; omega
        go_wp2_with fail
        refine (TK.out _).mono ?_
        rintro z w2 ⟨v2, rfl, ho2, hb2⟩
        have O := Lib.hid (O.out.on hb2)
        have GW := Lib.hid (GW.out.trans (hb2.mono GW.out.size))
        have Bw := Lib.hid (B.out.on GW.out lb)
        obtain ⟨A2, c2, e2, -⟩ := own_cap ho2
        subst e2
        have R2 := Lib.hid ho2.rd
        clear ho2 hb2 c0
        go_wp2_with (at_builtin; refine wpl_app_bytes_b rfl (.tmp 43) (.tmp 46) rfl W0.heap.size _ _ _ acc ek rfl rfl O.out R2.out GW.out.size hal ?_; intro v3 w3 ho3 hb3; have i6 := (B.out.on (GW.out.trans hb3) lb).cell 6 (.string u) rfl)
        have O := Lib.hid ho3
        have GW := Lib.hid (GW.out.trans hb3)
        clear ho3 hb3
        refine (TV.out _).mono ?_
        rintro z w4 ⟨v4, rfl, ho4, hb4⟩
        have O := Lib.hid (O.out.on hb4)
        have GW := Lib.hid (GW.out.trans (hb4.mono GW.out.size))
        obtain ⟨A4, c4, e4, -⟩ := own_cap ho4
        subst e4
        have R4 := Lib.hid ho4.rd
        clear ho4 hb4 i6
        go_wp2_with (at_builtin; refine wpl_app_bytes_b rfl (.tmp 48) (.tmp 51) rfl W0.heap.size _ _ _ (acc ++ ek) ev rfl rfl O.out R4.out GW.out.size hal2 ?_; intro v5 w5 ho5 hb5)
        go_ret
        exact ⟨_, rfl, by rw [hen.out]; exact ownB_mono ho5 G.out.size, G.out.trans ((GW.out.trans hb5).mono G.out.size)⟩
end Go.Proofs.Ytecomnklofceaaa
