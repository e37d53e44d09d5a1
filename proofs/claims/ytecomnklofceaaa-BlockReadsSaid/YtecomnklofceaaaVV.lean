/- Plain facts on numbers' bytes, seven bits a byte. -/
import Derived.Test.YtecomnklofceaaaRows
import Derived.Test.YtecomnklofceaaaBB
import Derived.WalkKit
namespace Go.Proofs.Ytecomnklofceaaa
open Go.RowKit

/-- A number's bytes. -/
def encN (n : Nat) : List UInt8 := if n < 128 then [UInt8.ofNat n] else UInt8.ofNat (n % 128 + 128) :: encN (n / 128)
termination_by n
decreasing_by omega

theorem encN_lt {n : Nat} (h : n < 128) : encN n = [UInt8.ofNat n] := by rw [encN, if_pos h]
theorem encN_ge {n : Nat} (h : ¬ n < 128) : encN n = UInt8.ofNat (n % 128 + 128) :: encN (n / 128) := by rw [encN, if_neg h]
theorem encN_len (k n : Nat) (h : n < 128 ^ (k + 1)) : (encN n).length ≤ k + 1 := by
  induction k generalizing n with
  | zero => rw [encN_lt (by simpa using h)]; simp
  | succ k ih =>
    by_cases hn : n < 128
    · rw [encN_lt hn]; simp
    · rw [encN_ge hn, List.length_cons]
      have := ih (n / 128) (by rw [Nat.pow_succ] at h; exact Nat.div_lt_of_lt_mul (by omega))
      omega
theorem encN_nine (n : Nat) (h : n < 9223372036854775808) : (encN n).length ≤ 9 := encN_len 8 n (by simpa using h)
theorem encN_pos (n : Nat) : 0 < (encN n).length := by
  by_cases hn : n < 128
  · rw [encN_lt hn]; simp
  · rw [encN_ge hn]; simp

/-- A number, read: it, how many bytes it has, the error. -/
def rdGo : List UInt8 → Nat → Nat → Nat × Nat × Int
  | [], k, _ => if k = 9 then (0, 0, 2) else (0, 0, 3)
  | c :: t, k, acc => if k = 9 then (0, 0, 2) else if 128 ≤ c.toNat then rdGo t (k + 1) (acc + c.toNat % 128 * 128 ^ k)
    else if 4611686018427387904 ≤ acc + c.toNat % 128 * 128 ^ k ∨ (c.toNat = 0 ∧ 0 < k) then (0, 0, 2) else (acc + c.toNat % 128 * 128 ^ k, k + 1, 0)
def rdN (l : List UInt8) : Nat × Nat × Int := rdGo l 0 0

theorem rdGo_nine (l : List UInt8) (a : Nat) : rdGo l 9 a = (0, 0, 2) := by cases l <;> simp [rdGo]
theorem rdGo_nil (k a : Nat) (h : k ≠ 9) : rdGo [] k a = (0, 0, 3) := by simp [rdGo, h]
theorem rdGo_more (c : UInt8) (t : List UInt8) (k a : Nat) (h : k ≠ 9) (hc : 128 ≤ c.toNat) : rdGo (c :: t) k a = rdGo t (k + 1) (a + c.toNat % 128 * 128 ^ k) := by
  rw [rdGo, if_neg h, if_pos hc]
theorem rdGo_bad (c : UInt8) (t : List UInt8) (k a : Nat) (h : k ≠ 9) (hc : ¬ 128 ≤ c.toNat) (hb : 4611686018427387904 ≤ a + c.toNat % 128 * 128 ^ k ∨ (c.toNat = 0 ∧ 0 < k)) : rdGo (c :: t) k a = (0, 0, 2) := by
  rw [rdGo, if_neg h, if_neg hc, if_pos hb]
theorem rdGo_end (c : UInt8) (t : List UInt8) (k a : Nat) (h : k ≠ 9) (hc : ¬ 128 ≤ c.toNat) (hb : ¬ (4611686018427387904 ≤ a + c.toNat % 128 * 128 ^ k ∨ (c.toNat = 0 ∧ 0 < k))) : rdGo (c :: t) k a = (a + c.toNat % 128 * 128 ^ k, k + 1, 0) := by
  rw [rdGo, if_neg h, if_neg hc, if_neg hb]
end Go.Proofs.Ytecomnklofceaaa
/- Layer 2: a number's bytes, put behind a row. -/
namespace Go.Proofs.Ytecomnklofceaaa
open Go.RowKit
set_option linter.unusedVariables false

theorem one_bv (n : Int) (k : Nat) (h : k < 256) (hn : n = (k : Int)) : #[Value.int .u8 n] = (bv [UInt8.ofNat k]).toArray := by subst hn; simp [bv]; omega

set_option maxHeartbeats 400000 in
theorem clone_any (v : Value) (l : List UInt8) (w : World) (h : RdB w w.heap.size v l) (hl : l.length ≤ 549755813888) :
    Calls Try.prog 40 #[v] w fun e w' => ∃ v', e = .returned v' ∧ OwnB w' w.heap.size v' l ∧ Below w.heap.size w w' := by
  have H := Lib.hid h
  obtain ⟨A, c, rfl, hlc, hc, h3⟩ := h
  have hq := fun W => Lib.run_eql_slice_nil (P := Try.prog) W 24 5 A l.length c 0 0 Try.underlying24
  cases A with
  | none =>
    have h0 : l.length = 0 := by
      rcases Nat.eq_zero_or_pos l.length with h0 | h0
      · exact h0
      · obtain ⟨b, o, e, _⟩ := h3 h0; cases e
    have h1 := Lib.hid (List.eq_nil_of_length_eq_zero h0)
    clear h3 h0
    go_enter Try.func40, Try.ntmps40
    go_wp2
    go_ret
    refine ⟨_, rfl, ?_, by go_grown⟩
    rw [h1.out]; exact OwnB.nil _ _
  | some p =>
    clear h3
    have H2 := Lib.hid ((H.out.on (alloc_below w (.cells #[] 5))))
    go_enter Try.func40, Try.ntmps40
    go_wp2_with (at_builtin; refine wpl_app_bytes rfl (.tmp 5) (.tmp 6) rfl w.heap.size _ _ _ [] l rfl rfl (own_new w _ [] 0 rfl rfl (by simp)) H2.out ?_ ?_ ?_; rotate_left 2; intro v1 w1 ho1 hg1 hs1)
    · go_ret
      exact ⟨v1, rfl, ho1, (alloc_below w _).trans (hg1.below (by simp) (OwnB.base (own_new w _ [] 0 rfl rfl (by simp))))⟩
    all_goals first | omega | (simp; done) | (simp; omega)

set_option maxHeartbeats 400000 in
set_option maxRecDepth 100000 in
theorem put_number (base : Nat) (v : Value) (l : List UInt8) (n : Nat) (w : World) (h : OwnB w base v l) (hb : base ≤ w.heap.size) (hl : l.length ≤ 549755813888) (hn : n < 9223372036854775808) :
    Calls Try.prog 41 #[v, .int .i64 n] w fun e w' => ∃ v', e = .returned v' ∧ OwnB w' base v' (l ++ encN n) ∧ Grew w w' v v' := by
  have hlen := encN_nine n hn
  go_enter Try.func41, Try.ntmps41
  go_wp2
  go_loopw [0, 1] (fun x i wr => ∃ (k : Nat) (s : List UInt8), k ≤ n ∧ i = .int .i64 k ∧ s ++ encN k = encN n ∧ OwnB wr base x (l ++ s) ∧ Grew w wr v x) (fun _ i _ => (intOf i).toNat)
  case atStart => exact ⟨n, [], Nat.le_refl _, rfl, rfl, by simpa using h, Grew.refl _ _⟩
  case round =>
    obtain ⟨k, s, hk, rfl, he, ho, hg⟩ := hrel
    have hgs := hg.grown.size
    have hsl : s.length + (encN k).length ≤ 9 := by rw [← List.length_append, he]; exact hlen
    have hkp := encN_pos k
    have hs8 : s.length ≤ 8 := by omega
    have HG := Lib.hid hg
    by_cases h128 : k < 128
    · rw [encN_lt h128] at he
      have HE := Lib.hid he
      clear hg he hlen hkp hsl
      go_wp2_with (at_builtin; refine wpl_app rfl (.tmp 16) (.tmp 19) rfl base _ _ [UInt8.ofNat k] _ _ _ ?_ rfl rfl rfl ho ?_ ?_ ?_; rotate_left 3; intro v1 w1 ho1 hg1 hs1)
      · go_ret
        rw [List.append_assoc, HE.out] at ho1
        exact ⟨v1, rfl, ho1, HG.out.trans hg1⟩
      all_goals first | omega | exact one_bv _ _ (by omega) (by omega) | (simp only [List.length_append, List.length_cons, List.length_nil]; omega)
    · rw [encN_ge h128] at he
      have HE := Lib.hid he
      clear hg he hlen hkp hsl
      go_wp2_with (at_builtin; refine wpl_app rfl (.tmp 7) (.tmp 12) rfl base _ _ [UInt8.ofNat (k % 128 + 128)] _ _ _ ?_ rfl rfl rfl ho ?_ ?_ ?_; rotate_left 3; intro v1 w1 ho1 hg1 hs1)
      · go_roundw
        case rel => exact ⟨k / 128, s ++ [UInt8.ofNat (k % 128 + 128)], by omega, by go_num, by rw [← HE.out]; simp, by rw [← List.append_assoc]; exact ho1, HG.out.trans hg1⟩
        case measure => simp [intOf]; omega
      all_goals first | omega | exact one_bv _ _ (by omega) (by omega) | (simp only [List.length_append, List.length_cons, List.length_nil]; omega)
end Go.Proofs.Ytecomnklofceaaa
/- Layer 2: a number's bytes, and a text's, as the document's answer makes them. -/
namespace Go.Proofs.Ytecomnklofceaaa
open Go.RowKit
set_option linter.unusedVariables false

set_option maxHeartbeats 400000 in
set_option maxRecDepth 100000 in
theorem ref_put_nat (n : Nat) : ∀ (w : World), n < 9223372036854775808 →
    Calls Try.prog 31 #[.int .i64 n] w fun e w' => ∃ v', e = .returned v' ∧ OwnB w' w.heap.size v' (encN n) ∧ Below w.heap.size w w' := by
  induction n using Nat.strongRecOn with
  | ind n ih =>
    intro w hn
    by_cases h128 : n < 128
    · have HE := Lib.hid (encN_lt h128)
      go_enter Try.func31, Try.ntmps31
      go_wp2
      go_ret
      rw [HE.out]
      exact ⟨_, rfl, own_new w _ _ 1 (one_bv _ _ (by omega) rfl) rfl (by simp), alloc_below w _⟩
    · have HE := Lib.hid (encN_ge h128)
      have IH := Lib.hid (fun w => ih (n / 128) (by omega) w (by omega))
      have hlen := encN_nine (n / 128) (by omega)
      have HL := Lib.hid hlen
      clear ih hlen
      go_enter Try.func31, Try.ntmps31
      go_wp2_with (first
        | (go_at_call 31; refine (IH.out _).mono ?_; rintro e w1 ⟨v1, rfl, ho1, hb1⟩)
        | (at_builtin; refine wpl_app_bytes_b rfl (.tmp 16) (.tmp 19) rfl w.heap.size _ _ _ [UInt8.ofNat (n % 128 + 128)] (encN (n / 128)) rfl rfl (OwnB.on (own_new w _ _ 1 (one_bv _ _ (by omega) (by omega)) rfl (by simp)) hb1) ho1.rd ?_ ?_ ?_; rotate_left 2; intro v2 w2 ho2 hb2))
      · go_ret
        rw [HE.out]
        exact ⟨v2, rfl, ho2, ((alloc_below w _).trans (hb1.mono (by simp))).trans hb2⟩
      · have := hb1.size; simp at this; omega
      · have := HL.out; simp; omega

set_option maxHeartbeats 400000 in
theorem ref_put (n : Int) (w : World) (hn : n ≤ 9223372036854775807) :
    Calls Try.prog 31 #[.int .i64 n] w fun e w' => ∃ v', e = .returned v' ∧ OwnB w' w.heap.size v' (encN n.toNat) ∧ Below w.heap.size w w' := by
  by_cases h0 : 0 ≤ n
  · obtain ⟨k, rfl⟩ := Int.eq_ofNat_of_zero_le h0
    exact ref_put_nat k w (by omega)
  · have he : n.toNat = 0 := by omega
    rw [he, encN_lt (by omega)]
    clear he
    go_enter Try.func31, Try.ntmps31
    go_wp2
    go_ret
    exact ⟨_, rfl, own_new w _ _ 1 (one_bv _ 0 (by omega) (by simp)) rfl (by simp), alloc_below w _⟩

/-- A text's length, and it. -/
def encT (s : ByteArray) : List UInt8 := encN s.size ++ s.data.toList

set_option maxHeartbeats 400000 in
theorem ref_text (s : ByteArray) (w : World) (hs : s.size ≤ 137438953472) :
    Calls Try.prog 32 #[.string s] w fun e w' => ∃ v', e = .returned v' ∧ OwnB w' w.heap.size v' (encT s) ∧ Below w.heap.size w w' := by
  have HL := Lib.hid (encN_nine s.size (by omega))
  go_enter Try.func32, Try.ntmps32
  go_wp2_with (first
    | (go_at_call 31; refine (ref_put_nat s.size _ (by omega)).mono ?_; rintro e w1 ⟨v1, rfl, ho1, hb1⟩)
    | (at_builtin; refine wpl_app_str rfl (.tmp 5) (.tmp 6) rfl w.heap.size _ (encN s.size) s rfl rfl ho1 ?_ ?_ ?_; rotate_left 2; intro v2 w2 ho2 hb2))
  · go_ret
    exact ⟨v2, rfl, ho2, hb1.trans hb2⟩
  · exact hb1.size
  · have := HL.out; omega
end Go.Proofs.Ytecomnklofceaaa
/- Layer 2: numbers and texts, put behind bytes. -/
namespace Go.Proofs.Ytecomnklofceaaa
open Go.RowKit
set_option linter.unusedVariables false

def encNs (l : List Int) : List UInt8 := l.flatMap fun n => encN n.toNat
def encTs (l : List ByteArray) : List UInt8 := l.flatMap encT

theorem encNs_len (l : List Int) (h : ∀ n ∈ l, n ≤ 9223372036854775807) : (encNs l).length ≤ 9 * l.length := by
  induction l with
  | nil => simp [encNs]
  | cons n l ih =>
    have h1 := encN_nine n.toNat (by have := h n (by simp); omega)
    have h2 := ih (fun m hm => h m (by simp [hm]))
    simp only [encNs, List.flatMap_cons, List.length_append, List.length_cons] at h2 ⊢
    omega
theorem encNs_snoc (l : List Int) (k : Nat) (h : k < l.length) : encNs (l.take (k + 1)) = encNs (l.take k) ++ encN l[k].toNat := by
  rw [List.take_succ_eq_append_getElem h, encNs, List.flatMap_append]; simp [encNs]
theorem encTs_snoc (l : List ByteArray) (k : Nat) (h : k < l.length) : encTs (l.take (k + 1)) = encTs (l.take k) ++ encT l[k] := by
  rw [List.take_succ_eq_append_getElem h, encTs, List.flatMap_append]; simp [encTs]

theorem encT_len (s : ByteArray) (h : s.size ≤ 1000000) : (encT s).length ≤ s.size + 9 := by
  have := encN_nine s.size (by omega)
  simp only [encT, List.length_append, Array.length_toList, ByteArray.size_data] at *
  omega
theorem encTs_len (l : List ByteArray) (h : ∀ s ∈ l, s.size ≤ 1000000) : (encTs l).length ≤ 1000009 * l.length := by
  induction l with
  | nil => simp [encTs]
  | cons s l ih =>
    have h1 := encT_len s (h s (by simp))
    have h0 := h s (by simp)
    have h2 := ih (fun m hm => h m (by simp [hm]))
    simp only [encTs, List.flatMap_cons, List.length_append, List.length_cons] at h2 ⊢
    omega
theorem max_nat (n : Int) : (if n < 0 then (0 : Int) else n) = (n.toNat : Int) := by split <;> omega

set_option maxHeartbeats 400000 in
set_option maxRecDepth 100000 in
theorem vary_put (v u : Value) (l : List UInt8) (ns : List Int) (w : World) (h : RdB w w.heap.size v l) (hu : RdI w w.heap.size u ns) (hl : l.length ≤ 137438953472) (hn : ∀ n ∈ ns, n ≤ 9223372036854775807) (hk : ns.length ≤ 1000000) :
    Calls Try.prog 24 #[v, u] w fun e w' => ∃ v', e = .returned v' ∧ OwnB w' w.heap.size v' (l ++ encNs ns) ∧ Below w.heap.size w w' := by
  have H := Lib.hid h
  have HU := Lib.hid hu
  have HN := Lib.hid hn
  obtain ⟨A, c, rfl, hlc, hc, -⟩ := hu
  clear h hn
  go_enter Try.func24, Try.ntmps24
  go_wp2_with (go_at_call 40; refine (clone_any _ l _ H.out (by omega)).mono ?_; rintro e w1 ⟨v1, rfl, ho1, hb1⟩)
  go_loopw [5, 12] (fun x i wr => ∃ k : Nat, k ≤ ns.length ∧ i = .int .i64 k ∧ OwnB wr w.heap.size x (l ++ encNs (ns.take k)) ∧ Below w.heap.size w wr) (fun _ i _ => ns.length - (intOf i).toNat)
  case atStart => exact ⟨0, Nat.zero_le _, rfl, by simpa [encNs] using ho1, hb1⟩
  case round =>
    obtain ⟨k, hkn, rfl, ho, hbw⟩ := hrel
    have hgs := hbw.size
    have HW := Lib.hid hbw
    have HO := Lib.hid ho
    have hel := encNs_len (ns.take k) (fun n hn => HN.out n (List.mem_of_mem_take hn))
    have hel2 : (l ++ encNs (ns.take k)).length ≤ l.length + 9 * k := by
      rw [List.length_take] at hel; rw [List.length_append]; omega
    have HL := Lib.hid hel2
    clear hel hel2 ho hbw ho1 hb1
    by_cases hlt : k < ns.length
    · obtain ⟨A', c', e1, _, _, hcell⟩ := HU.out.below HW.out
      obtain ⟨b, o, rfl, hb, hcell2⟩ := hcell (by omega)
      cases e1
      have c1 : wr.cell? ⟨b, o + k, none⟩ = some (.int .i64 ns[k]) := hcell2 k ns[k] (List.getElem?_eq_getElem hlt)
      have HS := Lib.hid (encNs_snoc ns k hlt)
      have hnb := HN.out ns[k] (List.getElem_mem hlt)
      generalize ns[k] = n at c1 HS hnb
      clear hcell hcell2
      go_wp2_with (go_at_call 41; rw [max_nat n]; refine (put_number w.heap.size _ _ n.toNat _ HO.out ?_ ?_ ?_).mono ?_; rotate_left 3; rintro e w2 ⟨v2, rfl, ho2, hg2⟩)
      · go_roundw
        case rel => exact ⟨k + 1, by omega, by go_num, by rw [HS.out, ← List.append_assoc]; exact ho2, HW.out.trans (hg2.below (by omega) (OwnB.base HO.out))⟩
        case measure => simp [intOf]; omega
      all_goals (have := HL.out; omega)
    · have hke := Lib.hid (show ns.take k = ns from List.take_of_length_le (by omega))
      go_wp2
      go_ret
      refine ⟨_, rfl, ?_, HW.out⟩
      have := HO.out
      rw [hke.out] at this
      exact this

set_option maxHeartbeats 400000 in
set_option maxRecDepth 100000 in
theorem vary_text (v u : Value) (l : List UInt8) (ts : List ByteArray) (w : World) (h : RdB w w.heap.size v l) (hu : RdS w w.heap.size u ts) (hl : l.length ≤ 137438953472) (hn : ∀ s ∈ ts, s.size ≤ 1000000) (hk : ts.length ≤ 10000) :
    Calls Try.prog 43 #[v, u] w fun e w' => ∃ v', e = .returned v' ∧ OwnB w' w.heap.size v' (l ++ encTs ts) ∧ Below w.heap.size w w' := by
  have H := Lib.hid h
  have HU := Lib.hid hu
  have HN := Lib.hid hn
  obtain ⟨A, c, rfl, hlc, hc, -⟩ := hu
  clear h hn
  go_enter Try.func43, Try.ntmps43
  go_wp2_with (go_at_call 40; refine (clone_any _ l _ H.out (by omega)).mono ?_; rintro e w1 ⟨v1, rfl, ho1, hb1⟩)
  go_loopw [5, 12] (fun x i wr => ∃ k : Nat, k ≤ ts.length ∧ i = .int .i64 k ∧ OwnB wr w.heap.size x (l ++ encTs (ts.take k)) ∧ Below w.heap.size w wr) (fun _ i _ => ts.length - (intOf i).toNat)
  case atStart => exact ⟨0, Nat.zero_le _, rfl, by simpa [encTs] using ho1, hb1⟩
  case round =>
    obtain ⟨k, hkn, rfl, ho, hbw⟩ := hrel
    have hgs := hbw.size
    have HW := Lib.hid hbw
    have HO := Lib.hid ho
    have hel := encTs_len (ts.take k) (fun n hn => HN.out n (List.mem_of_mem_take hn))
    have hel2 : (l ++ encTs (ts.take k)).length ≤ l.length + 1000009 * k := by
      rw [List.length_take] at hel; rw [List.length_append]; have : min k ts.length = k := by omega
      rw [this] at hel; omega
    have HL := Lib.hid hel2
    clear hel hel2 ho hbw ho1 hb1
    by_cases hlt : k < ts.length
    · obtain ⟨A', c', e1, _, _, hcell⟩ := HU.out.below HW.out
      obtain ⟨b, o, rfl, hb, hcell2⟩ := hcell (by omega)
      cases e1
      have c1 : wr.cell? ⟨b, o + k, none⟩ = some (.string ts[k]) := hcell2 k ts[k] (List.getElem?_eq_getElem hlt)
      have HS := Lib.hid (encTs_snoc ts k hlt)
      have hnb := HN.out ts[k] (List.getElem_mem hlt)
      generalize ts[k] = s at c1 HS hnb
      have hsl := Lib.hid (encN_nine s.size (by omega))
      clear hcell hcell2
      go_wp2_with (first
        | (go_at_call 41; refine (put_number w.heap.size _ _ s.size _ HO.out ?_ ?_ ?_).mono ?_; rotate_left 3; rintro e w2 ⟨v2, rfl, ho2, hg2⟩)
        | (at_builtin; refine wpl_app_str rfl (.tmp 19) (.tmp 20) rfl w.heap.size _ _ s rfl rfl ho2 ?_ ?_ ?_; rotate_left 2; intro v3 w3 ho3 hb3))
      · go_roundw
        case rel =>
          refine ⟨k + 1, by omega, by go_num, ?_, (HW.out.trans (hg2.below (by omega) (OwnB.base HO.out))).trans hb3⟩
          rw [HS.out, encT, ← List.append_assoc, ← List.append_assoc]
          exact ho3
        case measure => simp [intOf]; omega
      all_goals first | (have := HL.out; omega) | (have := hg2.grown.size; omega) | (have := HL.out; have := hsl.out; simp only [List.length_append] at *; omega)
    · have hke := Lib.hid (show ts.take k = ts from List.take_of_length_le (by omega))
      go_wp2
      go_ret
      refine ⟨_, rfl, ?_, HW.out⟩
      have := HO.out
      rw [hke.out] at this
      exact this
end Go.Proofs.Ytecomnklofceaaa
/- Layer 2: numbers turned, and turned back; the document's examples. -/
namespace Go.Proofs.Ytecomnklofceaaa
open Go.RowKit
set_option linter.unusedVariables false

end Go.Proofs.Ytecomnklofceaaa
/- Layer 2: the document's examples. -/
namespace Go.Proofs.Ytecomnklofceaaa
open Go.RowKit
set_option linter.unusedVariables false

end Go.Proofs.Ytecomnklofceaaa
/- Plain facts on numbers' bytes: what is read is what was put; the document's way of reading. -/
namespace Go.Proofs.Ytecomnklofceaaa
open Go.RowKit

/-- The number of seven bits a byte, the lowest first. -/
def valN : List UInt8 → Nat
  | [] => 0
  | c :: t => c.toNat % 128 + 128 * valN t

theorem valN_append (p q : List UInt8) : valN (p ++ q) = valN p + 128 ^ p.length * valN q := by
  induction p with
  | nil => simp [valN]
  | cons c t ih => simp only [List.cons_append, valN, ih, List.length_cons, Nat.pow_succ]; rw [Nat.mul_add, Nat.mul_comm (128 ^ t.length) 128, Nat.mul_assoc]; omega
theorem valN_lt (p : List UInt8) : valN p < 128 ^ p.length := by
  induction p with
  | nil => simp [valN]
  | cons c t ih =>
    simp only [valN, List.length_cons, Nat.pow_succ]
    have : c.toNat % 128 < 128 := Nat.mod_lt _ (by omega)
    omega
theorem rdGo_split (p t : List UInt8) : ∀ (k acc : Nat), (∀ x ∈ p, 128 ≤ x.toNat) → k + p.length ≤ 9 → rdGo (p ++ t) k acc = rdGo t (k + p.length) (acc + valN p * 128 ^ k) := by
  induction p with
  | nil => intro k acc _ _; simp [valN]
  | cons c p ih =>
    intro k acc hp hk
    rw [List.length_cons] at hk
    rw [List.cons_append, rdGo_more c _ k acc (by omega) (hp c (by simp)), ih (k + 1) _ (fun x hx => hp x (by simp [hx])) (by omega)]
    congr 1
    · simp only [List.length_cons]; omega
    · simp only [valN, Nat.pow_succ]
      rw [Nat.add_mul, Nat.mul_comm 128 (valN p), Nat.mul_assoc, Nat.mul_comm (128 ^ k) 128]
      omega
/-- What the document's loop has when k bytes ahead are 128 or more. -/
theorem rdN_at (l : List UInt8) (k : Nat) (hk : k ≤ 9) (hl : k ≤ l.length) (h : ∀ x ∈ l.take k, 128 ≤ x.toNat) : rdN l = rdGo (l.drop k) k (valN (l.take k)) := by
  have hlen : (l.take k).length = k := by rw [List.length_take]; omega
  have := rdGo_split (l.take k) (l.drop k) 0 0 h (by omega)
  rw [List.take_append_drop, hlen] at this
  rw [rdN, this]; simp
theorem encN_len_ge (k n : Nat) (h : 128 ^ k ≤ n) : k + 1 ≤ (encN n).length := by
  induction k generalizing n with
  | zero => exact encN_pos n
  | succ k ih =>
    have h1 : 128 ≤ n := Nat.le_trans (by rw [Nat.pow_succ]; have : 0 < 128 ^ k := Nat.pow_pos (by omega); omega) h
    rw [encN_ge (by omega), List.length_cons]
    have := ih (n / 128) (by rw [Nat.pow_succ] at h; exact (Nat.le_div_iff_mul_le (by omega)).2 h)
    omega
/-- A number of k + 1 bytes, the last c: they are as few as may be just if c is not 0, or it is alone. -/
theorem few_iff (a c k : Nat) (ha : a < 128 ^ k) (hc : c < 128) : (encN (a + c * 128 ^ k)).length = k + 1 ↔ ¬ (c = 0 ∧ 0 < k) := by
  constructor
  · rintro h ⟨rfl, hk⟩
    obtain ⟨j, rfl⟩ : ∃ j, k = j + 1 := ⟨k - 1, by omega⟩
    have := encN_len j (a + 0 * 128 ^ (j + 1)) (by simpa using ha)
    omega
  · intro h
    have h1 : a + c * 128 ^ k < 128 ^ (k + 1) := by
      have := Nat.mul_le_mul_right (128 ^ k) (show c + 1 ≤ 128 from hc)
      rw [Nat.add_mul, Nat.one_mul] at this
      rw [Nat.pow_succ, Nat.mul_comm (128 ^ k) 128]
      omega
    have h2 := encN_len k _ h1
    rcases Nat.eq_zero_or_pos k with rfl | hk
    · have := encN_pos (a + c * 128 ^ 0); omega
    · have hc0 : 1 ≤ c := by omega
      have h3 := encN_len_ge k (a + c * 128 ^ k) (by have := Nat.mul_le_mul_right (128 ^ k) hc0; omega)
      omega

/-- What is put is read. -/
theorem rdGo_enc (n : Nat) : ∀ (k acc : Nat) (r : List UInt8), k + (encN n).length ≤ 9 → acc + n * 128 ^ k < 4611686018427387904 → (n = 0 → k = 0) → rdGo (encN n ++ r) k acc = (acc + n * 128 ^ k, k + (encN n).length, 0) := by
  induction n using Nat.strongRecOn with
  | ind n ih =>
    intro k acc r hk hb h0
    by_cases hn : n < 128
    · rw [encN_lt hn] at hk ⊢
      simp only [List.length_singleton] at hk ⊢
      have e : (UInt8.ofNat n).toNat = n := by rw [UInt8.toNat_ofNat']; omega
      rw [List.singleton_append, rdGo_end _ _ k acc (by omega) (by rw [e]; omega) (by rw [e, Nat.mod_eq_of_lt hn]; omega), e, Nat.mod_eq_of_lt hn]
    · rw [encN_ge hn] at hk ⊢
      simp only [List.length_cons] at hk ⊢
      have e : (UInt8.ofNat (n % 128 + 128)).toNat = n % 128 + 128 := by rw [UInt8.toNat_ofNat']; omega
      have e2 : acc + (n % 128 + 128) % 128 * 128 ^ k + n / 128 * 128 ^ (k + 1) = acc + n * 128 ^ k := by
        have : (n % 128 + 128) % 128 = n % 128 := by omega
        rw [this, Nat.pow_succ, Nat.mul_comm (128 ^ k) 128, ← Nat.mul_assoc, Nat.add_assoc, ← Nat.add_mul]
        congr 2
        omega
      rw [List.cons_append, rdGo_more _ _ k acc (by omega) (by rw [e]; omega), e, ih (n / 128) (by omega) (k + 1) _ r (by omega) (by omega) (by omega), e2]
      congr 2
      omega
theorem rdN_enc (n : Nat) (r : List UInt8) (h : n < 4611686018427387904) : rdN (encN n ++ r) = (n, (encN n).length, 0) := by
  have := rdGo_enc n 0 0 r (by have := encN_nine n (by omega); omega) (by omega) (fun _ => rfl)
  rw [rdN, this]; simp

theorem rdGo_size (l : List UInt8) : ∀ (k acc : Nat), (rdGo l k acc).2.2 = 0 → (rdGo l k acc).2.1 ≤ k + l.length ∧ (rdGo l k acc).1 < 4611686018427387904 := by
  induction l with
  | nil => intro k acc h; exfalso; revert h; rw [rdGo]; split <;> simp
  | cons c t ih =>
    intro k acc
    rw [rdGo]
    split
    · simp
    · split
      · intro h
        have := ih _ _ h
        rw [List.length_cons]
        exact ⟨by omega, this.2⟩
      · split
        · simp
        · rename_i h9 hc hb
          intro _
          rw [List.length_cons]
          exact ⟨by simp, by simp only at *; omega⟩
theorem rdGo_zero (l : List UInt8) : ∀ (k acc : Nat), (rdGo l k acc).2.2 ≠ 0 → (rdGo l k acc).1 = 0 := by
  induction l with
  | nil => intro k acc; rw [rdGo]; split <;> simp
  | cons c t ih =>
    intro k acc
    rw [rdGo]
    split
    · simp
    · split
      · exact ih _ _
      · split <;> simp
theorem rdN_size (l : List UInt8) (h : (rdN l).2.2 = 0) : (rdN l).2.1 ≤ l.length ∧ (rdN l).1 < 4611686018427387904 := by
  have := rdGo_size l 0 0 h
  exact ⟨by have := this.1; rw [Nat.zero_add] at this; exact this, this.2⟩
theorem rdN_zero (l : List UInt8) (h : (rdN l).2.2 ≠ 0) : (rdN l).1 = 0 := rdGo_zero l 0 0 h
end Go.Proofs.Ytecomnklofceaaa
