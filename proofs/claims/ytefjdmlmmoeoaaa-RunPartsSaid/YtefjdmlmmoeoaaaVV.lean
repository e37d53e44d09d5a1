/- Plain facts on numbers' bytes, seven bits a byte. -/
import Derived.Test.YtefjdmlmmoeoaaaRows
import Derived.Test.YtefjdmlmmoeoaaaBstr
import Derived.WalkKit
namespace Go.Proofs.Ytefjdmlmmoeoaaa
open Go.RowKit

/-- A number's bytes. -/
def encN (n : Nat) : List UInt8 := if n < 128 then [UInt8.ofNat n] else UInt8.ofNat (n % 128 + 128) :: encN (n / 128)
termination_by n
decreasing_by omega

theorem encN_lt {n : Nat} (h : n < 128) : encN n = [UInt8.ofNat n] := by rw [encN, if_pos h]
theorem encN_ge {n : Nat} (h : ¬ n < 128) : encN n = UInt8.ofNat (n % 128 + 128) :: encN (n / 128) := by rw [encN, if_neg h]
theorem encN_len (k n : Nat) (h : n < 128 ^ (k + 1)) : (encN n).length ≤ k + 1 := by
  induction k generalizing n with
  | zero => rw [encN_lt (by simpa using h)]; simp
  | succ k ih =>
    by_cases hn : n < 128
    · rw [encN_lt hn]; simp
    · rw [encN_ge hn, List.length_cons]
      have := ih (n / 128) (by rw [Nat.pow_succ] at h; exact Nat.div_lt_of_lt_mul (by omega))
      omega
theorem encN_nine (n : Nat) (h : n < 9223372036854775808) : (encN n).length ≤ 9 := encN_len 8 n (by simpa using h)
theorem encN_pos (n : Nat) : 0 < (encN n).length := by
  by_cases hn : n < 128
  · rw [encN_lt hn]; simp
  · rw [encN_ge hn]; simp

/-- A number, read: it, how many bytes it has, the error. -/
def rdGo : List UInt8 → Nat → Nat → Nat × Nat × Int
  | [], k, _ => if k = 9 then (0, 0, 2) else (0, 0, 3)
  | c :: t, k, acc => if k = 9 then (0, 0, 2) else if 128 ≤ c.toNat then rdGo t (k + 1) (acc + c.toNat % 128 * 128 ^ k)
    else if 4611686018427387904 ≤ acc + c.toNat % 128 * 128 ^ k ∨ (c.toNat = 0 ∧ 0 < k) then (0, 0, 2) else (acc + c.toNat % 128 * 128 ^ k, k + 1, 0)
def rdN (l : List UInt8) : Nat × Nat × Int := rdGo l 0 0

theorem rdGo_nine (l : List UInt8) (a : Nat) : rdGo l 9 a = (0, 0, 2) := by cases l <;> simp [rdGo]
theorem rdGo_nil (k a : Nat) (h : k ≠ 9) : rdGo [] k a = (0, 0, 3) := by simp [rdGo, h]
theorem rdGo_more (c : UInt8) (t : List UInt8) (k a : Nat) (h : k ≠ 9) (hc : 128 ≤ c.toNat) : rdGo (c :: t) k a = rdGo t (k + 1) (a + c.toNat % 128 * 128 ^ k) := by
  rw [rdGo, if_neg h, if_pos hc]
theorem rdGo_bad (c : UInt8) (t : List UInt8) (k a : Nat) (h : k ≠ 9) (hc : ¬ 128 ≤ c.toNat) (hb : 4611686018427387904 ≤ a + c.toNat % 128 * 128 ^ k ∨ (c.toNat = 0 ∧ 0 < k)) : rdGo (c :: t) k a = (0, 0, 2) := by
  rw [rdGo, if_neg h, if_neg hc, if_pos hb]
theorem rdGo_end (c : UInt8) (t : List UInt8) (k a : Nat) (h : k ≠ 9) (hc : ¬ 128 ≤ c.toNat) (hb : ¬ (4611686018427387904 ≤ a + c.toNat % 128 * 128 ^ k ∨ (c.toNat = 0 ∧ 0 < k))) : rdGo (c :: t) k a = (a + c.toNat % 128 * 128 ^ k, k + 1, 0) := by
  rw [rdGo, if_neg h, if_neg hc, if_neg hb]
end Go.Proofs.Ytefjdmlmmoeoaaa
/- Layer 2: a number's bytes, put behind a row. -/
namespace Go.Proofs.Ytefjdmlmmoeoaaa
open Go.RowKit
set_option linter.unusedVariables false

theorem one_bv (n : Int) (k : Nat) (h : k < 256) (hn : n = (k : Int)) : #[Value.int .u8 n] = (bv [UInt8.ofNat k]).toArray := by subst hn; simp [bv]; omega

set_option maxHeartbeats 400000 in
theorem clone_any (v : Value) (l : List UInt8) (w : World) (h : RdB w w.heap.size v l) (hl : l.length ≤ 549755813888) :
    Calls Try.prog 54 #[v] w fun e w' => ∃ v', e = .returned v' ∧ OwnB w' w.heap.size v' l ∧ Below w.heap.size w w' := by
  have H := Lib.hid h
  obtain ⟨A, c, rfl, hlc, hc, h3⟩ := h
  have hq := fun W => Lib.run_eql_slice_nil (P := Try.prog) W 24 5 A l.length c 0 0 Try.underlying24
  cases A with
  | none =>
    have h0 : l.length = 0 := by
      rcases Nat.eq_zero_or_pos l.length with h0 | h0
      · exact h0
      · obtain ⟨b, o, e, _⟩ := h3 h0; cases e
    have h1 := Lib.hid (List.eq_nil_of_length_eq_zero h0)
    clear h3 h0
    go_enter Try.func54, Try.ntmps54
    go_wp2
    go_ret
    refine ⟨_, rfl, ?_, by go_grown⟩
    rw [h1.out]; exact OwnB.nil _ _
  | some p =>
    clear h3
    have H2 := Lib.hid ((H.out.on (alloc_below w (.cells #[] 5))))
    go_enter Try.func54, Try.ntmps54
    go_wp2_with (at_builtin; refine wpl_app_bytes rfl (.tmp 5) (.tmp 6) rfl w.heap.size _ _ _ [] l rfl rfl (own_new w _ [] 0 rfl rfl (by simp)) H2.out ?_ ?_ ?_; rotate_left 2; intro v1 w1 ho1 hg1 hs1)
    · go_ret
      exact ⟨v1, rfl, ho1, (alloc_below w _).trans (hg1.below (by simp) (OwnB.base (own_new w _ [] 0 rfl rfl (by simp))))⟩
    all_goals first | omega | (simp; done) | (simp; omega)

set_option maxHeartbeats 400000 in
set_option maxRecDepth 100000 in
theorem put_number (base : Nat) (v : Value) (l : List UInt8) (n : Nat) (w : World) (h : OwnB w base v l) (hb : base ≤ w.heap.size) (hl : l.length ≤ 549755813888) (hn : n < 9223372036854775808) :
    Calls Try.prog 55 #[v, .int .i64 n] w fun e w' => ∃ v', e = .returned v' ∧ OwnB w' base v' (l ++ encN n) ∧ Grew w w' v v' := by
  have hlen := encN_nine n hn
  go_enter Try.func55, Try.ntmps55
  go_wp2
  go_loopw [0, 1] (fun x i wr => ∃ (k : Nat) (s : List UInt8), k ≤ n ∧ i = .int .i64 k ∧ s ++ encN k = encN n ∧ OwnB wr base x (l ++ s) ∧ Grew w wr v x) (fun _ i _ => (intOf i).toNat)
  case atStart => exact ⟨n, [], Nat.le_refl _, rfl, rfl, by simpa using h, Grew.refl _ _⟩
  case round =>
    obtain ⟨k, s, hk, rfl, he, ho, hg⟩ := hrel
    have hgs := hg.grown.size
    have hsl : s.length + (encN k).length ≤ 9 := by rw [← List.length_append, he]; exact hlen
    have hkp := encN_pos k
    have hs8 : s.length ≤ 8 := by omega
    have HG := Lib.hid hg
    by_cases h128 : k < 128
    · rw [encN_lt h128] at he
      have HE := Lib.hid he
      clear hg he hlen hkp hsl
      go_wp2_with (at_builtin; refine wpl_app rfl (.tmp 16) (.tmp 19) rfl base _ _ [UInt8.ofNat k] _ _ _ ?_ rfl rfl rfl ho ?_ ?_ ?_; rotate_left 3; intro v1 w1 ho1 hg1 hs1)
      · go_ret
        rw [List.append_assoc, HE.out] at ho1
        exact ⟨v1, rfl, ho1, HG.out.trans hg1⟩
      all_goals first | omega | exact one_bv _ _ (by omega) (by omega) | (simp only [List.length_append, List.length_cons, List.length_nil]; omega)
    · rw [encN_ge h128] at he
      have HE := Lib.hid he
      clear hg he hlen hkp hsl
      go_wp2_with (at_builtin; refine wpl_app rfl (.tmp 7) (.tmp 12) rfl base _ _ [UInt8.ofNat (k % 128 + 128)] _ _ _ ?_ rfl rfl rfl ho ?_ ?_ ?_; rotate_left 3; intro v1 w1 ho1 hg1 hs1)
      · go_roundw
        case rel => exact ⟨k / 128, s ++ [UInt8.ofNat (k % 128 + 128)], by omega, by go_num, by rw [← HE.out]; simp, by rw [← List.append_assoc]; exact ho1, HG.out.trans hg1⟩
        case measure => simp [intOf]; omega
      all_goals first | omega | exact one_bv _ _ (by omega) (by omega) | (simp only [List.length_append, List.length_cons, List.length_nil]; omega)
end Go.Proofs.Ytefjdmlmmoeoaaa
/- Layer 2: a number's bytes, and a text's, as the document's answer makes them. -/
namespace Go.Proofs.Ytefjdmlmmoeoaaa
open Go.RowKit
set_option linter.unusedVariables false

set_option maxHeartbeats 400000 in
set_option maxRecDepth 100000 in
theorem ref_put_nat (n : Nat) : ∀ (w : World), n < 9223372036854775808 →
    Calls Try.prog 39 #[.int .i64 n] w fun e w' => ∃ v', e = .returned v' ∧ OwnB w' w.heap.size v' (encN n) ∧ Below w.heap.size w w' := by
  induction n using Nat.strongRecOn with
  | ind n ih =>
    intro w hn
    by_cases h128 : n < 128
    · have HE := Lib.hid (encN_lt h128)
      go_enter Try.func39, Try.ntmps39
      go_wp2
      go_ret
      rw [HE.out]
      exact ⟨_, rfl, own_new w _ _ 1 (one_bv _ _ (by omega) rfl) rfl (by simp), alloc_below w _⟩
    · have HE := Lib.hid (encN_ge h128)
      have IH := Lib.hid (fun w => ih (n / 128) (by omega) w (by omega))
      have hlen := encN_nine (n / 128) (by omega)
      have HL := Lib.hid hlen
      clear ih hlen
      go_enter Try.func39, Try.ntmps39
      go_wp2_with (first
        | (go_at_call 39; refine (IH.out _).mono ?_; rintro e w1 ⟨v1, rfl, ho1, hb1⟩)
        | (at_builtin; refine wpl_app_bytes_b rfl (.tmp 16) (.tmp 19) rfl w.heap.size _ _ _ [UInt8.ofNat (n % 128 + 128)] (encN (n / 128)) rfl rfl (OwnB.on (own_new w _ _ 1 (one_bv _ _ (by omega) (by omega)) rfl (by simp)) hb1) ho1.rd ?_ ?_ ?_; rotate_left 2; intro v2 w2 ho2 hb2))
      · go_ret
        rw [HE.out]
        exact ⟨v2, rfl, ho2, ((alloc_below w _).trans (hb1.mono (by simp))).trans hb2⟩
      · have := hb1.size; simp at this; omega
      · have := HL.out; simp; omega

set_option maxHeartbeats 400000 in
theorem ref_put (n : Int) (w : World) (hn : n ≤ 9223372036854775807) :
    Calls Try.prog 39 #[.int .i64 n] w fun e w' => ∃ v', e = .returned v' ∧ OwnB w' w.heap.size v' (encN n.toNat) ∧ Below w.heap.size w w' := by
  by_cases h0 : 0 ≤ n
  · obtain ⟨k, rfl⟩ := Int.eq_ofNat_of_zero_le h0
    exact ref_put_nat k w (by omega)
  · have he : n.toNat = 0 := by omega
    rw [he, encN_lt (by omega)]
    clear he
    go_enter Try.func39, Try.ntmps39
    go_wp2
    go_ret
    exact ⟨_, rfl, own_new w _ _ 1 (one_bv _ 0 (by omega) (by simp)) rfl (by simp), alloc_below w _⟩

/-- A text's length, and it. -/
def encT (s : ByteArray) : List UInt8 := encN s.size ++ s.data.toList

set_option maxHeartbeats 400000 in
theorem ref_text (s : ByteArray) (w : World) (hs : s.size ≤ 137438953472) :
    Calls Try.prog 38 #[.string s] w fun e w' => ∃ v', e = .returned v' ∧ OwnB w' w.heap.size v' (encT s) ∧ Below w.heap.size w w' := by
  have HL := Lib.hid (encN_nine s.size (by omega))
  go_enter Try.func38, Try.ntmps38
  go_wp2_with (first
    | (go_at_call 39; refine (ref_put_nat s.size _ (by omega)).mono ?_; rintro e w1 ⟨v1, rfl, ho1, hb1⟩)
    | (at_builtin; refine wpl_app_str rfl (.tmp 5) (.tmp 6) rfl w.heap.size _ (encN s.size) s rfl rfl ho1 ?_ ?_ ?_; rotate_left 2; intro v2 w2 ho2 hb2))
  · go_ret
    exact ⟨v2, rfl, ho2, hb1.trans hb2⟩
  · exact hb1.size
  · have := HL.out; omega
end Go.Proofs.Ytefjdmlmmoeoaaa
/- Layer 2: numbers and texts, put behind bytes. -/
namespace Go.Proofs.Ytefjdmlmmoeoaaa
open Go.RowKit
set_option linter.unusedVariables false

def encNs (l : List Int) : List UInt8 := l.flatMap fun n => encN n.toNat
def encTs (l : List ByteArray) : List UInt8 := l.flatMap encT

theorem encNs_len (l : List Int) (h : ∀ n ∈ l, n ≤ 9223372036854775807) : (encNs l).length ≤ 9 * l.length := by
  induction l with
  | nil => simp [encNs]
  | cons n l ih =>
    have h1 := encN_nine n.toNat (by have := h n (by simp); omega)
    have h2 := ih (fun m hm => h m (by simp [hm]))
    simp only [encNs, List.flatMap_cons, List.length_append, List.length_cons] at h2 ⊢
    omega
theorem encNs_snoc (l : List Int) (k : Nat) (h : k < l.length) : encNs (l.take (k + 1)) = encNs (l.take k) ++ encN l[k].toNat := by
  rw [List.take_succ_eq_append_getElem h, encNs, List.flatMap_append]; simp [encNs]
theorem encTs_snoc (l : List ByteArray) (k : Nat) (h : k < l.length) : encTs (l.take (k + 1)) = encTs (l.take k) ++ encT l[k] := by
  rw [List.take_succ_eq_append_getElem h, encTs, List.flatMap_append]; simp [encTs]

theorem encT_len (s : ByteArray) (h : s.size ≤ 1000000) : (encT s).length ≤ s.size + 9 := by
  have := encN_nine s.size (by omega)
  simp only [encT, List.length_append, Array.length_toList, ByteArray.size_data] at *
  omega
theorem encTs_len (l : List ByteArray) (h : ∀ s ∈ l, s.size ≤ 1000000) : (encTs l).length ≤ 1000009 * l.length := by
  induction l with
  | nil => simp [encTs]
  | cons s l ih =>
    have h1 := encT_len s (h s (by simp))
    have h0 := h s (by simp)
    have h2 := ih (fun m hm => h m (by simp [hm]))
    simp only [encTs, List.flatMap_cons, List.length_append, List.length_cons] at h2 ⊢
    omega
theorem max_nat (n : Int) : (if n < 0 then (0 : Int) else n) = (n.toNat : Int) := by split <;> omega

set_option maxHeartbeats 400000 in
set_option maxRecDepth 100000 in
theorem vary_put (v u : Value) (l : List UInt8) (ns : List Int) (w : World) (h : RdB w w.heap.size v l) (hu : RdI w w.heap.size u ns) (hl : l.length ≤ 137438953472) (hn : ∀ n ∈ ns, n ≤ 9223372036854775807) (hk : ns.length ≤ 1000000) :
    Calls Try.prog 31 #[v, u] w fun e w' => ∃ v', e = .returned v' ∧ OwnB w' w.heap.size v' (l ++ encNs ns) ∧ Below w.heap.size w w' := by
  have H := Lib.hid h
  have HU := Lib.hid hu
  have HN := Lib.hid hn
  obtain ⟨A, c, rfl, hlc, hc, -⟩ := hu
  clear h hn
  go_enter Try.func31, Try.ntmps31
  go_wp2_with (go_at_call 54; refine (clone_any _ l _ H.out (by omega)).mono ?_; rintro e w1 ⟨v1, rfl, ho1, hb1⟩)
  go_loopw [5, 12] (fun x i wr => ∃ k : Nat, k ≤ ns.length ∧ i = .int .i64 k ∧ OwnB wr w.heap.size x (l ++ encNs (ns.take k)) ∧ Below w.heap.size w wr) (fun _ i _ => ns.length - (intOf i).toNat)
  case atStart => exact ⟨0, Nat.zero_le _, rfl, by simpa [encNs] using ho1, hb1⟩
  case round =>
    obtain ⟨k, hkn, rfl, ho, hbw⟩ := hrel
    have hgs := hbw.size
    have HW := Lib.hid hbw
    have HO := Lib.hid ho
    have hel := encNs_len (ns.take k) (fun n hn => HN.out n (List.mem_of_mem_take hn))
    have hel2 : (l ++ encNs (ns.take k)).length ≤ l.length + 9 * k := by
      rw [List.length_take] at hel; rw [List.length_append]; omega
    have HL := Lib.hid hel2
    clear hel hel2 ho hbw ho1 hb1
    by_cases hlt : k < ns.length
    · obtain ⟨A', c', e1, _, _, hcell⟩ := HU.out.below HW.out
      obtain ⟨b, o, rfl, hb, hcell2⟩ := hcell (by omega)
      cases e1
      have c1 : wr.cell? ⟨b, o + k, none⟩ = some (.int .i64 ns[k]) := hcell2 k ns[k] (List.getElem?_eq_getElem hlt)
      have HS := Lib.hid (encNs_snoc ns k hlt)
      have hnb := HN.out ns[k] (List.getElem_mem hlt)
      generalize ns[k] = n at c1 HS hnb
      clear hcell hcell2
      go_wp2_with (go_at_call 55; rw [max_nat n]; refine (put_number w.heap.size _ _ n.toNat _ HO.out ?_ ?_ ?_).mono ?_; rotate_left 3; rintro e w2 ⟨v2, rfl, ho2, hg2⟩)
      · go_roundw
        case rel => exact ⟨k + 1, by omega, by go_num, by rw [HS.out, ← List.append_assoc]; exact ho2, HW.out.trans (hg2.below (by omega) (OwnB.base HO.out))⟩
        case measure => simp [intOf]; omega
      all_goals (have := HL.out; omega)
    · have hke := Lib.hid (show ns.take k = ns from List.take_of_length_le (by omega))
      go_wp2
      go_ret
      refine ⟨_, rfl, ?_, HW.out⟩
      have := HO.out
      rw [hke.out] at this
      exact this

set_option maxHeartbeats 400000 in
set_option maxRecDepth 100000 in
theorem vary_text (v u : Value) (l : List UInt8) (ts : List ByteArray) (w : World) (h : RdB w w.heap.size v l) (hu : RdS w w.heap.size u ts) (hl : l.length ≤ 137438953472) (hn : ∀ s ∈ ts, s.size ≤ 1000000) (hk : ts.length ≤ 10000) :
    Calls Try.prog 57 #[v, u] w fun e w' => ∃ v', e = .returned v' ∧ OwnB w' w.heap.size v' (l ++ encTs ts) ∧ Below w.heap.size w w' := by
  have H := Lib.hid h
  have HU := Lib.hid hu
  have HN := Lib.hid hn
  obtain ⟨A, c, rfl, hlc, hc, -⟩ := hu
  clear h hn
  go_enter Try.func57, Try.ntmps57
  go_wp2_with (go_at_call 54; refine (clone_any _ l _ H.out (by omega)).mono ?_; rintro e w1 ⟨v1, rfl, ho1, hb1⟩)
  go_loopw [5, 12] (fun x i wr => ∃ k : Nat, k ≤ ts.length ∧ i = .int .i64 k ∧ OwnB wr w.heap.size x (l ++ encTs (ts.take k)) ∧ Below w.heap.size w wr) (fun _ i _ => ts.length - (intOf i).toNat)
  case atStart => exact ⟨0, Nat.zero_le _, rfl, by simpa [encTs] using ho1, hb1⟩
  case round =>
    obtain ⟨k, hkn, rfl, ho, hbw⟩ := hrel
    have hgs := hbw.size
    have HW := Lib.hid hbw
    have HO := Lib.hid ho
    have hel := encTs_len (ts.take k) (fun n hn => HN.out n (List.mem_of_mem_take hn))
    have hel2 : (l ++ encTs (ts.take k)).length ≤ l.length + 1000009 * k := by
      rw [List.length_take] at hel; rw [List.length_append]; have : min k ts.length = k := by omega
      rw [this] at hel; omega
    have HL := Lib.hid hel2
    clear hel hel2 ho hbw ho1 hb1
    by_cases hlt : k < ts.length
    · obtain ⟨A', c', e1, _, _, hcell⟩ := HU.out.below HW.out
      obtain ⟨b, o, rfl, hb, hcell2⟩ := hcell (by omega)
      cases e1
      have c1 : wr.cell? ⟨b, o + k, none⟩ = some (.string ts[k]) := hcell2 k ts[k] (List.getElem?_eq_getElem hlt)
      have HS := Lib.hid (encTs_snoc ts k hlt)
      have hnb := HN.out ts[k] (List.getElem_mem hlt)
      generalize ts[k] = s at c1 HS hnb
      have hsl := Lib.hid (encN_nine s.size (by omega))
      clear hcell hcell2
      go_wp2_with (first
        | (go_at_call 55; refine (put_number w.heap.size _ _ s.size _ HO.out ?_ ?_ ?_).mono ?_; rotate_left 3; rintro e w2 ⟨v2, rfl, ho2, hg2⟩)
        | (at_builtin; refine wpl_app_str rfl (.tmp 19) (.tmp 20) rfl w.heap.size _ _ s rfl rfl ho2 ?_ ?_ ?_; rotate_left 2; intro v3 w3 ho3 hb3))
      · go_roundw
        case rel =>
          refine ⟨k + 1, by omega, by go_num, ?_, (HW.out.trans (hg2.below (by omega) (OwnB.base HO.out))).trans hb3⟩
          rw [HS.out, encT, ← List.append_assoc, ← List.append_assoc]
          exact ho3
        case measure => simp [intOf]; omega
      all_goals first | (have := HL.out; omega) | (have := hg2.grown.size; omega) | (have := HL.out; have := hsl.out; simp only [List.length_append] at *; omega)
    · have hke := Lib.hid (show ts.take k = ts from List.take_of_length_le (by omega))
      go_wp2
      go_ret
      refine ⟨_, rfl, ?_, HW.out⟩
      have := HO.out
      rw [hke.out] at this
      exact this
end Go.Proofs.Ytefjdmlmmoeoaaa
/- Layer 2: numbers turned, and turned back; the document's examples. -/
namespace Go.Proofs.Ytefjdmlmmoeoaaa
open Go.RowKit
set_option linter.unusedVariables false

end Go.Proofs.Ytefjdmlmmoeoaaa
/- Layer 2: the document's examples. -/
namespace Go.Proofs.Ytefjdmlmmoeoaaa
open Go.RowKit
set_option linter.unusedVariables false

end Go.Proofs.Ytefjdmlmmoeoaaa
/- Layer 2: a number's bytes, read, by a jump back to its next byte. -/
namespace Go.Proofs.Ytefjdmlmmoeoaaa
open Go.RowKit
set_option linter.unusedVariables false

theorem drop_at {l : List UInt8} {k : Nat} (h : k < l.length) : l.drop k = l[k] :: l.drop (k + 1) := List.drop_eq_getElem_cons h

theorem i64_or_nat (a b : Nat) (ha : a < 9223372036854775808) (hb : b < 9223372036854775808) : bits .or .i64 (a : Int) (b : Int) = ((a ||| b : Nat) : Int) := by
  have hx : a ||| b < 2 ^ 63 := Nat.or_lt_two_pow (by omega) (by omega)
  show IntKind.i64.wrap ((BitVec.ofInt 64 (a : Int) ||| BitVec.ofInt 64 (b : Int)).toNat : Int) = _
  rw [BitVec.toNat_or, BitVec.ofInt_natCast, BitVec.ofInt_natCast, BitVec.toNat_ofNat, BitVec.toNat_ofNat, Nat.mod_eq_of_lt (by omega), Nat.mod_eq_of_lt (by omega)]
  simp only [IntKind.wrap, IntKind.bits, IntKind.signed]
  generalize a ||| b = x at *
  simp
  omega

theorem or_step (acc x k : Nat) (hk : k ≤ 8) (ha : acc < 128 ^ k) (hx : x < 256) :
    bits .or .i64 (acc : Int) (wrap64 ((x : Int) % 128 * 2 ^ (7 * k))) = ((acc + x % 128 * 128 ^ k : Nat) : Int) ∧ acc + x % 128 * 128 ^ k < 128 ^ (k + 1) := by
  have e : (2 : Nat) ^ (7 * k) = 128 ^ k := by rw [Nat.pow_mul]
  have e2 : ((x : Int) % 128 * 2 ^ (7 * k)) = ((x % 128 * 128 ^ k : Nat) : Int) := by rw [← e]; simp
  have hy : x % 128 < 128 := Nat.mod_lt _ (by omega)
  have h1 : x % 128 * 128 ^ k + 128 ^ k ≤ 128 ^ (k + 1) := by
    rw [Nat.pow_succ]
    have := Nat.mul_le_mul_right (128 ^ k) (show x % 128 + 1 ≤ 128 from hy)
    rw [Nat.add_mul, Nat.one_mul] at this
    omega
  have h2 : 128 ^ (k + 1) ≤ 9223372036854775808 := by
    have := Nat.pow_le_pow_right (show 0 < 128 from by omega) (show k + 1 ≤ 9 from by omega)
    simpa using this
  have hor : acc ||| x % 128 * 128 ^ k = acc + x % 128 * 128 ^ k := by
    rw [Nat.or_comm, ← e, Nat.mul_comm, ← Nat.two_pow_add_eq_or_of_lt (by rw [e]; exact ha)]
    omega
  refine ⟨?_, by omega⟩
  rw [e2, show wrap64 ((x % 128 * 128 ^ k : Nat) : Int) = ((x % 128 * 128 ^ k : Nat) : Int) from by unfold wrap64; omega, i64_or_nat _ _ (by omega) (by omega), hor]

set_option maxHeartbeats 3200000 in
set_option maxRecDepth 1000000 in
theorem read_number (B : Nat) (v : Value) (l : List UInt8) (w : World) (h : RdB w B v l) (hl : l.length ≤ 1000000000) :
    Calls Try.prog 105 #[v] w fun e w' => e = .returned (.tuple #[.int .i64 (rdN l).1, .int .i64 (rdN l).2.1, .int .i64 (rdN l).2.2]) ∧ w' = w := by
  have H := Lib.hid h
  obtain ⟨A, c, rfl, hlc, hc, -⟩ := h
  go_enter Try.func105, Try.ntmps105
  go_wp2
  refine wp_scope_jumps 0 (fun a' w' => ∃ (k acc : Nat) (u5 u6 u7 u8 u9 u10 u11 u12 u13 u14 u15 u16 u17 u18 u19 u20 u21 u22 u23 u24 u25 u26 u27 u28 u29 u30 u31 u32 u33 u34 u35 u36 u37 u38 u39 u40 : Value), (k ≤ 9 ∧ k ≤ l.length ∧ acc < 128 ^ k ∧ rdGo (l.drop k) k acc = rdN l ∧ w' = w) ∧ a' = { tmps := #[.slice A l.length c, undef, .int .i64 acc, .int .i64 k, .int .i64 0, u5, u6, u7, u8, u9, u10, u11, u12, u13, u14, u15, u16, u17, u18, u19, u20, u21, u22, u23, u24, u25, u26, u27, u28, u29, u30, u31, u32, u33, u34, u35, u36, u37, u38, u39, u40], defers := [] })
    (fun a' _ => 9 - (intOf (a'.tmps.getD 3 undef)).toNat) rfl ?first ?pass
  case' first =>
    go_wp2
    go_step3
    simp only [Exit.then]
    rename_i K hK
    refine hK _ _ ?_
    clear hK K
    refine (?_ : ∀ (k acc : Nat) (u5 u6 u7 u8 u9 u10 u11 u12 u13 u14 u15 u16 u17 u18 u19 u20 u21 u22 u23 u24 u25 u26 u27 u28 u29 u30 u31 u32 u33 u34 u35 u36 u37 u38 u39 u40 : Value) (w' : World), (k ≤ 9 ∧ k ≤ l.length ∧ acc < 128 ^ k ∧ rdGo (l.drop k) k acc = rdN l ∧ w' = w) → Code.wp Try.prog _ _ { tmps := #[.slice A l.length c, undef, .int .i64 (acc : Int), .int .i64 (k : Int), .int .i64 0, u5, u6, u7, u8, u9, u10, u11, u12, u13, u14, u15, u16, u17, u18, u19, u20, u21, u22, u23, u24, u25, u26, u27, u28, u29, u30, u31, u32, u33, u34, u35, u36, u37, u38, u39, u40], defers := [] } w') 0 0 undef undef undef undef undef undef undef undef undef undef undef undef undef undef undef undef undef undef undef undef undef undef undef undef undef undef undef undef undef undef undef undef undef undef undef undef w ⟨by omega, Nat.zero_le _, by simp, rfl, rfl⟩
    intro k acc u5 u6 u7 u8 u9 u10 u11 u12 u13 u14 u15 u16 u17 u18 u19 u20 u21 u22 u23 u24 u25 u26 u27 u28 u29 u30 u31 u32 u33 u34 u35 u36 u37 u38 u39 u40 w' hf
  case' pass =>
    rintro a' w' ⟨k, acc, u5, u6, u7, u8, u9, u10, u11, u12, u13, u14, u15, u16, u17, u18, u19, u20, u21, u22, u23, u24, u25, u26, u27, u28, u29, u30, u31, u32, u33, u34, u35, u36, u37, u38, u39, u40, hf, rfl⟩
  all_goals
    obtain ⟨hk9, hk, hacc, hp, rfl⟩ := hf
    by_cases h9 : k = 9
    · subst h9
      rw [rdGo_nine] at hp
      have HP := Lib.hid hp
      clear hp
      go_wp2
      simp only [Exit.jump]
      go_ret3
      exact ⟨by rw [← HP.out]; rfl, rfl⟩
    · have z9 : ((k : Int) == 9) = false := by simp; omega
      by_cases hlt : k < l.length
      · obtain ⟨A', c', e1, _, _, hcell⟩ := H.out
        obtain ⟨b, o, rfl, hb, hcell2⟩ := hcell (by omega)
        cases e1
        have c1 : w'.cell? ⟨b, o + k, none⟩ = some (.int .u8 (l[k].toNat : Int)) := hcell2 k l[k] (List.getElem?_eq_getElem hlt)
        rw [drop_at hlt] at hp
        have zl : ((k : Int) == (l.length : Int)) = false := by simp; omega
        clear hcell hcell2
        generalize l[k] = x at c1 hp
        have hx := x.toNat_lt
        obtain ⟨hor, hN⟩ := or_step acc x.toNat k (by omega) hacc hx
        by_cases hm : 128 ≤ x.toNat
        · rw [rdGo_more x _ k acc h9 hm] at hp
          generalize acc + x.toNat % 128 * 128 ^ k = N at *
          have HP := Lib.hid hp
          have HN := Lib.hid hN
          clear hacc hp hN
          go_wp2
          rw [show ((k : Int) + 1) = ((k + 1 : Nat) : Int) from by omega]
          go_step3
          first
            | exact ⟨rfl, k + 1, N, _, _, _, _, _, _, _, _, _, _, _, _, _, _, _, _, _, _, _, _, _, _, _, _, _, _, _, _, _, _, _, _, _, _, _, _, ⟨by omega, by omega, HN.out, HP.out, rfl⟩, rfl⟩
            | exact ⟨rfl, ⟨k + 1, N, _, _, _, _, _, _, _, _, _, _, _, _, _, _, _, _, _, _, _, _, _, _, _, _, _, _, _, _, _, _, _, _, _, _, _, _, ⟨by omega, by omega, HN.out, HP.out, rfl⟩, rfl⟩, by simp [intOf]; omega⟩
        · by_cases hbig : 4611686018427387904 ≤ acc + x.toNat % 128 * 128 ^ k
          · rw [rdGo_bad x _ k acc h9 hm (.inl hbig)] at hp
            generalize acc + x.toNat % 128 * 128 ^ k = N at *
            have HP := Lib.hid hp
            have hI : (4611686018427387904 : Int) ≤ (N : Int) := by omega
            have hm1 : (x.toNat : Int) < 128 := by omega
            clear hacc hp hN hbig hm
            go_wp2
            simp only [Exit.jump]
            go_ret3
            exact ⟨by rw [← HP.out]; rfl, rfl⟩
          · by_cases hz : x.toNat = 0
            · by_cases hk0 : 0 < k
              · rw [rdGo_bad x _ k acc h9 hm (.inr ⟨hz, hk0⟩)] at hp
                have hz1 : ((x.toNat : Int) == 0) = true := by simp; omega
                generalize acc + x.toNat % 128 * 128 ^ k = N at *
                have HP := Lib.hid hp
                have hI : decide ((4611686018427387904 : Int) ≤ (N : Int)) = false := by rw [decide_eq_false_iff_not]; omega
                have hm1 : (x.toNat : Int) < 128 := by omega
                clear hacc hp hN hz hbig hm
                go_wp2
                simp only [Exit.jump]
                go_ret3
                exact ⟨by rw [← HP.out]; rfl, rfl⟩
              · rw [rdGo_end x _ k acc h9 hm (by omega)] at hp
                have hz1 : ((x.toNat : Int) == 0) = true := by simp; omega
                generalize acc + x.toNat % 128 * 128 ^ k = N at *
                have HP := Lib.hid hp
                have hI : decide ((4611686018427387904 : Int) ≤ (N : Int)) = false := by rw [decide_eq_false_iff_not]; omega
                have hm1 : (x.toNat : Int) < 128 := by omega
                clear hacc hp hN hz hbig hm
                go_wp2
                simp only [Exit.jump]
                go_ret3
                exact ⟨by rw [← HP.out]; rfl, rfl⟩
            · rw [rdGo_end x _ k acc h9 hm (by omega)] at hp
              have hz1 : ((x.toNat : Int) == 0) = false := by simp; omega
              generalize acc + x.toNat % 128 * 128 ^ k = N at *
              have HP := Lib.hid hp
              have hI : decide ((4611686018427387904 : Int) ≤ (N : Int)) = false := by rw [decide_eq_false_iff_not]; omega
              have hm1 : (x.toNat : Int) < 128 := by omega
              clear hacc hp hN hz hbig hm
              go_wp2
              simp only [Exit.jump]
              go_ret3
              exact ⟨by rw [← HP.out]; rfl, rfl⟩
      · have hk1 : k = l.length := by omega
        rw [hk1, List.drop_length, rdGo_nil _ _ (by omega)] at hp
        have HP := Lib.hid hp
        clear hp
        have z1 : ((k : Int) == (l.length : Int)) = true := by rw [beq_iff_eq]; omega
        clear hk1
        go_wp2
        simp only [Exit.jump]
        go_ret3
        exact ⟨by rw [← HP.out]; rfl, rfl⟩
end Go.Proofs.Ytefjdmlmmoeoaaa
/- Plain facts on numbers' bytes: what is read is what was put; the document's way of reading. -/
namespace Go.Proofs.Ytefjdmlmmoeoaaa
open Go.RowKit

/-- What is put is read. -/
theorem rdGo_enc (n : Nat) : ∀ (k acc : Nat) (r : List UInt8), k + (encN n).length ≤ 9 → acc + n * 128 ^ k < 4611686018427387904 → (n = 0 → k = 0) → rdGo (encN n ++ r) k acc = (acc + n * 128 ^ k, k + (encN n).length, 0) := by
  induction n using Nat.strongRecOn with
  | ind n ih =>
    intro k acc r hk hb h0
    by_cases hn : n < 128
    · rw [encN_lt hn] at hk ⊢
      simp only [List.length_singleton] at hk ⊢
      have e : (UInt8.ofNat n).toNat = n := by rw [UInt8.toNat_ofNat']; omega
      rw [List.singleton_append, rdGo_end _ _ k acc (by omega) (by rw [e]; omega) (by rw [e, Nat.mod_eq_of_lt hn]; omega), e, Nat.mod_eq_of_lt hn]
    · rw [encN_ge hn] at hk ⊢
      simp only [List.length_cons] at hk ⊢
      have e : (UInt8.ofNat (n % 128 + 128)).toNat = n % 128 + 128 := by rw [UInt8.toNat_ofNat']; omega
      have e2 : acc + (n % 128 + 128) % 128 * 128 ^ k + n / 128 * 128 ^ (k + 1) = acc + n * 128 ^ k := by
        have : (n % 128 + 128) % 128 = n % 128 := by omega
        rw [this, Nat.pow_succ, Nat.mul_comm (128 ^ k) 128, ← Nat.mul_assoc, Nat.add_assoc, ← Nat.add_mul]
        congr 2
        omega
      rw [List.cons_append, rdGo_more _ _ k acc (by omega) (by rw [e]; omega), e, ih (n / 128) (by omega) (k + 1) _ r (by omega) (by omega) (by omega), e2]
      congr 2
      omega
theorem rdN_enc (n : Nat) (r : List UInt8) (h : n < 4611686018427387904) : rdN (encN n ++ r) = (n, (encN n).length, 0) := by
  have := rdGo_enc n 0 0 r (by have := encN_nine n (by omega); omega) (by omega) (fun _ => rfl)
  rw [rdN, this]; simp

theorem rdGo_size (l : List UInt8) : ∀ (k acc : Nat), (rdGo l k acc).2.2 = 0 → (rdGo l k acc).2.1 ≤ k + l.length ∧ (rdGo l k acc).1 < 4611686018427387904 := by
  induction l with
  | nil => intro k acc h; exfalso; revert h; rw [rdGo]; split <;> simp
  | cons c t ih =>
    intro k acc
    rw [rdGo]
    split
    · simp
    · split
      · intro h
        have := ih _ _ h
        rw [List.length_cons]
        exact ⟨by omega, this.2⟩
      · split
        · simp
        · rename_i h9 hc hb
          intro _
          rw [List.length_cons]
          exact ⟨by simp, by simp only at *; omega⟩
theorem rdGo_zero (l : List UInt8) : ∀ (k acc : Nat), (rdGo l k acc).2.2 ≠ 0 → (rdGo l k acc).1 = 0 := by
  induction l with
  | nil => intro k acc; rw [rdGo]; split <;> simp
  | cons c t ih =>
    intro k acc
    rw [rdGo]
    split
    · simp
    · split
      · exact ih _ _
      · split <;> simp
theorem rdN_size (l : List UInt8) (h : (rdN l).2.2 = 0) : (rdN l).2.1 ≤ l.length ∧ (rdN l).1 < 4611686018427387904 := by
  have := rdGo_size l 0 0 h
  exact ⟨by have := this.1; rw [Nat.zero_add] at this; exact this, this.2⟩
theorem rdN_zero (l : List UInt8) (h : (rdN l).2.2 ≠ 0) : (rdN l).1 = 0 := rdGo_zero l 0 0 h
end Go.Proofs.Ytefjdmlmmoeoaaa
/- Layer 2: a reader. -/
namespace Go.Proofs.Ytefjdmlmmoeoaaa
open Go.RowKit
set_option linter.unusedVariables false

/-- p is a reader, in block g, of memory from base on, that is ahead of l, with the error e. -/
structure RdR (w : World) (base g : Nat) (p : Value) (l : List UInt8) (e : Int) : Prop where
  ptr : p = .pointer (some ⟨g, 0, none⟩)
  lt : g < w.heap.size
  from' : base ≤ g
  err : w.cell? ⟨g, 1, none⟩ = some (.int .i64 e)
  frz0 : w.frozen? ⟨g, 0, none⟩ = false
  frz1 : w.frozen? ⟨g, 1, none⟩ = false
  left : ∃ sl, w.cell? ⟨g, 0, none⟩ = some sl ∧ RdB w g sl l ∧ ∀ k, sl.ownBlock = some k → base ≤ k

set_option maxHeartbeats 400000 in
theorem vary_read (v : Value) (l : List UInt8) (w : World) (h : RdB w w.heap.size v l) (hl : l.length ≤ 549755813888) :
    Calls Try.prog 78 #[v] w fun e w' => ∃ p g, e = .returned p ∧ RdR w' w.heap.size g p l 0 ∧ Below w.heap.size w w' := by
  go_enter Try.func78, Try.ntmps78
  go_wp2_with (go_at_call 54; refine (clone_any _ l _ h hl).mono ?_; rintro e w1 ⟨v1, rfl, ho1, hb1⟩; obtain ⟨A1, k1, hv1, -⟩ := own_cap ho1; subst hv1)
  go_ret
  have hn := heap_alloc_new w1 (.cells #[.slice A1 l.length k1, .int .i64 0] 128)
  have hrd := ho1.rd.below (alloc_below w1 (.cells #[.slice A1 l.length k1, .int .i64 0] 128))
  refine ⟨_, w1.heap.size, rfl, ⟨rfl, by simp, hb1.size, ?_, ?_, ?_, _, ?_, hrd, OwnB.base ho1⟩, hb1.trans ((alloc_below w1 _).mono hb1.size)⟩
  · rw [cell_of_row _ _ _ _ _ (0, 0) hn]; rfl
  · simp
  · simp
  · rw [cell_of_row _ _ _ _ _ (0, 0) hn]; rfl

theorem RdR.on {w w' : World} {base g : Nat} {p : Value} {l : List UInt8} {e : Int} (h : RdR w base g p l e) (hb : Below w.heap.size w w') : RdR w' base g p l e := by
  obtain ⟨h1, h2, h3, h4, h5, h6, sl, h7, h8, h9⟩ := h
  exact ⟨h1, Nat.lt_of_lt_of_le h2 hb.size, h3, (hb.cell (p := ⟨g, 1, none⟩) h2).trans h4, (hb.frozen (p := ⟨g, 0, none⟩) h2).trans h5, (hb.frozen (p := ⟨g, 1, none⟩) h2).trans h6, sl, (hb.cell (p := ⟨g, 0, none⟩) h2).trans h7, h8.below (hb.mono (Nat.le_of_lt h2)), h9⟩
theorem below_set {g : Nat} (w : World) (o : Nat) (v : Value) : Below g w (w.setCell ⟨g, o, none⟩ v) := (Below.refl g w).setCell (Nat.le_refl _) v
theorem grown_set {g : Nat} (w : World) (o : Nat) (v : Value) : w.grownBy (w.setCell ⟨g, o, none⟩ v) (some g) :=
  ⟨rfl, rfl, rfl, by simp [World.setCell], fun k _ hk => Below.heap_setCell _ _ _ _ (fun e => hk (by simp [e]))⟩
theorem RdR.set_left {w : World} {base g : Nat} {p : Value} {l : List UInt8} {e : Int} (h : RdR w base g p l e) (sl' : Value) (l' : List UInt8) (hr : RdB w g sl' l') (hb : ∀ k, sl'.ownBlock = some k → base ≤ k) :
    RdR (w.setCell ⟨g, 0, none⟩ sl') base g p l' e := by
  obtain ⟨h1, h2, h3, h4, h5, h6, sl, h7, h8, h9⟩ := h
  exact ⟨h1, by simpa using h2, h3, (World.cell?_setCell_other _ _ _ _ (by simp)).trans h4, by simpa using h5, by simpa using h6, sl', World.cell?_setCell_same _ _ _ h7, hr.below (below_set w 0 sl'), hb⟩
theorem RdR.set_err {w : World} {base g : Nat} {p : Value} {l : List UInt8} {e : Int} (h : RdR w base g p l e) (e' : Int) : RdR (w.setCell ⟨g, 1, none⟩ (.int .i64 e')) base g p l e' := by
  obtain ⟨h1, h2, h3, h4, h5, h6, sl, h7, h8, h9⟩ := h
  exact ⟨h1, by simpa using h2, h3, World.cell?_setCell_same _ _ _ h4, by simpa using h5, by simpa using h6, sl, (World.cell?_setCell_other _ _ _ _ (by simp)).trans h7, h8.below (below_set w 1 _), h9⟩

set_option maxHeartbeats 400000 in
theorem fail_any (w : World) (base g : Nat) (p : Value) (l : List UInt8) (e e' : Int) (h : RdR w base g p l e) :
    Calls Try.prog 106 #[p, .int .i64 e'] w fun x w' => x = .returned (.tuple #[]) ∧ RdR w' base g p [] e' ∧ w.grownBy w' (some g) := by
  have H := Lib.hid h
  have HR := Lib.hid ((h.set_left (.slice none 0 0) [] (RdB.nil _ _) (by simp [Value.ownBlock])).set_err e')
  obtain ⟨rfl, h2, h3, h4, h5, h6, sl, h7, h8, h9⟩ := h
  clear h8 h9
  go_enter Try.func106, Try.ntmps106
  go_wp2
  go_end0
  exact ⟨rfl, HR.out, (grown_set w 0 _).trans (grown_set _ 1 _)⟩

/-- What a number read leaves. -/
def stepN (l : List UInt8) (e : Int) : Nat × List UInt8 × Int := if e ≠ 0 then (0, l, e) else if (rdN l).2.2 ≠ 0 then (0, [], (rdN l).2.2) else ((rdN l).1, l.drop (rdN l).2.1, 0)

set_option maxHeartbeats 400000 in
theorem number_any (w : World) (base g : Nat) (p : Value) (l : List UInt8) (e : Int) (h : RdR w base g p l e) (hl : l.length ≤ 1000000000) :
    Calls Try.prog 95 #[p] w fun x w' => x = .returned (.int .i64 (stepN l e).1) ∧ RdR w' base g p (stepN l e).2.1 (stepN l e).2.2 ∧ w.grownBy w' (some g) := by
  have H := Lib.hid h
  obtain ⟨rfl, h2, h3, h4, h5, h6, sl, h7, h8, h9⟩ := h
  by_cases he : e = 0
  · subst he
    have HS := Lib.hid h8
    have H9 := Lib.hid h9
    have hsz := rdN_size l
    have hfst := rdN_zero l
    have hst : stepN l 0 = if (rdN l).2.2 ≠ 0 then (0, [], (rdN l).2.2) else ((rdN l).1, l.drop (rdN l).2.1, 0) := by unfold stepN; rw [if_neg (by simp)]
    generalize hr : rdN l = r at *
    have HRD := Lib.hid hr
    clear hr h8 h9
    obtain ⟨n, size, e1⟩ := r
    by_cases he1 : e1 = 0
    · subst he1
      have hsz := (hsz rfl).1
      simp only at hsz
      rw [if_neg (by simp)] at hst
      rw [hst]
      clear hst
      obtain ⟨A2, c2, hsl, hrd, hob⟩ := sl_tail_own HS.out size (size : Int) rfl hsz
      have HR := Lib.hid hrd
      have hown : ∀ k, (Value.slice A2 (l.length - size) c2).ownBlock = some k → base ≤ k := fun k hk => H9.out k (hob k hk)
      have HO := Lib.hid hown
      clear hrd hown hfst hob
      go_enter Try.func95, Try.ntmps95
      go_wp2_with (go_at_call 105; refine (read_number _ _ l _ HS.out hl).mono ?_; rw [HRD.out]; rintro e w1 ⟨rfl, rfl⟩)
      go_ret
      exact ⟨rfl, H.out.set_left _ _ HR.out HO.out, grown_set w1 0 _⟩
    · have hn0 : n = 0 := hfst he1
      subst hn0
      rw [if_pos he1] at hst
      rw [hst]
      clear hfst hsz hst
      have hne : (e1 != 0) = true := by simpa [bne] using he1
      have HE1 := Lib.hid he1
      clear he1
      go_enter Try.func95, Try.ntmps95
      go_wp2_with (first
        | (go_at_call 105; refine (read_number _ _ l _ HS.out hl).mono ?_; rw [HRD.out]; rintro e w1 ⟨rfl, rfl⟩)
        | (go_at_call 106; refine (fail_any _ base g _ l 0 e1 H.out).mono ?_; rintro x w2 ⟨rfl, hr2, hb2⟩))
      go_ret
      exact ⟨rfl, hr2, hb2⟩
  · have hne : (e != 0) = true := by simpa [bne] using he
    have H0 : stepN l e = (0, l, e) := by unfold stepN; rw [if_pos he]
    rw [H0]
    clear h8 h9 H0 he
    go_enter Try.func95, Try.ntmps95
    go_wp2
    go_ret
    exact ⟨rfl, H.out, World.grownBy.refl _ _⟩

theorem stepN_bd (l : List UInt8) (e : Int) : (stepN l e).1 < 4611686018427387904 := by
  unfold stepN
  split
  · simp
  · split
    · simp
    · rename_i h
      exact (rdN_size l (by simpa using h)).2

set_option maxHeartbeats 400000 in
theorem err_any (w : World) (base g : Nat) (p : Value) (l : List UInt8) (e : Int) (h : RdR w base g p l e) :
    Calls Try.prog 80 #[p] w fun x w' => x = .returned (.int .i64 e) ∧ w = w' := by
  obtain ⟨rfl, h2, h3, h4, h5, h6, sl, h7, h8, h9⟩ := h
  clear h8 h9
  go_enter Try.func80, Try.ntmps80
  go_wp2
  go_ret
  exact ⟨rfl, rfl⟩
end Go.Proofs.Ytefjdmlmmoeoaaa
/- Layer 2: a text, read. -/
namespace Go.Proofs.Ytefjdmlmmoeoaaa
open Go.RowKit
set_option linter.unusedVariables false

/-- What a text read leaves. -/
def stepT (l : List UInt8) (e : Int) (most : Int) : List UInt8 × List UInt8 × Int :=
  if (stepN l e).2.2 ≠ 0 then ([], (stepN l e).2.1, (stepN l e).2.2) else if most < (stepN l e).1 then ([], [], 5) else
    if (stepN l e).2.1.length < (stepN l e).1 then ([], [], 3) else ((stepN l e).2.1.take (stepN l e).1, (stepN l e).2.1.drop (stepN l e).1, 0)

set_option maxRecDepth 100000 in
set_option maxHeartbeats 1000000 in
theorem text_any (w : World) (base g : Nat) (p : Value) (l : List UInt8) (e most : Int) (h : RdR w base g p l e) (hl : l.length ≤ 1000000000) (hm : -9223372036854775808 ≤ most ∧ most ≤ 9223372036854775807) :
    Calls Try.prog 107 #[p, .int .i64 most] w fun x w' => x = .returned (.string ⟨(stepT l e most).1.toArray⟩) ∧ RdR w' base g p (stepT l e most).2.1 (stepT l e most).2.2 ∧ w.grownBy w' (some g) := by
  have hbd := stepN_bd l e
  have hn := number_any w base g p l e h hl
  have hst : stepT l e most = if (stepN l e).2.2 ≠ 0 then ([], (stepN l e).2.1, (stepN l e).2.2) else if most < (stepN l e).1 then ([], [], 5) else
    if (stepN l e).2.1.length < (stepN l e).1 then ([], [], 3) else ((stepN l e).2.1.take (stepN l e).1, (stepN l e).2.1.drop (stepN l e).1, 0) := rfl
  generalize stepN l e = st at *
  obtain ⟨n, l', e'⟩ := st
  simp only at hst hn hbd
  have hbd2 : (n : Int) ≤ 4611686018427387903 := by omega
  obtain ⟨rfl, -⟩ := h
  have HN := Lib.hid hn
  clear hn hbd
  by_cases he : e' = 0
  · subst he
    rw [if_neg (by simp)] at hst
    by_cases hmost : most < n
    · rw [if_pos hmost] at hst
      rw [hst]
      clear hst
      go_enter Try.func107, Try.ntmps107
      go_wp2_with fail
      refine HN.out.mono ?_
      rintro x w1 ⟨rfl, hr1, hb1⟩
      have HR1 := Lib.hid hr1
      obtain ⟨-, h2, h3, h4, h5, h6, sl, h7, h8, h9⟩ := hr1
      clear h8 h9
      go_wp2_with (go_at_call 106; refine (fail_any _ base g _ l' 0 5 HR1.out).mono ?_; rintro x w2 ⟨rfl, hr2, hb2⟩)
      go_ret
      exact ⟨rfl, hr2, hb1.trans hb2⟩
    · rw [if_neg hmost] at hst
      by_cases hshort : l'.length < n
      · rw [if_pos hshort] at hst
        rw [hst]
        clear hst
        go_enter Try.func107, Try.ntmps107
        go_wp2_with fail
        refine HN.out.mono ?_
        rintro x w1 ⟨rfl, hr1, hb1⟩
        have HR1 := Lib.hid hr1
        obtain ⟨-, h2, h3, h4, h5, h6, sl, h7, h8, h9⟩ := hr1
        obtain ⟨A, c, rfl, -⟩ := h8
        clear h9
        go_wp2_with (go_at_call 106; refine (fail_any _ base g _ l' 0 3 HR1.out).mono ?_; rintro x w2 ⟨rfl, hr2, hb2⟩)
        go_ret
        exact ⟨rfl, hr2, hb1.trans hb2⟩
      · rw [if_neg hshort] at hst
        rw [hst]
        clear hst
        go_enter Try.func107, Try.ntmps107
        go_wp2_with fail
        refine HN.out.mono ?_
        rintro x w1 ⟨rfl, hr1, hb1⟩
        have HR1 := Lib.hid hr1
        obtain ⟨-, h2, h3, h4, h5, h6, sl, h7, h8, h9⟩ := hr1
        have hh := h8
        obtain ⟨A, c, rfl, -⟩ := h8
        obtain ⟨A2, c2, hsl, hrd, hob⟩ := sl_tail_own hh n (n : Int) rfl (by omega)
        obtain ⟨A3, c3, hsl3, hrd3⟩ := sl_head hh n (n : Int) rfl (by omega)
        have hcv := hrd3.str
        have HT := Lib.hid hrd
        have HO := Lib.hid (show ∀ k, (Value.slice A2 (l'.length - n) c2).ownBlock = some k → base ≤ k from fun k hk => h9 k (hob k hk))
        clear hh hrd hrd3 hob h9
        go_wp2
        go_ret
        exact ⟨rfl, HR1.out.set_left _ _ HT.out HO.out, hb1.trans (grown_set _ 0 _)⟩
  · have hne : (e' != 0) = true := by simpa [bne] using he
    rw [if_pos he] at hst
    rw [hst]
    clear hst he
    go_enter Try.func107, Try.ntmps107
    go_wp2_with fail
    refine HN.out.mono ?_
    rintro x w1 ⟨rfl, hr1, hb1⟩
    have HR1 := Lib.hid hr1
    obtain ⟨-, h2, h3, h4, h5, h6, sl, h7, h8, h9⟩ := hr1
    clear h8 h9
    go_wp2
    go_ret
    exact ⟨rfl, HR1.out, hb1⟩
end Go.Proofs.Ytefjdmlmmoeoaaa
