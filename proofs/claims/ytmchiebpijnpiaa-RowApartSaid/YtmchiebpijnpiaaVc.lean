/- Layer 2: numbers and texts, put behind bytes. -/
import Derived.Test.YtmchiebpijnpiaaVb
namespace Go.Proofs.Ytmchiebpijnpiaa
open Go.RowKit
set_option linter.unusedVariables false

def encNs (l : List Int) : List UInt8 := l.flatMap fun n => encN n.toNat
def encTs (l : List ByteArray) : List UInt8 := l.flatMap encT

theorem encNs_len (l : List Int) (h : ∀ n ∈ l, n ≤ 9223372036854775807) : (encNs l).length ≤ 9 * l.length := by
  induction l with
  | nil => simp [encNs]
  | cons n l ih =>
    have h1 := encN_nine n.toNat (by have := h n (by simp); omega)
    have h2 := ih (fun m hm => h m (by simp [hm]))
    simp only [encNs, List.flatMap_cons, List.length_append, List.length_cons] at h2 ⊢
    omega
theorem encNs_snoc (l : List Int) (k : Nat) (h : k < l.length) : encNs (l.take (k + 1)) = encNs (l.take k) ++ encN l[k].toNat := by
  rw [List.take_succ_eq_append_getElem h, encNs, List.flatMap_append]; simp [encNs]
theorem encTs_snoc (l : List ByteArray) (k : Nat) (h : k < l.length) : encTs (l.take (k + 1)) = encTs (l.take k) ++ encT l[k] := by
  rw [List.take_succ_eq_append_getElem h, encTs, List.flatMap_append]; simp [encTs]

theorem encT_len (s : ByteArray) (h : s.size ≤ 1000000) : (encT s).length ≤ s.size + 9 := by
  have := encN_nine s.size (by omega)
  simp only [encT, List.length_append, Array.length_toList, ByteArray.size_data] at *
  omega
theorem encTs_len (l : List ByteArray) (h : ∀ s ∈ l, s.size ≤ 1000000) : (encTs l).length ≤ 1000009 * l.length := by
  induction l with
  | nil => simp [encTs]
  | cons s l ih =>
    have h1 := encT_len s (h s (by simp))
    have h0 := h s (by simp)
    have h2 := ih (fun m hm => h m (by simp [hm]))
    simp only [encTs, List.flatMap_cons, List.length_append, List.length_cons] at h2 ⊢
    omega
theorem max_nat (n : Int) : (if n < 0 then (0 : Int) else n) = (n.toNat : Int) := by split <;> omega

set_option maxHeartbeats 400000 in
set_option maxRecDepth 100000 in
theorem vary_put (v u : Value) (l : List UInt8) (ns : List Int) (w : World) (h : RdB w w.heap.size v l) (hu : RdI w w.heap.size u ns) (hl : l.length ≤ 137438953472) (hn : ∀ n ∈ ns, n ≤ 9223372036854775807) (hk : ns.length ≤ 1000000) :
    Calls Try.prog 26 #[v, u] w fun e w' => ∃ v', e = .returned v' ∧ OwnB w' w.heap.size v' (l ++ encNs ns) ∧ Below w.heap.size w w' := by
  have H := Lib.hid h
  have HU := Lib.hid hu
  have HN := Lib.hid hn
  obtain ⟨A, c, rfl, hlc, hc, -⟩ := hu
  clear h hn
  go_enter Try.func26, Try.ntmps26
  go_wp2_with (go_at_call 38; refine (clone_any _ l _ H.out (by omega)).mono ?_; rintro e w1 ⟨v1, rfl, ho1, hb1⟩)
  go_loopw [5, 12] (fun x i wr => ∃ k : Nat, k ≤ ns.length ∧ i = .int .i64 k ∧ OwnB wr w.heap.size x (l ++ encNs (ns.take k)) ∧ Below w.heap.size w wr) (fun _ i _ => ns.length - (intOf i).toNat)
  case atStart => exact ⟨0, Nat.zero_le _, rfl, by simpa [encNs] using ho1, hb1⟩
  case round =>
    obtain ⟨k, hkn, rfl, ho, hbw⟩ := hrel
    have hgs := hbw.size
    have HW := Lib.hid hbw
    have HO := Lib.hid ho
    have hel := encNs_len (ns.take k) (fun n hn => HN.out n (List.mem_of_mem_take hn))
    have hel2 : (l ++ encNs (ns.take k)).length ≤ l.length + 9 * k := by
      rw [List.length_take] at hel; rw [List.length_append]; omega
    have HL := Lib.hid hel2
    clear hel hel2 ho hbw ho1 hb1
    by_cases hlt : k < ns.length
    · obtain ⟨A', c', e1, _, _, hcell⟩ := HU.out.below HW.out
      obtain ⟨b, o, rfl, hb, hcell2⟩ := hcell (by omega)
      cases e1
      have c1 : wr.cell? ⟨b, o + k, none⟩ = some (.int .i64 ns[k]) := hcell2 k ns[k] (List.getElem?_eq_getElem hlt)
      have HS := Lib.hid (encNs_snoc ns k hlt)
      have hnb := HN.out ns[k] (List.getElem_mem hlt)
      generalize ns[k] = n at c1 HS hnb
      clear hcell hcell2
      go_wp2_with (go_at_call 50; rw [max_nat n]; refine (put_number w.heap.size _ _ n.toNat _ HO.out ?_ ?_ ?_).mono ?_; rotate_left 3; rintro e w2 ⟨v2, rfl, ho2, hg2⟩)
      · go_roundw
        case rel => exact ⟨k + 1, by omega, by go_num, by rw [HS.out, ← List.append_assoc]; exact ho2, HW.out.trans (hg2.below (by omega) (OwnB.base HO.out))⟩
        case measure => simp [intOf]; omega
      all_goals (have := HL.out; omega)
    · have hke := Lib.hid (show ns.take k = ns from List.take_of_length_le (by omega))
      go_wp2
      go_ret
      refine ⟨_, rfl, ?_, HW.out⟩
      have := HO.out
      rw [hke.out] at this
      exact this

set_option maxHeartbeats 400000 in
set_option maxRecDepth 100000 in
theorem vary_text (v u : Value) (l : List UInt8) (ts : List ByteArray) (w : World) (h : RdB w w.heap.size v l) (hu : RdS w w.heap.size u ts) (hl : l.length ≤ 137438953472) (hn : ∀ s ∈ ts, s.size ≤ 1000000) (hk : ts.length ≤ 10000) :
    Calls Try.prog 28 #[v, u] w fun e w' => ∃ v', e = .returned v' ∧ OwnB w' w.heap.size v' (l ++ encTs ts) ∧ Below w.heap.size w w' := by
  have H := Lib.hid h
  have HU := Lib.hid hu
  have HN := Lib.hid hn
  obtain ⟨A, c, rfl, hlc, hc, -⟩ := hu
  clear h hn
  go_enter Try.func28, Try.ntmps28
  go_wp2_with (go_at_call 38; refine (clone_any _ l _ H.out (by omega)).mono ?_; rintro e w1 ⟨v1, rfl, ho1, hb1⟩)
  go_loopw [5, 12] (fun x i wr => ∃ k : Nat, k ≤ ts.length ∧ i = .int .i64 k ∧ OwnB wr w.heap.size x (l ++ encTs (ts.take k)) ∧ Below w.heap.size w wr) (fun _ i _ => ts.length - (intOf i).toNat)
  case atStart => exact ⟨0, Nat.zero_le _, rfl, by simpa [encTs] using ho1, hb1⟩
  case round =>
    obtain ⟨k, hkn, rfl, ho, hbw⟩ := hrel
    have hgs := hbw.size
    have HW := Lib.hid hbw
    have HO := Lib.hid ho
    have hel := encTs_len (ts.take k) (fun n hn => HN.out n (List.mem_of_mem_take hn))
    have hel2 : (l ++ encTs (ts.take k)).length ≤ l.length + 1000009 * k := by
      rw [List.length_take] at hel; rw [List.length_append]; have : min k ts.length = k := by omega
      rw [this] at hel; omega
    have HL := Lib.hid hel2
    clear hel hel2 ho hbw ho1 hb1
    by_cases hlt : k < ts.length
    · obtain ⟨A', c', e1, _, _, hcell⟩ := HU.out.below HW.out
      obtain ⟨b, o, rfl, hb, hcell2⟩ := hcell (by omega)
      cases e1
      have c1 : wr.cell? ⟨b, o + k, none⟩ = some (.string ts[k]) := hcell2 k ts[k] (List.getElem?_eq_getElem hlt)
      have HS := Lib.hid (encTs_snoc ts k hlt)
      have hnb := HN.out ts[k] (List.getElem_mem hlt)
      generalize ts[k] = s at c1 HS hnb
      have hsl := Lib.hid (encN_nine s.size (by omega))
      clear hcell hcell2
      go_wp2_with (first
        | (go_at_call 50; refine (put_number w.heap.size _ _ s.size _ HO.out ?_ ?_ ?_).mono ?_; rotate_left 3; rintro e w2 ⟨v2, rfl, ho2, hg2⟩)
        | (at_builtin; refine wpl_app_str rfl (.tmp 19) (.tmp 20) rfl w.heap.size _ _ s rfl rfl ho2 ?_ ?_ ?_; rotate_left 2; intro v3 w3 ho3 hb3))
      · go_roundw
        case rel =>
          refine ⟨k + 1, by omega, by go_num, ?_, (HW.out.trans (hg2.below (by omega) (OwnB.base HO.out))).trans hb3⟩
          rw [HS.out, encT, ← List.append_assoc, ← List.append_assoc]
          exact ho3
        case measure => simp [intOf]; omega
      all_goals first | (have := HL.out; omega) | (have := hg2.grown.size; omega) | (have := HL.out; have := hsl.out; simp only [List.length_append] at *; omega)
    · have hke := Lib.hid (show ts.take k = ts from List.take_of_length_le (by omega))
      go_wp2
      go_ret
      refine ⟨_, rfl, ?_, HW.out⟩
      have := HO.out
      rw [hke.out] at this
      exact this
end Go.Proofs.Ytmchiebpijnpiaa
