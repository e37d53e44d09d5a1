/- Layer 1: bytes that are read; bytes as a text; Key. -/
import Derived.Test.YtnapadpkfjpklaaOh
import Derived.Test.YtnapadpkfjpklaaOd
import Derived.Laws.BytesArg
namespace Go.Proofs.Ytnapadpkfjpklaa
open Go.RowKit
set_option linter.unusedVariables false

/-- The value v is a slice of bytes that reads as l, in a block below B. -/
def RdB (w : World) (B : Nat) (v : Value) (l : List UInt8) : Prop :=
  ∃ A c, v = .slice A l.length c ∧ l.length ≤ c ∧ c ≤ 9223372036854775807 ∧ (0 < l.length → ∃ b o, A = some ⟨b, o, none⟩ ∧ b < B ∧
    ∀ (k : Nat) (u : UInt8), l[k]? = some u → w.cell? ⟨b, o + k, none⟩ = some (.int .u8 (u.toNat : Int)))

theorem RdB.below {w w' : World} {B : Nat} {v : Value} {l : List UInt8} (h : RdB w B v l) (hb : Below B w w') : RdB w' B v l := by
  obtain ⟨A, c, rfl, h1, h2, h3⟩ := h
  refine ⟨A, c, rfl, h1, h2, fun hp => ?_⟩
  obtain ⟨b, o, rfl, hB, hc⟩ := h3 hp
  exact ⟨b, o, rfl, hB, fun k p hk => (hb.cell (p := ⟨b, _, none⟩) hB).trans (hc k p hk)⟩
theorem RdB.more {w : World} {B B' : Nat} {v : Value} {l : List UInt8} (h : RdB w B v l) (hB : B ≤ B') : RdB w B' v l := by
  obtain ⟨A, c, rfl, h1, h2, h3⟩ := h
  refine ⟨A, c, rfl, h1, h2, fun hp => ?_⟩
  obtain ⟨b, o, rfl, hb, hc⟩ := h3 hp
  exact ⟨b, o, rfl, by omega, hc⟩
theorem RdB.on {w w' : World} {v : Value} {l : List UInt8} (h : RdB w w.heap.size v l) (hb : Below w.heap.size w w') : RdB w' w'.heap.size v l := (h.below hb).more hb.size
theorem RdB.nil (w : World) (B : Nat) : RdB w B (.slice none 0 0) [] := ⟨none, 0, rfl, by simp, by omega, fun h => absurd h (by simp)⟩
theorem RdB.drew {w : World} {B : Nat} {v : Value} {l : List UInt8} (h : RdB w B v l) : RdB w.drew B v l := h

theorem own_cap {w : World} {base : Nat} {v : Value} {l : List UInt8} (h : OwnB w base v l) : ∃ A c, v = .slice A l.length c ∧ l.length ≤ c ∧ c ≤ maxLen ∧ (0 < l.length → ∃ b o, A = some ⟨b, o, none⟩ ∧ b < w.heap.size ∧
    ∀ (k : Nat) (u : UInt8), l[k]? = some u → w.cell? ⟨b, o + k, none⟩ = some (.int .u8 (u.toNat : Int))) := by
  rcases h.2 with ⟨rfl, hn⟩ | ⟨g, cap, cur, rfl, hb, hg, hnc, hcm, hcs, htake⟩
  · exact ⟨none, 0, by rw [hn], by omega, by simp [maxLen], by omega⟩
  · refine ⟨_, cap, rfl, hnc, hcm, fun hp => ⟨g, 0, rfl, (Array.getElem?_eq_some_iff.1 hg).1, fun k u hk => ?_⟩⟩
    have hkl : k < l.length := (List.getElem?_eq_some_iff.1 hk).1
    rw [cell_of_row _ _ _ _ _ (0, 0) hg]
    have : (bv l)[k]? = some (.int .u8 (u.toNat : Int)) := by simp [bv, hk]
    rw [← htake, List.getElem?_take, if_pos (by omega)] at this
    simpa using this

theorem OwnB.rd {w : World} {base : Nat} {v : Value} {l : List UInt8} (h : OwnB w base v l) : RdB w w.heap.size v l := by
  obtain ⟨A, c, e, h1, h2, h3⟩ := own_cap h
  exact ⟨A, c, e, h1, by simpa [maxLen] using h2, h3⟩

/-- Bytes as a text, in whatever world they read so. -/
theorem conv_str {w : World} {A : Option Addr} {c : Nat} {l : List UInt8} (h : 0 < l.length → ∃ b o, A = some ⟨b, o, none⟩ ∧ ∀ (k : Nat) (u : UInt8), l[k]? = some u → w.cell? ⟨b, o + k, none⟩ = some (.int .u8 (u.toNat : Int))) :
    (convert 24 9 (.slice A l.length c)).run Try.prog w = .ok (.string ⟨l.toArray⟩) w := by
  rcases Nat.eq_zero_or_pos l.length with h0 | h0
  · have hl : l = [] := List.eq_nil_of_length_eq_zero h0
    subst hl
    cases A with
    | none => exact run_convert_bytes_nil w _ 5 Try.underlying24 Try.underlying5 _ _ _ Try.underlying9
    | some a =>
      rw [run_convert_bytes_string w _ _ 5 _ _ _ Try.underlying24 Try.underlying5 Try.underlying9, run_bytesToString w a _ _ [] (by simp [loadCells, loadCellsFrom])]
      rfl
  · obtain ⟨b, o, rfl, hc⟩ := h h0
    have := run_convert_bytes_arg (P := Try.prog) w 24 5 Try.underlying24 Try.underlying5 b o l.length c (l.map fun u => (u.toNat : Int)) (by simp) (fun i hi => by
      rw [hc i l[i] (List.getElem?_eq_getElem hi)]
      simp [hi]) 9 Try.underlying9
    rw [this]
    simp [strOfNums, Function.comp_def]

theorem RdB.str {w : World} {B : Nat} {v : Value} {l : List UInt8} (h : RdB w B v l) : (convert 24 9 v).run Try.prog w = .ok (.string ⟨l.toArray⟩) w := by
  obtain ⟨A, c, rfl, h1, h2, h3⟩ := h
  exact conv_str fun hp => let ⟨b, o, e, _, hc⟩ := h3 hp; ⟨b, o, e, hc⟩
theorem OwnB.str {w : World} {base : Nat} {v : Value} {l : List UInt8} (h : OwnB w base v l) : (convert 24 9 v).run Try.prog w = .ok (.string ⟨l.toArray⟩) w := by
  obtain ⟨A, c, rfl, h1, h2, h3⟩ := own_cap h
  exact conv_str fun hp => let ⟨b, o, e, _, hc⟩ := h3 hp; ⟨b, o, e, hc⟩

theorem partOk_mk {t : Bool} {n : Int} {s : ByteArray} (h1 : -9223372036854775808 ≤ n) (h2 : n ≤ 9223372036854775807) (h3 : s.size ≤ 1000000) : PartOk ⟨t, n, s⟩ := ⟨h1, h2, h3⟩

def keyBytes (t : Int) (s : ByteArray) : List UInt8 := encPart ⟨false, t, ⟨#[]⟩⟩ ++ encPart ⟨true, 0, s⟩

set_option maxHeartbeats 400000 in
theorem key_arg (t : Int) (s : ByteArray) (w : World) (h : t < 0 ∨ 3 < t) : Calls Try.prog 21 #[.int .i64 t, .string s] w fun e w' => e = .returned (.tuple #[.string ⟨#[]⟩, .int .i64 1]) ∧ w = w' := by
  have ht : decide (0 ≤ t ∧ t < 4) = false := by simp; omega
  have HT := Lib.hid ht
  clear ht
  go_enter Try.func21, Try.ntmps21
  go_wp2_with (go_at_call 34; refine (table_any _ _).mono ?_; rw [HT.out]; rintro e w' ⟨rfl, rfl⟩)
  go_ret2
  exact ⟨rfl, rfl⟩

set_option maxHeartbeats 400000 in
theorem key_long (t : Int) (s : ByteArray) (w : World) (h1 : 0 ≤ t) (h2 : t ≤ 3) (h3 : 40 < s.size) : Calls Try.prog 21 #[.int .i64 t, .string s] w fun e w' => e = .returned (.tuple #[.string ⟨#[]⟩, .int .i64 5]) ∧ w = w' := by
  have ht : decide (0 ≤ t ∧ t < 4) = true := by simp; omega
  have HT := Lib.hid ht
  clear ht
  go_enter Try.func21, Try.ntmps21
  go_wp2_with (go_at_call 34; refine (table_any _ _).mono ?_; rw [HT.out]; rintro e w' ⟨rfl, rfl⟩)
  go_ret2
  exact ⟨rfl, rfl⟩

/-- A literal of two parts, new. -/
theorem rd_two (w : World) (p q : PartD) : RdParts (w.alloc (.cells #[.bool p.isText, .int .i64 p.num, .string p.text, .bool q.isText, .int .i64 q.num, .string q.text] 43)) (w.heap.size + 1) (.slice (some ⟨w.heap.size, 0, none⟩) 2 2) [p, q] := by
  refine ⟨_, 2, rfl, by simp, by omega, fun _ => ⟨w.heap.size, 0, rfl, by omega, fun k x hk => ?_⟩⟩
  have hc : ∀ i, (w.alloc (.cells #[.bool p.isText, .int .i64 p.num, .string p.text, .bool q.isText, .int .i64 q.num, .string q.text] 43)).cell? ⟨w.heap.size, i, none⟩ = (#[.bool p.isText, .int .i64 p.num, .string p.text, .bool q.isText, .int .i64 q.num, .string q.text] : Array Value)[i]? :=
    fun i => cell_of_row _ _ i _ _ (0, 0) (heap_alloc_new w _)
  match k, hk with
  | 0, hk => cases hk; exact ⟨(hc _).trans rfl, (hc _).trans rfl, (hc _).trans rfl⟩
  | 1, hk => cases hk; exact ⟨(hc _).trans rfl, (hc _).trans rfl, (hc _).trans rfl⟩
  | k + 2, hk => simp at hk

set_option maxHeartbeats 400000 in
theorem key_ok (t : Int) (s : ByteArray) (w : World) (h1 : 0 ≤ t) (h2 : t ≤ 3) (h3 : s.size ≤ 40) : Calls Try.prog 21 #[.int .i64 t, .string s] w fun e w' => e = .returned (.tuple #[.string ⟨(keyBytes t s).toArray⟩, .int .i64 0]) ∧ Below w.heap.size w w' := by
  have ht : decide (0 ≤ t ∧ t < 4) = true := by simp; omega
  have HT := Lib.hid ht
  clear ht
  have hp : ∀ p ∈ [(⟨false, t, ⟨#[]⟩⟩ : PartD), ⟨true, 0, s⟩], PartOk p := by
    intro p hp
    simp only [List.mem_cons, List.not_mem_nil, or_false] at hp
    rcases hp with rfl | rfl
    · exact partOk_mk (by omega) (by omega) (by decide)
    · exact partOk_mk (by omega) (by omega) (by omega)
  have HP := Lib.hid hp
  clear hp
  have hr := rd_two w ⟨false, t, ⟨#[]⟩⟩ ⟨true, 0, s⟩
  have HR := Lib.hid hr
  clear hr
  go_enter Try.func21, Try.ntmps21
  go_wp2_with (first
    | (go_at_call 34; refine (table_any _ _).mono ?_; rw [HT.out]; rintro e w' ⟨rfl, rfl⟩)
    | (go_at_call 12; refine (order_write _ _ _ (by simpa using HR.out) HP.out (by simp)).mono ?_; rintro e w' ⟨v, rfl, ho, hb⟩; have hcv := ho.str))
  go_ret2
  exact ⟨by simp [keyBytes, encParts], ((Below.refl _ _).alloc (Nat.le_refl _) _).trans (hb.mono (by simp))⟩

theorem key_ab (w : World) : Calls Try.prog 21 #[.int .i64 1, .string ⟨#[97, 98]⟩] w fun e w' => e = .returned (.tuple #[.string ⟨#[1, 128, 0, 0, 0, 0, 0, 0, 1, 2, 97, 98, 0, 1]⟩, .int .i64 0]) ∧ Below w.heap.size w w' :=
  (key_ok 1 ⟨#[97, 98]⟩ w (by omega) (by omega) (by decide)).mono fun e w' ⟨he, hb⟩ => ⟨by rw [he, show keyBytes 1 ⟨#[97, 98]⟩ = [1, 128, 0, 0, 0, 0, 0, 0, 1, 2, 97, 98, 0, 1] from by decide +kernel], hb⟩

theorem rd_one (w : World) (p : PartD) : RdParts (w.alloc (.cells #[.bool p.isText, .int .i64 p.num, .string p.text] 43)) (w.heap.size + 1) (.slice (some ⟨w.heap.size, 0, none⟩) 1 1) [p] := by
  refine ⟨_, 1, rfl, by simp, by omega, fun _ => ⟨w.heap.size, 0, rfl, by omega, fun k x hk => ?_⟩⟩
  have hc : ∀ i, (w.alloc (.cells #[.bool p.isText, .int .i64 p.num, .string p.text] 43)).cell? ⟨w.heap.size, i, none⟩ = (#[.bool p.isText, .int .i64 p.num, .string p.text] : Array Value)[i]? :=
    fun i => cell_of_row _ _ i _ _ (0, 0) (heap_alloc_new w _)
  match k, hk with
  | 0, hk => cases hk; exact ⟨(hc _).trans rfl, (hc _).trans rfl, (hc _).trans rfl⟩
  | k + 1, hk => simp at hk
theorem rd_none (w : World) (B : Nat) : RdParts w B (.slice none 0 0) [] := ⟨none, 0, rfl, by simp, by omega, fun h => absurd h (by simp)⟩

set_option maxHeartbeats 400000 in
theorem lives_any (w : World) : Calls Try.prog 16 #[] w fun e w' => e = .returned (.bool true) ∧ Below w.heap.size w w' := by
  go_enter Try.func16, Try.ntmps16
  go_wp2_with (first
    | (go_at_call 21; refine (key_ab _).mono ?_; rintro e w1 ⟨rfl, hb1⟩; have hr := Lib.hid (rd_one w1 ⟨false, 1, ⟨#[]⟩⟩))
    | (go_at_call 19; refine (order_compare _ _ [⟨false, 1, ⟨#[]⟩⟩] [] _ (by simpa using hr.out) (rd_none _ _)).mono ?_; rintro e w2 ⟨rfl, hb2⟩))
  go_ret
  exact ⟨rfl, (hb1.alloc (hb1.size) _).trans (hb2.mono (by simp; have := hb1.size; omega))⟩
end Go.Proofs.Ytnapadpkfjpklaa
