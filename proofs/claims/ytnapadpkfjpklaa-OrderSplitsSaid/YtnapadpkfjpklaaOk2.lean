/- Layer 1: a key's bytes, split: the program and the document's answer; the document's key. -/
import Derived.Test.YtnapadpkfjpklaaOz
import Derived.Test.YtnapadpkfjpklaaOo
import Derived.Laws.Runes
namespace Go.Proofs.Ytnapadpkfjpklaa
open Go.RowKit
set_option linter.unusedVariables false

theorem ref_key (t : Int) (s : ByteArray) (w : World) (h1 : -9223372036854775808 ≤ t) (h2 : t ≤ 9223372036854775807) (h3 : s.size ≤ 1000000) : Calls Try.prog 23 #[.int .i64 t, .string s] w fun e w' => e = .returned (.string ⟨(keyBytes t s).toArray⟩) ∧ Below w.heap.size w w' := by
  have hp : ∀ p ∈ [(⟨false, t, ⟨#[]⟩⟩ : PartD), ⟨true, 0, s⟩], PartOk p := by
    intro p hp
    simp only [List.mem_cons, List.not_mem_nil, or_false] at hp
    rcases hp with rfl | rfl
    · exact partOk_mk (by omega) (by omega) (by decide)
    · exact partOk_mk (by omega) (by omega) (by omega)
  have HP := Lib.hid hp
  clear hp
  have hr := rd_two w ⟨false, t, ⟨#[]⟩⟩ ⟨true, 0, s⟩
  have HR := Lib.hid hr
  clear hr
  go_enter Try.func23, Try.ntmps23
  go_wp2_with (first
    | (go_at_call 15; refine (ref_write _ _ _ (by simpa using HR.out) HP.out (by simp)).mono ?_; rintro e w' ⟨v, rfl, ho, hb⟩; have hcv := ho.str))
  go_ret
  exact ⟨by simp [keyBytes, encParts], ((Below.refl _ _).alloc (Nat.le_refl _) _).trans (hb.mono (by simp))⟩

/-- Is a tuple a key? -/
def keyOf (l : List PartD) : Option (Int × ByteArray) :=
  match l with
  | [p, q] => if p.isText = false ∧ q.isText = true ∧ 0 ≤ p.num ∧ p.num < 4 ∧ q.text.size ≤ 40 then some (p.num, q.text) else none
  | _ => none

set_option maxHeartbeats 800000 in
theorem is_key (v : Value) (l : List PartD) (w : World) (h : RdParts w w.heap.size v l) :
    Calls Try.prog 35 #[v] w fun e w' => e = .returned (.bool (keyOf l).isSome) ∧ w = w' := by
  have H := Lib.hid h
  obtain ⟨A, c, rfl, hlc, hc, hcell⟩ := h
  by_cases h2 : l.length = 2
  · obtain ⟨p, q, rfl⟩ : ∃ p q, l = [p, q] := by
      match l, h2 with
      | [p, q], _ => exact ⟨p, q, rfl⟩
    obtain ⟨b, o, rfl, hb, hcell⟩ := hcell (by simp)
    obtain ⟨a0, a1, a2⟩ := hcell 0 p rfl
    obtain ⟨b0, b1, b2⟩ := hcell 1 q rfl
    obtain ⟨tp, np, sp⟩ := p
    obtain ⟨tq, nq, sq⟩ := q
    simp only [Nat.zero_mul, Nat.add_zero, Nat.one_mul] at a0 a1 a2 b0 b1 b2
    simp only [List.length_cons, List.length_nil] at *
    clear hcell h2
    cases tp
    · cases tq
      · go_enter Try.func35, Try.ntmps35
        go_wp2
        go_ret
        exact ⟨by simp [keyOf], rfl⟩
      · by_cases hn : 0 ≤ np ∧ np < 4
        · have hd := decide_eq_true hn
          have HD := Lib.hid hd
          clear hd
          go_enter Try.func35, Try.ntmps35
          go_wp2_with (go_at_call 34; refine (table_any _ _).mono ?_; rw [HD.out]; rintro e w' ⟨rfl, rfl⟩)
          go_ret
          exact ⟨ret_bool (by by_cases hs : sq.size ≤ 40 <;> simp [keyOf, hn.1, hn.2, hs] <;> omega), rfl⟩
        · have hd := decide_eq_false hn
          have HD := Lib.hid hd
          have HN := Lib.hid hn
          clear hd hn
          go_enter Try.func35, Try.ntmps35
          go_wp2_with (go_at_call 34; refine (table_any _ _).mono ?_; rw [HD.out]; rintro e w' ⟨rfl, rfl⟩)
          go_ret
          exact ⟨ret_bool (by have := HN.out; simp [keyOf]; intro h1 h2; exact absurd ⟨h1, h2⟩ this), rfl⟩
    · go_enter Try.func35, Try.ntmps35
      go_wp2
      go_ret
      exact ⟨by simp [keyOf], rfl⟩
  · have h3 : ((l.length : Int) != 2) = true := by simp; omega
    have hk : (keyOf l).isSome = false := by
      unfold keyOf
      split
      · simp at h2
      · rfl
    have HK := Lib.hid hk
    clear hk hcell
    go_enter Try.func35, Try.ntmps35
    go_wp2
    go_ret
    exact ⟨ret_bool HK.out.symm, rfl⟩
end Go.Proofs.Ytnapadpkfjpklaa
