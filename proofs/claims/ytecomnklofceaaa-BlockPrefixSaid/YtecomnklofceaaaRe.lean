/- Layer 6: lists of versions: are they the same, their bytes, by the document. -/
import Derived.Test.YtecomnklofceaaaRR
import Derived.Test.YtecomnklofceaaaBgen
import Derived.Test.YtecomnklofceaaaBcopy
import Derived.Laws.StructEq
namespace Go.Proofs.Ytecomnklofceaaa
open Go.RowKit
set_option linter.unusedVariables false

def verL : Lay Ver := ⟨8, fun v => [.string v.key, .int .i64 v.b, .int .i64 v.e, .int .i64 v.s, .int .i64 v.sp.1, .int .i64 v.sp.2, .string v.val, .bool v.gone], fun _ => rfl, fun x u hu => by simp at hu; rcases hu with rfl | rfl | rfl | rfl | rfl | rfl | rfl | rfl <;> rfl, by decide⟩
theorem ver_info : (Try.prog.info? 39).map (fun i => (i.zero, i.size, i.bytes)) = some (some (.agg #[.string ⟨#[]⟩, .int .i64 0, .int .i64 0, .int .i64 0, .int .i64 0, .int .i64 0, .string ⟨#[]⟩, .bool false]), 8, 80) := by kernel_rfl
abbrev RdVr (w : World) (B : Nat) (v : Value) (l : List Ver) : Prop := RdX verL w B v l
abbrev OwnVr (w : World) (base : Nat) (v : Value) (l : List Ver) : Prop := OwnX verL 39 w base v l
theorem RdVr.here {w : World} {B : Nat} {A : Option Addr} {n c : Nat} {l : List Ver} (h : RdVr w B (.slice A n c) l) (k : Nat) (hk : k < l.length) : ∃ b o, A = some ⟨b, o, none⟩ ∧ b < B ∧
    w.cell? ⟨b, o + k * 8, none⟩ = some (.string l[k].key) ∧ w.cell? ⟨b, o + k * 8 + 1, none⟩ = some (.int .i64 l[k].b) ∧ w.cell? ⟨b, o + k * 8 + 2, none⟩ = some (.int .i64 l[k].e) ∧ w.cell? ⟨b, o + k * 8 + 3, none⟩ = some (.int .i64 l[k].s) ∧
    w.cell? ⟨b, o + k * 8 + 4, none⟩ = some (.int .i64 l[k].sp.1) ∧ w.cell? ⟨b, o + k * 8 + 5, none⟩ = some (.int .i64 l[k].sp.2) ∧ w.cell? ⟨b, o + k * 8 + 6, none⟩ = some (.string l[k].val) ∧ w.cell? ⟨b, o + k * 8 + 7, none⟩ = some (.bool l[k].gone) := by
  obtain ⟨b, o, rfl, hb, hc⟩ := h.at k hk
  exact ⟨b, o, rfl, hb, hc 0 _ rfl, hc 1 _ rfl, hc 2 _ rfl, hc 3 _ rfl, hc 4 _ rfl, hc 5 _ rfl, hc 6 _ rfl, hc 7 _ rfl⟩
theorem bytes_list6 (a b : ByteArray) : (a.toList = b.toList) ↔ a = b := by
  constructor
  · intro e
    rw [ByteArray.toList_eq, ByteArray.toList_eq] at e
    obtain ⟨⟨x⟩⟩ := a
    obtain ⟨⟨y⟩⟩ := b
    simp at e
    subst e
    rfl
  · intro e; rw [e]
theorem ver_neq_same (W : World) (a : Ver) : (binOp .neq 39 (verV a) (verV a)).run Try.prog W = .ok (.bool false) W := by
  unfold verV
  go_simp
theorem ver_neq_diff (W : World) (a b : Ver) (h : a ≠ b) : (binOp .neq 39 (verV a) (verV b)).run Try.prog W = .ok (.bool true) W := by
  obtain ⟨k1, b1, e1, s1, ⟨x1, y1⟩, u1, g1⟩ := a
  obtain ⟨k2, b2, e2, s2, ⟨x2, y2⟩, u2, g2⟩ := b
  unfold verV
  have h1 := bytes_list6 k1 k2
  have h2 := bytes_list6 u1 u2
  go_simp
  intro a1 a2 a3 a4 a5 a6 a7 a8
  subst a1 a2 a3 a4 a5 a6 a7 a8
  exact h rfl

set_option maxHeartbeats 4000000 in
theorem ref6_same (va vb : Value) (l m : List Ver) (w : World) (ha : RdVr w w.heap.size va l) (hb : RdVr w w.heap.size vb m) :
    Calls Try.prog 13 #[va, vb] w fun e w' => ∃ r : Bool, e = .returned (.bool r) ∧ (r = true ↔ l = m) ∧ Below w.heap.size w w' := by
  have HA := Lib.hid ha
  have HB := Lib.hid hb
  obtain ⟨A, ca, rfl, hla, hca, -⟩ := ha
  obtain ⟨B, cb, rfl, hlb, hcb, -⟩ := hb
  by_cases hlen : l.length = m.length
  · have z0 : ((l.length : Int) != (m.length : Int)) = false := by simp [bne, hlen]
    have HL := Lib.hid hlen
    go_enter Try.func13, Try.ntmps13
    clear hlen
    go_wp2_with fail
    go_loopw [5] (fun i wr => ∃ k : Nat, i = .int .i64 k ∧ k ≤ l.length ∧ l.take k = m.take k ∧ Below w.heap.size w wr) (fun i _ => l.length - (intOf i).toNat)
    case atStart => exact ⟨0, rfl, Nat.zero_le _, rfl, Below.refl _ _⟩
    case round =>
      obtain ⟨k, rfl, hk, ht, hbw⟩ := hrel
      have G := Lib.hid hbw
      have T := Lib.hid ht
      clear hbw ht
      by_cases hlt : k < l.length
      · have hltm : k < m.length := by have := HL.out; omega
        obtain ⟨ba, oa, rfl, hba, ca0, ca1, ca2, ca3, ca4, ca5, ca6, ca7⟩ := RdVr.here (HA.out.below G.out) k hlt
        obtain ⟨bb, ob, rfl, hbb, cb0, cb1, cb2, cb3, cb4, cb5, cb6, cb7⟩ := RdVr.here (HB.out.below G.out) k hltm
        have hs1 : l.take (k + 1) = l.take k ++ [l[k]] := List.take_succ_eq_append_getElem hlt
        have hs2 : m.take (k + 1) = m.take k ++ [m[k]] := List.take_succ_eq_append_getElem hltm
        have S1 := Lib.hid hs1
        have S2 := Lib.hid hs2
        have NE := Lib.hid (show l[k] ≠ m[k] → l ≠ m from fun h e => h (by subst e; rfl))
        clear hs1 hs2
        generalize l[k] = p at *
        generalize m[k] = q at *
        by_cases hpq : p = q
        · subst hpq
          have hne := fun W => ver_neq_same W p
          unfold verV at hne
          go_wp2_with fail
          go_quiet (fail)
          go_wp2_with fail
          go_roundw
          case rel => exact ⟨k + 1, by go_num, by omega, by rw [S1.out, S2.out, T.out], G.out.drewN _⟩
          case measure => simp [intOf]; omega
        · have hne := fun W => ver_neq_diff W p q hpq
          unfold verV at hne
          have LM := Lib.hid (NE.out hpq)
          clear hpq
          go_wp2_with fail
          go_quiet (fail)
          go_wp2_with fail
          go_ret
          exact ⟨_, rfl, ⟨(fun h => by cases h), fun h => absurd h LM.out⟩, G.out.drewN _⟩
      · have LM := Lib.hid (show l = m from by
          have h1 : l.take k = l := List.take_of_length_le (by omega)
          have h2 : m.take k = m := List.take_of_length_le (by have := HL.out; omega)
          rw [← h1, T.out, h2])
        go_wp2_with fail
        go_ret
        exact ⟨_, rfl, ⟨fun _ => LM.out, fun _ => rfl⟩, G.out⟩
  · have z0 : ((l.length : Int) != (m.length : Int)) = true := by simp [bne]; omega
    have LM := Lib.hid (show l ≠ m from fun e => hlen (by rw [e]))
    clear hlen
    go_enter Try.func13, Try.ntmps13
    go_wp2_with fail
    go_ret
    exact ⟨_, rfl, ⟨(fun h => by cases h), fun h => absurd h LM.out⟩, Below.refl _ _⟩

def encVs (l : List Ver) : List UInt8 := l.flatMap encV
theorem encV_len {v : Ver} (hm : mayV v = true) (hk : v.key.size ≤ 1000) : (encV v).length ≤ 1300 := by
  have h1 := encNs_len (numsV v) (fun n hn => Int.le_trans (numsV_bd hm n hn).2 (by omega))
  have h2 := encT_len v.key (by omega)
  have h3 := (mayV_iff hm).2.2.1
  have h4 := encT_len v.val (by omega)
  have h5 : (numsV v).length = 6 := rfl
  unfold encV
  rw [List.length_append, List.length_append]
  omega
theorem encVs_len (l : List Ver) (hm : ∀ v ∈ l, mayV v = true ∧ v.key.size ≤ 1000) : (encVs l).length ≤ 1300 * l.length := by
  induction l with
  | nil => simp [encVs]
  | cons v l ih =>
    have h1 := ih (fun x hx => hm x (by simp [hx]))
    have h2 := encV_len (hm v (by simp)).1 (hm v (by simp)).2
    unfold encVs at *
    rw [List.flatMap_cons, List.length_append, List.length_cons]
    omega

end Go.Proofs.Ytecomnklofceaaa
