/- Layer 12, plain: keys in a list; the document's at, Height. -/
import Derived.Test.YtlihiojdjcmggaaBxx
import Derived.Test.YtlihiojdjcmggaaBE
namespace Go.Proofs.Ytlihiojdjcmggaa
open Go.RowKit
set_option linter.unusedVariables false

structure It where
  key : ByteArray
  level : Int
  v : Int
def itL : Lay It := ⟨3, fun x => [.string x.key, .int .i64 x.level, .int .i64 x.v], fun _ => rfl, fun x u hu => by simp at hu; rcases hu with rfl | rfl | rfl <;> rfl, by omega⟩
theorem it_info : (Try.prog.info? 46).map (fun i => (i.zero, i.size, i.bytes)) = some (some (.agg #[.string ⟨#[]⟩, .int .i64 0, .int .i64 0]), itL.sz, 32) := by kernel_rfl
theorem RdX.it {w : World} {B n c : Nat} {A : Option Addr} {l : List It} (h : RdX itL w B (.slice A n c) l) (k : Nat) (hk : k < l.length) {s : ByteArray} {p f : Int} (e : l[k] = ⟨s, p, f⟩) : ∃ b o, A = some ⟨b, o, none⟩ ∧ b < B ∧
    w.cell? ⟨b, o + k * 3, none⟩ = some (.string s) ∧ w.cell? ⟨b, o + k * 3 + 1, none⟩ = some (.int .i64 p) ∧ w.cell? ⟨b, o + k * 3 + 2, none⟩ = some (.int .i64 f) := by
  obtain ⟨b, o, rfl, hb, hc⟩ := h.at k hk
  rw [e] at hc
  exact ⟨b, o, rfl, hb, hc 0 _ rfl, hc 1 _ rfl, hc 2 _ rfl⟩
theorem bytes_eqK (a b : ByteArray) : a.toList = b.toList ↔ a = b := by
  constructor
  · intro h
    rw [ByteArray.toList_eq, ByteArray.toList_eq] at h
    exact ByteArray.ext (Array.toList_inj.1 h)
  · intro h; rw [h]

/-- Is a key not ahead of another? -/
def geK (a b : ByteArray) : Bool := !(Op.bytesLess a.toList b.toList)
def atI (key : ByteArray) : List It → Nat
  | [] => 0
  | x :: r => if geK x.key key = true then 0 else atI key r + 1
def hereI (l : List It) (key : ByteArray) : Bool := match l[atI key l]? with | some x => x.key.toList == key.toList | none => false
theorem at_le (key : ByteArray) : ∀ l : List It, atI key l ≤ l.length
  | [] => Nat.le_refl _
  | x :: r => by
    have := at_le key r
    rw [atI, List.length_cons]
    split <;> omega
theorem at_drop (key : ByteArray) {l : List It} {k : Nat} (hk : k < l.length) : atI key (l.drop k) = if geK l[k].key key = true then 0 else atI key (l.drop (k + 1)) + 1 := by
  rw [List.drop_eq_getElem_cons hk, atI]
theorem here_at {l : List It} {key : ByteArray} {k : Nat} (h : atI key l = k) (hk : k < l.length) : hereI l key = (l[k].key.toList == key.toList) := by
  unfold hereI
  rw [h, List.getElem?_eq_getElem hk]
theorem here_none {l : List It} {key : ByteArray} (h : atI key l = l.length) : hereI l key = false := by
  unfold hereI
  rw [h, List.getElem?_eq_none (Nat.le_refl _)]
theorem here_lt {l : List It} {key : ByteArray} (h : hereI l key = true) : ∃ hk : atI key l < l.length, l[atI key l].key = key := by
  rcases Nat.lt_or_ge (atI key l) l.length with hk | hk
  · refine ⟨hk, ?_⟩
    rw [here_at rfl hk, beq_iff_eq] at h
    exact (bytes_eqK _ _).1 h
  · rw [here_none (Nat.le_antisymm (at_le _ _) hk)] at h; cases h

theorem ret_ib {a : Nat} {b : Nat} {c d : Bool} (h : a = b) (h2 : c = d) : Ending.returned (.tuple #[.int .i64 (a : Int), .bool c]) = .returned (.tuple #[.int .i64 (b : Int), .bool d]) := by rw [h, h2]
theorem ret_sb {a b : ByteArray} {c d : Bool} (h : a = b) (h2 : c = d) : Ending.returned (.tuple #[.string a, .bool c]) = .returned (.tuple #[.string b, .bool d]) := by rw [h, h2]
set_option maxHeartbeats 2000000 in
theorem ref_atK (va : Value) (l : List It) (key : ByteArray) (w : World) (ha : RdX itL w w.heap.size va l) (hl : l.length ≤ 100000) :
    Calls Try.prog 30 #[va, .string key] w fun z w' => z = .returned (.tuple #[.int .i64 (atI key l : Nat), .bool (hereI l key)]) ∧ Below w.heap.size w w' := by
  have HA := Lib.hid ha
  have HL := Lib.hid hl
  obtain ⟨A, ca, rfl, -⟩ := ha
  clear hl
  go_enter Try.func30, Try.ntmps30
  go_wp2_with fail
  go_loopw [6] (fun i wr => ∃ k : Nat, i = .int .i64 k ∧ k ≤ l.length ∧ atI key l = k + atI key (l.drop k) ∧ Below w.heap.size w wr) (fun i _ => l.length - (intOf i).toNat)
  case atStart => exact ⟨0, rfl, Nat.zero_le _, by simp, Below.refl _ _⟩
  case round =>
    obtain ⟨k, rfl, hk, hR, hbw⟩ := hrel
    rename World => wo
    have G := Lib.hid hbw
    clear hbw
    by_cases hlt : k < l.length
    · have zl : decide ((k : Int) < (l.length : Int)) = true := by simp; omega
      have hw64 : IntKind.i64.wrap ((k : Int) + 1) = (k : Int) + 1 := by rw [IntKind.wrap_i64]; have := HL.out; omega
      rw [at_drop key hlt] at hR
      have HH := Lib.hid (fun h => here_at (l := l) (key := key) (k := k) h hlt)
      obtain ⟨x, hx⟩ : ∃ x, l[k] = x := ⟨_, rfl⟩
      rw [hx] at hR HH
      obtain ⟨s, p, f⟩ := x
      obtain ⟨bb, o, rfl, -, e0, e1, e2⟩ := RdX.it (HA.out.below G.out) k hlt hx
      have HX := Lib.hid hx
      have HK := Lib.hid hlt
      clear hx
      simp only at hR HH
      cases c1 : Op.bytesLess s.toList key.toList
      · have HN := Lib.hid (show atI key l = k from by rw [hR, if_pos (by unfold geK; rw [c1]; rfl)]; rfl)
        have HH := Lib.hid (HH.out HN.out)
        clear hR
        go_wp2_with fail
        refine reg_start (by kernel_rfl) ?_
        refine reg_take2 0 20 (v := ?_) (T' := ?_) (Later.refl _) (by kernel_rfl) (by kernel_rfl) (by kernel_rfl) (fun _ _ _ h => h) (fun o ho => ?_) ?_ ?_
        rotate_left 2
        · cases ho
          refine ⟨rfl, rfl, fun W hW => ?_⟩
          go_simp; (try with_reducible rfl)
        · simp only [List.setIfInBounds_toArray, List.set_cons_succ, List.set_cons_zero]; exact rfl
        refine reg_take2 1 21 (v := ?_) (T' := ?_) (Later.refl _) (by kernel_rfl) (by kernel_rfl) (by kernel_rfl) (fun _ _ _ h => h) (fun o ho => ?_) ?_ ?_
        rotate_left 2
        · cases ho
          refine ⟨rfl, rfl, fun W hW => ?_⟩
          go_simp; (try with_reducible rfl)
        · simp only [List.setIfInBounds_toArray, List.set_cons_succ, List.set_cons_zero]; exact rfl
        refine reg_take2 2 22 (v := ?_) (T' := ?_) (Later.refl _) (by kernel_rfl) (by kernel_rfl) (by kernel_rfl) (fun _ _ _ h => h) (fun o ho => ?_) ?_ ?_
        rotate_left 2
        · cases ho
          refine ⟨rfl, rfl, fun W hW => ?_⟩
          go_simp; (try with_reducible rfl)
        · simp only [List.setIfInBounds_toArray, List.set_cons_succ, List.set_cons_zero]; exact rfl
        refine reg_take2 3 23 (v := ?_) (T' := ?_) (Later.refl _) (by kernel_rfl) (by kernel_rfl) (by kernel_rfl) (fun _ _ _ h => h) (fun o ho => ?_) ?_ ?_
        rotate_left 2
        · cases ho
          refine ⟨rfl, rfl, fun W hW => ?_⟩
          obtain ⟨bq, oq, hq, -, n0, n1, n2⟩ := RdX.it (HA.out.below (G.out.drew.trans (hW.mono G.out.size))) k HK.out HX.out
          cases hq
          go_simp; (try with_reducible rfl)
        · simp only [List.setIfInBounds_toArray, List.set_cons_succ, List.set_cons_zero]; exact rfl
        refine reg_take2 4 24 (v := ?_) (T' := ?_) (Later.refl _) (by kernel_rfl) (by kernel_rfl) (by kernel_rfl) (fun _ _ _ h => h) (fun o ho => ?_) ?_ ?_
        rotate_left 2
        · cases ho
          refine ⟨rfl, rfl, fun W hW => ?_⟩
          go_simp; (try with_reducible rfl)
        · simp only [List.setIfInBounds_toArray, List.set_cons_succ, List.set_cons_zero]; exact rfl
        refine reg_take2 5 25 (v := ?_) (T' := ?_) (Later.refl _) (by kernel_rfl) (by kernel_rfl) (by kernel_rfl) (fun _ _ _ h => h) (fun o ho => ?_) ?_ ?_
        rotate_left 2
        · cases ho
          refine ⟨rfl, rfl, fun W hW => ?_⟩
          obtain ⟨bq, oq, hq, -, n0, n1, n2⟩ := RdX.it (HA.out.below (G.out.drew.trans (hW.mono G.out.size))) k HK.out HX.out
          cases hq
          go_simp; (try with_reducible rfl)
        · simp only [List.setIfInBounds_toArray, List.set_cons_succ, List.set_cons_zero]; exact rfl
        refine reg_take2 6 26 (v := ?_) (T' := ?_) (Later.refl _) (by kernel_rfl) (by kernel_rfl) (by kernel_rfl) (fun _ _ _ h => h) (fun o ho => ?_) ?_ ?_
        rotate_left 2
        · cases ho
          refine ⟨rfl, rfl, fun W hW => ?_⟩
          go_simp; (try with_reducible rfl)
        · simp only [List.setIfInBounds_toArray, List.set_cons_succ, List.set_cons_zero]; exact rfl
        refine reg_take2 7 27 (v := ?_) (T' := ?_) (Later.refl _) (by kernel_rfl) (by kernel_rfl) (by kernel_rfl) (fun _ _ _ h => h) (fun o ho => ?_) ?_ ?_
        rotate_left 2
        · cases ho
          refine ⟨rfl, rfl, fun W hW => ?_⟩
          go_simp; (try with_reducible rfl)
        · simp only [List.setIfInBounds_toArray, List.set_cons_succ, List.set_cons_zero]; exact rfl
        refine reg_take2 8 4 (v := ?_) (T' := ?_) (Later.refl _) (by kernel_rfl) (by kernel_rfl) (by kernel_rfl) (fun _ _ _ h => h) (fun o ho => ?_) ?_ ?_
        rotate_left 2
        · cases ho
          refine ⟨rfl, rfl, fun W hW => ?_⟩
          go_simp; (try with_reducible rfl)
        · simp only [List.setIfInBounds_toArray, List.set_cons_succ, List.set_cons_zero]; exact rfl
        refine reg_take2 9 5 (v := ?_) (T' := ?_) (Later.refl _) (by kernel_rfl) (by kernel_rfl) (by kernel_rfl) (fun _ _ _ h => h) (fun o ho => ?_) ?_ ?_
        rotate_left 2
        · cases ho
          refine ⟨rfl, rfl, fun W hW => ?_⟩
          go_simp; (try with_reducible rfl)
        · simp only [List.setIfInBounds_toArray, List.set_cons_succ, List.set_cons_zero]; exact rfl
        refine reg_done (by kernel_rfl) ?_
        go_wp2_with fail
        have G := Lib.hid (G.out.drewN 1)
        go_ret2
        exact ⟨ret_ib HN.out.symm HH.out.symm, G.out⟩
      · have HN := Lib.hid (show atI key l = k + 1 + atI key (l.drop (k + 1)) from by rw [hR, if_neg (by unfold geK; rw [c1]; decide)]; omega)
        clear hR HH
        go_wp2_with fail
        go_roundw
        case rel => exact ⟨k + 1, by go_num, by omega, HN.out, G.out⟩
        case measure => simp [intOf]; omega
    · have hkl : k = l.length := by omega
      subst hkl
      have HN := Lib.hid (show atI key l = l.length from by rw [hR, List.drop_length]; rfl)
      have HH := Lib.hid (here_none HN.out)
      have zl : decide ((l.length : Int) < (l.length : Int)) = false := by simp
      clear hlt hR
      go_wp2_with fail
      go_ret2
      exact ⟨ret_ib HN.out.symm HH.out.symm, G.out⟩

def heightGo (n : Int) : List It → Int
  | [] => n
  | x :: r => heightGo (if n < x.level then x.level else n) r
def heightI (l : List It) : Int := heightGo 0 l
theorem height_drop (n : Int) {l : List It} {k : Nat} (hk : k < l.length) : heightGo n (l.drop k) = heightGo (if n < l[k].level then l[k].level else n) (l.drop (k + 1)) := by
  rw [List.drop_eq_getElem_cons hk, heightGo]
set_option maxHeartbeats 2000000 in
theorem ref_height (va : Value) (l : List It) (w : World) (ha : RdX itL w w.heap.size va l) (hl : l.length ≤ 100000) :
    Calls Try.prog 26 #[va] w fun z w' => z = .returned (.int .i64 (heightI l)) ∧ w' = w := by
  have HA := Lib.hid ha
  have HL := Lib.hid hl
  obtain ⟨A, ca, rfl, -⟩ := ha
  clear hl
  go_enter Try.func26, Try.ntmps26
  go_wp2_with fail
  go_loopw [3, 4] (fun n i wr => ∃ (k : Nat) (m : Int), i = .int .i64 k ∧ n = .int .i64 m ∧ k ≤ l.length ∧ heightI l = heightGo m (l.drop k) ∧ wr = w) (fun _ i _ => l.length - (intOf i).toNat)
  case atStart => exact ⟨0, 0, rfl, rfl, Nat.zero_le _, rfl, rfl⟩
  case round =>
    obtain ⟨k, m, rfl, rfl, hk, hR, rfl⟩ := hrel
    by_cases hlt : k < l.length
    · have zl : decide ((k : Int) < (l.length : Int)) = true := by simp; omega
      have hw64 : IntKind.i64.wrap ((k : Int) + 1) = (k : Int) + 1 := by rw [IntKind.wrap_i64]; have := HL.out; omega
      rw [height_drop m hlt] at hR
      obtain ⟨x, hx⟩ : ∃ x, l[k] = x := ⟨_, rfl⟩
      rw [hx] at hR
      obtain ⟨s, p, f⟩ := x
      obtain ⟨bb, o, rfl, -, e0, e1, e2⟩ := RdX.it HA.out k hlt hx
      clear hx
      simp only at hR
      by_cases c : m < p
      · have c1 : decide (m < p) = true := by rw [decide_eq_true_eq]; exact c
        rw [if_pos c] at hR
        have HR := Lib.hid hR
        clear hR c
        go_wp2_with fail
        go_roundw
        case rel => exact ⟨k + 1, p, by go_num, rfl, by omega, HR.out, by trivial⟩
        case measure => simp [intOf]; omega
      · have c1 : decide (m < p) = false := by rw [decide_eq_false_iff_not]; exact c
        rw [if_neg c] at hR
        have HR := Lib.hid hR
        clear hR c
        go_wp2_with fail
        go_roundw
        case rel => exact ⟨k + 1, m, by go_num, rfl, by omega, HR.out, by trivial⟩
        case measure => simp [intOf]; omega
    · have hkl : k = l.length := by omega
      subst hkl
      have HN := Lib.hid (show heightI l = m from by rw [hR, List.drop_length]; rfl)
      have zl : decide ((l.length : Int) < (l.length : Int)) = false := by simp
      clear hlt hR
      go_wp2_with fail
      go_ret
      exact ⟨ret_int HN.out.symm, rfl⟩
end Go.Proofs.Ytlihiojdjcmggaa
