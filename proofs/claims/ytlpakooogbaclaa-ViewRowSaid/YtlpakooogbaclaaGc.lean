/- Layer 14: which leg sees a stamp; which of two versions is ahead; by the document. -/
import Derived.Test.YtlpakooogbaclaaGa
import Derived.Test.YtlpakooogbaclaaRR
namespace Go.Proofs.Ytlpakooogbaclaa
open Go.RowKit
set_option linter.unusedVariables false

def lgL : Lay (Int × Int) := ⟨2, fun g => [.int .i64 g.1, .int .i64 g.2], fun _ => rfl, fun b u hu => by simp at hu; rcases hu with rfl | rfl <;> rfl, by omega⟩
def lgV (g : Int × Int) : Value := .agg #[.int .i64 g.1, .int .i64 g.2]
theorem RdX.lg {w : World} {B n c : Nat} {A : Option Addr} {l : List (Int × Int)} (h : RdX lgL w B (.slice A n c) l) (k : Nat) (hk : k < l.length) {p f : Int} (e : l[k] = (p, f)) : ∃ b o, A = some ⟨b, o, none⟩ ∧ b < B ∧
    w.cell? ⟨b, o + k * 2, none⟩ = some (.int .i64 p) ∧ w.cell? ⟨b, o + k * 2 + 1, none⟩ = some (.int .i64 f) := by
  obtain ⟨b, o, rfl, hb, hc⟩ := h.at k hk
  rw [e] at hc
  exact ⟨b, o, rfl, hb, hc 0 _ rfl, hc 1 _ rfl⟩
def legGo (b e : Int) (k : Nat) : List (Int × Int) → Int
  | [] => -1
  | g :: r => if (g.1 == b && decide (e ≤ g.2)) = true then k else legGo b e (k + 1) r
theorem legGo_eq (b e : Int) : ∀ (l : List (Int × Int)) (k : Nat), legGo b e k l = match l.findIdx? fun g => g.1 == b && decide (e ≤ g.2) with | some i => ((i + k : Nat) : Int) | none => -1
  | [], k => rfl
  | g :: r, k => by
    unfold legGo
    rw [List.findIdx?_cons]
    cases h : (g.1 == b && decide (e ≤ g.2))
    · rw [if_neg (by simp), legGo_eq b e r (k + 1)]
      cases r.findIdx? fun g => g.1 == b && decide (e ≤ g.2) with
      | none => rfl
      | some i => show ((i + (k + 1) : Nat) : Int) = ((i + 1 + k : Nat) : Int); omega
    · rw [if_pos rfl]; simp
theorem legI_go (p : List (Int × Int)) (b e : Int) : legI p b e = legGo b e 0 p := by
  rw [legGo_eq]; rfl
theorem leg_drop {p : List (Int × Int)} {k : Nat} (hk : k < p.length) {x y : Int} (hx : p[k] = (x, y)) (b e : Int) : legGo b e k (p.drop k) = if (x == b && decide (e ≤ y)) = true then (k : Int) else legGo b e (k + 1) (p.drop (k + 1)) := by
  rw [List.drop_eq_getElem_cons hk, legGo, hx]
set_option maxHeartbeats 4000000 in
set_option maxRecDepth 100000 in
theorem ref14_leg (va : Value) (p : List (Int × Int)) (b e q : Int) (w : World) (B : Nat) (ha : RdX lgL w B va p) (hB : B ≤ w.heap.size) (hl : p.length ≤ 1000) :
    Calls Try.prog 36 #[va, .agg #[.int .i64 b, .int .i64 e, .int .i64 q]] w fun z w' => z = .returned (.int .i64 (legI p b e)) ∧ Below w.heap.size w w' := by
  have HA := Lib.hid ha
  have HL := Lib.hid hl
  have HB := Lib.hid hB
  have G0 := Lib.hid (alloc_below w (.cells #[.int .i64 b, .int .i64 e, .int .i64 q] 29))
  have BX := Lib.hid (Box.new w #[.int .i64 b, .int .i64 e, .int .i64 q] 29 _ rfl)
  obtain ⟨A, ca, rfl, -⟩ := ha
  clear hl hB
  go_enter Try.func36, Try.ntmps36
  go_wp2_with fail
  go_loopw [5] (fun i wr => ∃ k : Nat, i = .int .i64 k ∧ k ≤ p.length ∧ legI p b e = legGo b e k (p.drop k) ∧ Box wr w.heap.size #[.int .i64 b, .int .i64 e, .int .i64 q] 29 ∧ Below w.heap.size w wr) (fun i _ => p.length - (intOf i).toNat)
  case atStart => exact ⟨0, rfl, Nat.zero_le _, legI_go p b e, BX.out, G0.out⟩
  case round =>
    obtain ⟨k, rfl, hk, hR, hbx, hbw⟩ := hrel
    rename World => wo
    have G := Lib.hid hbw
    have BY := Lib.hid hbx
    have HR := Lib.hid hR
    clear hbw BX G0 hR
    by_cases hlt : k < p.length
    · have zl : decide ((k : Int) < (p.length : Int)) = true := by simp; omega
      have hki : (k : Int) < (p.length : Int) := by omega
      have hw64 : IntKind.i64.wrap ((k : Int) + 1) = (k : Int) + 1 := by rw [IntKind.wrap_i64]; have := HL.out; omega
      obtain ⟨g, hg⟩ : ∃ g, p[k] = g := ⟨_, rfl⟩
      obtain ⟨x, y⟩ := g
      have HS := Lib.hid (leg_drop hlt hg b e)
      obtain ⟨bb, o, rfl, -, e0, e1⟩ := RdX.lg (HA.out.below (G.out.mono HB.out)) k hlt hg
      have d0 := hbx.cell 0 _ rfl
      have d1 := hbx.cell 1 _ rfl
      clear hbx hg
      cases c1 : (x == b)
      · have HN := Lib.hid (show legI p b e = legGo b e (k + 1) (p.drop (k + 1)) from by rw [HR.out, HS.out, c1]; rfl)
        clear HS HR
        go_wp2_with fail
        go_quiet (fail)
        have G := Lib.hid (G.out.drewN nq)
        have BY := Lib.hid (BY.out.drewN nq)
        go_wp2_with fail
        go_roundw
        case rel => exact ⟨k + 1, by go_num, by omega, HN.out, BY.out, G.out⟩
        case measure => simp [intOf]; omega
      · cases c2 : decide (e ≤ y)
        · have HN := Lib.hid (show legI p b e = legGo b e (k + 1) (p.drop (k + 1)) from by rw [HR.out, HS.out, c1, c2]; rfl)
          clear HS HR
          go_wp2_with fail
          go_quiet (fail)
          have G := Lib.hid (G.out.drewN nq)
          have BY := Lib.hid (BY.out.drewN nq)
          go_wp2_with fail
          go_roundw
          case rel => exact ⟨k + 1, by go_num, by omega, HN.out, BY.out, G.out⟩
          case measure => simp [intOf]; omega
        · have HN := Lib.hid (show legI p b e = (k : Int) from by rw [HR.out, HS.out, c1, c2]; rfl)
          clear HS HR
          go_wp2_with fail
          go_quiet (fail)
          have G := Lib.hid (G.out.drewN nq)
          go_wp2_with fail
          go_ret
          exact ⟨by rw [HN.out]; rfl, G.out⟩
    · have hkl : k = p.length := by omega
      subst hkl
      have HN := Lib.hid (show legI p b e = -1 from by rw [HR.out, List.drop_length]; rfl)
      have zl : decide ((p.length : Int) < (p.length : Int)) = false := by simp
      clear hlt hbx
      go_wp2_with fail
      go_ret
      exact ⟨by rw [HN.out]; rfl, G.out⟩

set_option maxHeartbeats 4000000 in
theorem ref14_ahead (a b : Ver) (w : World) :
    Calls Try.prog 37 #[verV a, verV b] w fun e w' => e = .returned (.bool (ltS a b)) ∧ Below w.heap.size w w' := by
  obtain ⟨k1, b1, e1, s1, ⟨x1, y1⟩, u1, g1⟩ := a
  obtain ⟨k2, b2, e2, s2, ⟨x2, y2⟩, u2, g2⟩ := b
  unfold verV ltS
  simp only
  obtain ⟨res, hres⟩ : ∃ res : Bool, res = (if e1 ≠ e2 then decide (e1 < e2) else if s1 ≠ s2 then decide (s1 < s2) else decide (x1 < x2)) := ⟨_, rfl⟩
  rw [← hres]
  have G := Lib.hid ((alloc_below w (.cells #[.string k1, .int .i64 b1, .int .i64 e1, .int .i64 s1, .int .i64 x1, .int .i64 y1, .string u1, .bool g1] 50)).trans ((alloc_below _ (.cells #[.string k2, .int .i64 b2, .int .i64 e2, .int .i64 s2, .int .i64 x2, .int .i64 y2, .string u2, .bool g2] 50)).mono (by simp)))
  by_cases he : e1 = e2
  · rw [if_neg (fun h => h he)] at hres
    by_cases hs : s1 = s2
    · rw [if_neg (fun h => h hs)] at hres
      subst he hs
      have HR := Lib.hid hres
      clear hres
      go_enter Try.func37, Try.ntmps37
      go_wp2
      all_goals go_ret
      all_goals exact ⟨ret_bool (by rw [HR.out]), G.out⟩
    · rw [if_pos hs] at hres
      subst he
      have hne : (s1 != s2) = true := by simpa [bne] using hs
      have HR := Lib.hid hres
      clear hres hs
      go_enter Try.func37, Try.ntmps37
      go_wp2
      all_goals go_ret
      all_goals exact ⟨ret_bool (by rw [HR.out]), G.out⟩
  · rw [if_pos he] at hres
    have hne : (e1 != e2) = true := by simpa [bne] using he
    have HR := Lib.hid hres
    clear hres he
    go_enter Try.func37, Try.ntmps37
    go_wp2
    all_goals go_ret
    all_goals exact ⟨ret_bool (by rw [HR.out]), G.out⟩
end Go.Proofs.Ytlpakooogbaclaa
