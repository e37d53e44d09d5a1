/- Layer 11: what a path sees, found by a closure: by the project. -/
import Derived.Test.YtopiddlijlcbbaaQk
import Derived.Shelf.Abstract
namespace Go.Proofs.Ytopiddlijlcbbaa
open Go.RowKit Go.Shelf
set_option linter.unusedVariables false

/-- What a closure tells of a leg, as long as A holds. -/
def AsksL (fa : Nat) (la : Array Value) (q : Int × Int → Bool) (A : World → Prop) : Prop :=
  ∀ (g : Int × Int) (W : World), A W → Calls Try.prog fa (#[lgV g] ++ la) W fun e W' => e = .returned (.bool (q g)) ∧ Below W.heap.size W W'
def goIx (q : Int × Int → Bool) (k : Nat) : List (Int × Int) → Int
  | [] => -1
  | g :: r => if q g = true then (k : Int) else goIx q (k + 1) r
theorem goIx_drop {p : List (Int × Int)} {k : Nat} (hk : k < p.length) (q : Int × Int → Bool) : goIx q k (p.drop k) = if q p[k] = true then (k : Int) else goIx q (k + 1) (p.drop (k + 1)) := by
  rw [List.drop_eq_getElem_cons hk, goIx]
theorem goIx_any (q : Int × Int → Bool) : ∀ (p : List (Int × Int)) (k : Nat), decide ((0 : Int) ≤ goIx q k p) = p.any q
  | [], k => rfl
  | g :: r, k => by
    rw [goIx, List.any_cons]
    cases h : q g
    · rw [if_neg (by simp), goIx_any q r (k + 1)]; rfl
    · rw [if_pos rfl]; simp
set_option maxHeartbeats 4000000 in
set_option maxRecDepth 100000 in
theorem lg_indexFunc (va : Value) (p : List (Int × Int)) (fa : Nat) (la : Array Value) (q : Int × Int → Bool) (A : World → Prop) (eg : ∀ args w, (callFunc fa args).run Try.prog w = .ok (.enter fa args) w) (hAsk : AsksL fa la q A)
    (w : World) (hAw : ∀ W, Below w.heap.size w W → A W) (ha : RdX lgL w w.heap.size va p) (hl : p.length ≤ 1000) :
    Calls Try.prog 30 #[va, .func (.func fa) #[] la] w fun z w' => z = .returned (.int .i64 (goIx q 0 p)) ∧ Below w.heap.size w w' := by
  have HA := Lib.hid ha
  have HL := Lib.hid hl
  have HAW := Lib.hid hAw
  have HAS := Lib.hid hAsk
  obtain ⟨A', ca, rfl, -⟩ := ha
  clear hl hAw hAsk
  go_enter Try.func30, Try.ntmps30
  go_wp2_with fail
  go_loopw [8] (fun i wr => ∃ k : Nat, i = .int .i64 k ∧ k ≤ p.length ∧ goIx q 0 p = goIx q k (p.drop k) ∧ Below w.heap.size w wr) (fun i _ => p.length - (intOf i).toNat)
  case atStart => exact ⟨0, rfl, Nat.zero_le _, rfl, Below.refl _ _⟩
  case round =>
    obtain ⟨k, rfl, hk, hR, hbw⟩ := hrel
    rename World => wo
    have G := Lib.hid hbw
    have HR := Lib.hid hR
    clear hbw hR
    by_cases hlt : k < p.length
    · have zl : decide ((k : Int) < (p.length : Int)) = true := by simp; omega
      have hki : (k : Int) < (p.length : Int) := by omega
      have hw64 : IntKind.i64.wrap ((k : Int) + 1) = (k : Int) + 1 := by rw [IntKind.wrap_i64]; have := HL.out; omega
      have HS := Lib.hid (goIx_drop hlt q)
      obtain ⟨g, hg⟩ : ∃ g, p[k] = g := ⟨_, rfl⟩
      rw [hg] at HS
      have AK := Lib.hid (fun W (h : A W) => HAS.out g W h)
      obtain ⟨x, y⟩ := g
      unfold lgV at AK
      simp only at AK
      obtain ⟨bb, o, rfl, -, e0, e1⟩ := RdX.lg (HA.out.below G.out) k hlt hg
      clear hg
      go_wp2_with fail
      refine (AK.out _ (HAW.out _ G.out)).mono ?_
      rintro z w1 ⟨rfl, hb1⟩
      have G := Lib.hid (G.out.trans (hb1.mono G.out.size))
      clear hb1 e0 e1
      cases c1 : q (x, y)
      · have HN := Lib.hid (show goIx q 0 p = goIx q (k + 1) (p.drop (k + 1)) from by rw [HR.out, HS.out, c1]; rfl)
        clear HS HR AK
        go_wp2_with fail
        go_roundw
        case rel => exact ⟨k + 1, by go_num, by omega, HN.out, G.out⟩
        case measure => simp [intOf]; omega
      · have HN := Lib.hid (show goIx q 0 p = (k : Int) from by rw [HR.out, HS.out, c1]; rfl)
        clear HS HR AK
        go_wp2_with fail
        go_ret
        exact ⟨ret_int HN.out.symm, G.out⟩
    · have hkl : k = p.length := by omega
      subst hkl
      have HN := Lib.hid (show goIx q 0 p = -1 from by rw [HR.out, List.drop_length]; rfl)
      have zl : decide ((p.length : Int) < (p.length : Int)) = false := by simp
      clear hlt
      go_wp2_with fail
      go_ret
      exact ⟨ret_int HN.out.symm, G.out⟩
theorem lg_containsFunc (va : Value) (p : List (Int × Int)) (fa : Nat) (la : Array Value) (q : Int × Int → Bool) (A : World → Prop) (eg : ∀ args w, (callFunc fa args).run Try.prog w = .ok (.enter fa args) w) (hAsk : AsksL fa la q A)
    (w : World) (hAw : ∀ W, Below w.heap.size w W → A W) (ha : RdX lgL w w.heap.size va p) (hl : p.length ≤ 1000) :
    Calls Try.prog 25 #[va, .func (.func fa) #[] la] w fun z w' => z = .returned (.bool (p.any q)) ∧ Below w.heap.size w w' := by
  have IX := Lib.hid (lg_indexFunc va p fa la q A eg hAsk w hAw ha hl)
  have HN := Lib.hid (goIx_any q p 0)
  obtain ⟨A', ca, rfl, -⟩ := ha
  clear hAw hl hAsk
  generalize goIx q 0 p = K at *
  go_enter Try.func25, Try.ntmps25
  go_wp2_with fail
  refine IX.out.mono ?_
  rintro z w1 ⟨rfl, hb1⟩
  have G := Lib.hid hb1
  clear hb1
  go_wp2_with fail
  go_ret
  exact ⟨ret_bool HN.out, G.out⟩

/-- The closures. -/
theorem asks_sees (s : Nat) (b e q : Int) : AsksL 26 #[.pointer (some ⟨s, 0, none⟩)] (fun g => g.1 == b && decide (e ≤ g.2)) (fun W => Box W s #[.int .i64 b, .int .i64 e, .int .i64 q] 32) := by
  intro g W hA
  obtain ⟨x, y⟩ := g
  have hB := hA.alloc (.cells #[.int .i64 x, .int .i64 y] 28)
  have c0 := hB.cell 0 _ rfl
  have c1 := hB.cell 1 _ rfl
  clear hA hB
  unfold lgV
  show Calls Try.prog 26 #[.agg #[.int .i64 x, .int .i64 y], .pointer (some ⟨s, 0, none⟩)] W _
  go_enter Try.func26, Try.ntmps26
  cases h1 : (x == b)
  · have HQ := Lib.hid h1
    go_wp2_with fail
    go_ret
    exact ⟨rfl, alloc_below W _⟩
  · have HQ := Lib.hid h1
    cases h2 : decide (e ≤ y)
    · have HQ2 := Lib.hid h2
      go_wp2_with fail
      go_ret
      exact ⟨rfl, alloc_below W _⟩
    · have HQ2 := Lib.hid h2
      go_wp2_with fail
      go_ret
      exact ⟨rfl, alloc_below W _⟩
theorem asks_stands (s : Nat) (b : Int) : AsksL 31 #[.pointer (some ⟨s, 0, none⟩)] (fun g => g.1 == b) (fun W => Box W s #[.int .i64 b] 3) := by
  intro g W hA
  obtain ⟨x, y⟩ := g
  have hB := hA.alloc (.cells #[.int .i64 x, .int .i64 y] 28)
  have c0 := hB.cell 0 _ rfl
  clear hA hB
  unfold lgV
  show Calls Try.prog 31 #[.agg #[.int .i64 x, .int .i64 y], .pointer (some ⟨s, 0, none⟩)] W _
  go_enter Try.func31, Try.ntmps31
  go_wp2_with fail
  go_ret
  exact ⟨rfl, alloc_below W _⟩
theorem sees_k : SeesK := by
  intro va p b e q w ha hl
  have hmf : ∀ (fn : Fn) (first cap : Array Value) (w : World), (Instr.makeFunc fn first cap).run Try.prog w = .ok (.func fn first cap) w := fun _ _ _ _ => rfl
  have G := Lib.hid (alloc_below w (.cells #[.int .i64 b, .int .i64 e, .int .i64 q] 32))
  have BX := Box.new w #[.int .i64 b, .int .i64 e, .int .i64 q] 32 _ rfl
  have CF := Lib.hid (lg_containsFunc va p 26 #[.pointer (some ⟨w.heap.size, 0, none⟩)] _ _ (enters_of Try.func26 (by kernel_rfl) rfl) (asks_sees w.heap.size b e q) _ (fun W h => BX.later h) (ha.on G.out) hl)
  obtain ⟨A', ca, rfl, -⟩ := ha
  clear hl BX
  go_enter Try.func16, Try.ntmps16
  go_wp2_with fail
  refine CF.out.mono ?_
  rintro z w1 ⟨rfl, hb1⟩
  have G := Lib.hid (G.out.trans (hb1.mono G.out.size))
  clear hb1 CF
  go_wp2_with fail
  go_ret
  exact ⟨rfl, G.out⟩
theorem tr_stands (va : Value) (p : List (Int × Int)) (b : Int) (w : World) (ha : RdX lgL w w.heap.size va p) (hl : p.length ≤ 1000) :
    Calls Try.prog 27 #[va, .int .i64 b] w fun z w' => z = .returned (.bool (p.any fun g => g.1 == b)) ∧ Below w.heap.size w w' := by
  have hmf : ∀ (fn : Fn) (first cap : Array Value) (w : World), (Instr.makeFunc fn first cap).run Try.prog w = .ok (.func fn first cap) w := fun _ _ _ _ => rfl
  have G := Lib.hid (alloc_below w (.cells #[.int .i64 b] 3))
  have BX := Box.new w #[.int .i64 b] 3 _ rfl
  have CF := Lib.hid (lg_containsFunc va p 31 #[.pointer (some ⟨w.heap.size, 0, none⟩)] _ _ (enters_of Try.func31 (by kernel_rfl) rfl) (asks_stands w.heap.size b) _ (fun W h => BX.later h) (ha.on G.out) hl)
  obtain ⟨A', ca, rfl, -⟩ := ha
  clear hl BX
  go_enter Try.func27, Try.ntmps27
  go_wp2_with fail
  refine CF.out.mono ?_
  rintro z w1 ⟨rfl, hb1⟩
  have G := Lib.hid (G.out.trans (hb1.mono G.out.size))
  clear hb1 CF
  go_wp2_with fail
  go_ret
  exact ⟨rfl, G.out⟩
end Go.Proofs.Ytopiddlijlcbbaa
