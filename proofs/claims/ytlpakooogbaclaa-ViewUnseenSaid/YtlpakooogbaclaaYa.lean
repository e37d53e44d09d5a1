/- Layer 14: whether a path sees a stamp, found by a closure (tree.Sees); which leg sees it first: by the project. -/
import Derived.Test.YtlpakooogbaclaaGc
import Derived.Test.YtlpakooogbaclaaBapp
import Derived.Shelf.Abstract
import Derived.BigQuiet
namespace Go.Proofs.Ytlpakooogbaclaa
open Go.RowKit Go.Shelf
set_option linter.unusedVariables false

/-- What a closure tells of a leg, as long as A holds. -/
def AsksL (fa : Nat) (la : Array Value) (q : Int × Int → Bool) (A : World → Prop) : Prop :=
  ∀ (g : Int × Int) (W : World), A W → Calls Try.prog fa (#[lgV g] ++ la) W fun e W' => e = .returned (.bool (q g)) ∧ Below W.heap.size W W'

def goIx (q : Int × Int → Bool) (k : Nat) : List (Int × Int) → Int
  | [] => -1
  | g :: r => if q g = true then (k : Int) else goIx q (k + 1) r

theorem goIx_drop {p : List (Int × Int)} {k : Nat} (hk : k < p.length) (q : Int × Int → Bool) : goIx q k (p.drop k) = if q p[k] = true then (k : Int) else goIx q (k + 1) (p.drop (k + 1)) := by
  rw [List.drop_eq_getElem_cons hk, goIx]

theorem goIx_any (q : Int × Int → Bool) : ∀ (p : List (Int × Int)) (k : Nat), decide ((0 : Int) ≤ goIx q k p) = p.any q
  | [], k => rfl
  | g :: r, k => by
    rw [goIx, List.any_cons]
    cases h : q g
    · rw [if_neg (by simp), goIx_any q r (k + 1)]; rfl
    · rw [if_pos rfl]; simp

set_option maxHeartbeats 4000000 in
set_option maxRecDepth 100000 in
theorem lg_indexFunc (va : Value) (p : List (Int × Int)) (fa : Nat) (la : Array Value) (q : Int × Int → Bool) (A : World → Prop) (eg : ∀ args w, (callFunc fa args).run Try.prog w = .ok (.enter fa args) w) (hAsk : AsksL fa la q A)
    (w : World) (hAw : ∀ W, Below w.heap.size w W → A W) (ha : RdX lgL w w.heap.size va p) (hl : p.length ≤ 1000) :
    Calls Try.prog 80 #[va, .func (.func fa) #[] la] w fun z w' => z = .returned (.int .i64 (goIx q 0 p)) ∧ Below w.heap.size w w' := by
  have HA := Lib.hid ha
  have HL := Lib.hid hl
  have HAW := Lib.hid hAw
  have HAS := Lib.hid hAsk
  obtain ⟨A', ca, rfl, -⟩ := ha
  clear hl hAw hAsk
  go_enter Try.func80, Try.ntmps80
  go_wp2_with fail
  go_loopw [8] (fun i wr => ∃ k : Nat, i = .int .i64 k ∧ k ≤ p.length ∧ goIx q 0 p = goIx q k (p.drop k) ∧ Below w.heap.size w wr) (fun i _ => p.length - (intOf i).toNat)
  case atStart => exact ⟨0, rfl, Nat.zero_le _, rfl, Below.refl _ _⟩
  case round =>
    obtain ⟨k, rfl, hk, hR, hbw⟩ := hrel
    rename World => wo
    have G := Lib.hid hbw
    have HR := Lib.hid hR
    clear hbw hR
    by_cases hlt : k < p.length
    · have zl : decide ((k : Int) < (p.length : Int)) = true := by simp; omega
      have hki : (k : Int) < (p.length : Int) := by omega
      have hw64 : IntKind.i64.wrap ((k : Int) + 1) = (k : Int) + 1 := by rw [IntKind.wrap_i64]; have := HL.out; omega
      have HS := Lib.hid (goIx_drop hlt q)
      obtain ⟨g, hg⟩ : ∃ g, p[k] = g := ⟨_, rfl⟩
      rw [hg] at HS
      have AK := Lib.hid (fun W (h : A W) => HAS.out g W h)
      obtain ⟨x, y⟩ := g
      unfold lgV at AK
      simp only at AK
      obtain ⟨bb, o, rfl, -, e0, e1⟩ := RdX.lg (HA.out.below G.out) k hlt hg
      clear hg
      go_wp2_with fail
      refine (AK.out _ (HAW.out _ G.out)).mono ?_
      rintro z w1 ⟨rfl, hb1⟩
      have G := Lib.hid (G.out.trans (hb1.mono G.out.size))
      clear hb1 e0 e1
      cases c1 : q (x, y)
      · have HN := Lib.hid (show goIx q 0 p = goIx q (k + 1) (p.drop (k + 1)) from by rw [HR.out, HS.out, c1]; rfl)
        clear HS HR AK
        go_wp2_with fail
        go_roundw
        case rel => exact ⟨k + 1, by go_num, by omega, HN.out, G.out⟩
        case measure => simp [intOf]; omega
      · have HN := Lib.hid (show goIx q 0 p = (k : Int) from by rw [HR.out, HS.out, c1]; rfl)
        clear HS HR AK
        go_wp2_with fail
        go_ret
        exact ⟨ret_int HN.out.symm, G.out⟩
    · have hkl : k = p.length := by omega
      subst hkl
      have HN := Lib.hid (show goIx q 0 p = -1 from by rw [HR.out, List.drop_length]; rfl)
      have zl : decide ((p.length : Int) < (p.length : Int)) = false := by simp
      clear hlt
      go_wp2_with fail
      go_ret
      exact ⟨ret_int HN.out.symm, G.out⟩

theorem lg_containsFunc (va : Value) (p : List (Int × Int)) (fa : Nat) (la : Array Value) (q : Int × Int → Bool) (A : World → Prop) (eg : ∀ args w, (callFunc fa args).run Try.prog w = .ok (.enter fa args) w) (hAsk : AsksL fa la q A)
    (w : World) (hAw : ∀ W, Below w.heap.size w W → A W) (ha : RdX lgL w w.heap.size va p) (hl : p.length ≤ 1000) :
    Calls Try.prog 70 #[va, .func (.func fa) #[] la] w fun z w' => z = .returned (.bool (p.any q)) ∧ Below w.heap.size w w' := by
  have IX := Lib.hid (lg_indexFunc va p fa la q A eg hAsk w hAw ha hl)
  have HN := Lib.hid (goIx_any q p 0)
  obtain ⟨A', ca, rfl, -⟩ := ha
  clear hAw hl hAsk
  generalize goIx q 0 p = K at *
  go_enter Try.func70, Try.ntmps70
  go_wp2_with fail
  refine IX.out.mono ?_
  rintro z w1 ⟨rfl, hb1⟩
  have G := Lib.hid hb1
  clear hb1
  go_wp2_with fail
  go_ret
  exact ⟨ret_bool HN.out, G.out⟩

/-- The closures. -/
theorem asks_sees (s : Nat) (b e q : Int) : AsksL 71 #[.pointer (some ⟨s, 0, none⟩)] (fun g => g.1 == b && decide (e ≤ g.2)) (fun W => Box W s #[.int .i64 b, .int .i64 e, .int .i64 q] 29) := by
  intro g W hA
  obtain ⟨x, y⟩ := g
  have hB := hA.alloc (.cells #[.int .i64 x, .int .i64 y] 60)
  have c0 := hB.cell 0 _ rfl
  have c1 := hB.cell 1 _ rfl
  clear hA hB
  unfold lgV
  show Calls Try.prog 71 #[.agg #[.int .i64 x, .int .i64 y], .pointer (some ⟨s, 0, none⟩)] W _
  go_enter Try.func71, Try.ntmps71
  cases h1 : (x == b)
  · have HQ := Lib.hid h1
    go_wp2_with fail
    go_ret
    exact ⟨rfl, alloc_below W _⟩
  · have HQ := Lib.hid h1
    cases h2 : decide (e ≤ y)
    · have HQ2 := Lib.hid h2
      go_wp2_with fail
      go_ret
      exact ⟨rfl, alloc_below W _⟩
    · have HQ2 := Lib.hid h2
      go_wp2_with fail
      go_ret
      exact ⟨rfl, alloc_below W _⟩

def seesP (p : List (Int × Int)) (b e : Int) : Bool := p.any fun g => g.1 == b && decide (e ≤ g.2)
theorem p_sees (va : Value) (p : List (Int × Int)) (b e q : Int) (w : World) (ha : RdX lgL w w.heap.size va p) (hl : p.length ≤ 1000) :
    Calls Try.prog 55 #[va, .agg #[.int .i64 b, .int .i64 e, .int .i64 q]] w fun z w' => z = .returned (.bool (seesP p b e)) ∧ Below w.heap.size w w' := by
  have hmf : ∀ (fn : Fn) (first cap : Array Value) (w : World), (Instr.makeFunc fn first cap).run Try.prog w = .ok (.func fn first cap) w := fun _ _ _ _ => rfl
  have G := Lib.hid (alloc_below w (.cells #[.int .i64 b, .int .i64 e, .int .i64 q] 29))
  have BX := Box.new w #[.int .i64 b, .int .i64 e, .int .i64 q] 29 _ rfl
  have CF := Lib.hid (lg_containsFunc va p 71 #[.pointer (some ⟨w.heap.size, 0, none⟩)] _ _ (enters_of Try.func71 (by kernel_rfl) rfl) (asks_sees w.heap.size b e q) _ (fun W h => BX.later h) (ha.on G.out) hl)
  obtain ⟨A', ca, rfl, -⟩ := ha
  clear hl BX
  go_enter Try.func55, Try.ntmps55
  go_wp2_with fail
  refine CF.out.mono ?_
  rintro z w1 ⟨rfl, hb1⟩
  have G := Lib.hid (G.out.trans (hb1.mono G.out.size))
  clear hb1 CF
  go_wp2_with fail
  go_ret
  exact ⟨rfl, G.out⟩
theorem sees_leg (p : List (Int × Int)) (b e : Int) : seesP p b e = decide (0 ≤ legI p b e) := by
  unfold seesP
  rw [legI_go]
  have key : ∀ (k : Nat) (l : List (Int × Int)), decide ((0 : Int) ≤ legGo b e k l) = l.any fun g => g.1 == b && decide (e ≤ g.2) := by
    intro k l
    induction l generalizing k with
    | nil => rfl
    | cons g r ih =>
      unfold legGo
      rw [List.any_cons]
      cases h : (g.1 == b && decide (e ≤ g.2))
      · rw [if_neg (by simp), ih]; rfl
      · rw [if_pos rfl]; simp
  exact (key 0 p).symm
theorem lg_size (w : World) : (Go.sizeOf 60).run Try.prog w = .ok lgL.sz w := by kernel_rfl
section
variable {P : Program} {α : Type} {L : Lay α}
theorem slX_one {w : World} {B : Nat} {v : Value} {l : List α} (h : RdX L w B v l) {t e : TypeId} (ht0 : P.underlying t = some (.slice e)) (hsz : ∀ w, (Go.sizeOf e).run P w = .ok L.sz w) (k : Nat) (z y : Int) (hz : z = (k : Int)) (hy : y = (k : Int) + 1) (hk : k < l.length) :
    ∃ A c, (∀ W, (Instr.slice t v (some (.int .i64 z)) (some (.int .i64 y)) none).run P W = .ok (.slice A 1 c) W) ∧ RdX L w B (.slice A 1 c) [l[k]] := by
  have hy' : y = ((k + 1 : Nat) : Int) := by omega
  subst hz
  subst hy'
  obtain ⟨A, c, rfl, h1, h2, h3⟩ := h
  have ht : P.underlying t = some (.slice (P.elem t)) := by simp [Program.elem, ht0]
  have he : P.elem t = e := by simp [Program.elem, ht0]
  refine ⟨if c = k then A else A.map (·.add (k * L.sz)), c - k, fun W => ?_, ⟨_, c - k, rfl, by simp; omega, by omega, fun hp => ?_⟩⟩
  · rw [run_slice_lh W _ _ _ _ ht _ _ _ _ (by omega) (by omega) (by omega), he, hsz]
    simp only [Result.andThen, sliced, Int.toNat_natCast, Nat.add_sub_cancel_left]
  · obtain ⟨b, o, rfl, hb, hc⟩ := h3 (by omega)
    refine ⟨b, o + k * L.sz, ?_, hb, fun i x hx j u hu => ?_⟩
    · rw [if_neg (by omega)]; simp [addr_plain]
    · have hi : i = 0 := by
        have := (List.getElem?_eq_some_iff.1 hx).1
        simp at this; omega
      subst hi
      simp only [List.getElem?_cons_zero, Option.some.injEq] at hx
      subst hx
      have := hc k l[k] (List.getElem?_eq_getElem hk) j u hu
      simpa using this
end
theorem ret_i {a b : Int} (h : a = b) : Ending.returned (.int .i64 a) = .returned (.int .i64 b) := by rw [h]

set_option maxHeartbeats 4000000 in
set_option maxRecDepth 100000 in
theorem p_legOf (va : Value) (p : List (Int × Int)) (b e q : Int) (w : World) (B : Nat) (ha : RdX lgL w B va p) (hB : B ≤ w.heap.size) (hl : p.length ≤ 1000) :
    Calls Try.prog 35 #[va, .agg #[.int .i64 b, .int .i64 e, .int .i64 q]] w fun z w' => z = .returned (.int .i64 (legI p b e)) ∧ Below w.heap.size w w' := by
  have HA := Lib.hid ha
  have HL := Lib.hid hl
  have HB := Lib.hid hB
  have G0 := Lib.hid (alloc_below w (.cells #[.int .i64 b, .int .i64 e, .int .i64 q] 29))
  have BX := Lib.hid (Box.new w #[.int .i64 b, .int .i64 e, .int .i64 q] 29 _ rfl)
  obtain ⟨A, ca, rfl, -⟩ := ha
  clear hl hB
  go_enter Try.func35, Try.ntmps35
  go_wp2_with fail
  go_loopw [8] (fun i wr => ∃ k : Nat, i = .int .i64 k ∧ k ≤ p.length ∧ legI p b e = legGo b e k (p.drop k) ∧ Box wr w.heap.size #[.int .i64 b, .int .i64 e, .int .i64 q] 29 ∧ Below w.heap.size w wr) (fun i _ => p.length - (intOf i).toNat)
  case atStart => exact ⟨0, rfl, Nat.zero_le _, legI_go p b e, BX.out, G0.out⟩
  case round =>
    obtain ⟨k, rfl, hk, hR, hbx, hbw⟩ := hrel
    rename World => wo
    have G := Lib.hid hbw
    have BY := Lib.hid hbx
    have HR := Lib.hid hR
    clear hbw BX G0 hR
    by_cases hlt : k < p.length
    · have zl : decide ((k : Int) < (p.length : Int)) = true := by simp; omega
      have hw64 : IntKind.i64.wrap ((k : Int) + 1) = (k : Int) + 1 := by rw [IntKind.wrap_i64]; have := HL.out; omega
      obtain ⟨As, cs, hsl, hrs⟩ := slX_one (HA.out.below (G.out.mono HB.out)) Try.underlying23 lg_size k (k : Int) ((k : Int) + 1) rfl rfl hlt
      obtain ⟨g, hg⟩ : ∃ g, p[k] = g := ⟨_, rfl⟩
      have HS := Lib.hid (leg_drop hlt (x := g.1) (y := g.2) hg b e)
      rw [hg] at hrs
      have BN := Lib.hid (show Box wo.drew w.heap.size #[.int .i64 b, .int .i64 e, .int .i64 q] 29 from BY.out)
      have RS := Lib.hid (show RdX lgL wo.drew wo.drew.heap.size (.slice As 1 cs) [g] from hrs.more (Nat.le_trans HB.out G.out.size))
      have SE := Lib.hid (fun W h => p_sees (.slice As 1 cs) [g] b e q W h (by simp))
      clear hbx hrs hg
      go_wp2_with fail
      refine reg_start (by kernel_rfl) ?_
      refine reg_take2 0 11 (v := ?_) (T' := ?_) (Later.refl _) (by kernel_rfl) (by kernel_rfl) (by kernel_rfl) (fun _ _ _ h => h) (fun o ho => ?_) ?_ ?_
      rotate_left 2
      · cases ho
        refine ⟨rfl, rfl, fun W hW => ?_⟩
        go_simp; (try rw [hw64]); (try with_reducible rfl)
      · simp only [List.setIfInBounds_toArray, List.set_cons_succ, List.set_cons_zero]; exact rfl
      refine reg_take2 1 12 (v := ?_) (T' := ?_) (Later.refl _) (by kernel_rfl) (by kernel_rfl) (by kernel_rfl) (fun _ _ _ h => h) (fun o ho => ?_) ?_ ?_
      rotate_left 2
      · cases ho
        refine ⟨rfl, rfl, fun W hW => ?_⟩
        go_simp; (try rw [hw64]); (try with_reducible rfl)
      · simp only [List.setIfInBounds_toArray, List.set_cons_succ, List.set_cons_zero]; exact rfl
      refine reg_take2 2 13 (v := ?_) (T' := ?_) (Later.refl _) (by kernel_rfl) (by kernel_rfl) (by kernel_rfl) (fun _ _ _ h => h) (fun o ho => ?_) ?_ ?_
      rotate_left 2
      · cases ho
        refine ⟨rfl, rfl, fun W hW => ?_⟩
        go_simp; (try rw [hw64]); (try with_reducible rfl)
      · simp only [List.setIfInBounds_toArray, List.set_cons_succ, List.set_cons_zero]; exact rfl
      refine reg_take2 3 14 (v := ?_) (T' := ?_) (Later.refl _) (by kernel_rfl) (by kernel_rfl) (by kernel_rfl) (fun _ _ _ h => h) (fun o ho => ?_) ?_ ?_
      rotate_left 2
      · cases ho
        refine ⟨rfl, rfl, fun W hW => ?_⟩
        go_simp; (try rw [hw64]); (try with_reducible rfl)
      · simp only [List.setIfInBounds_toArray, List.set_cons_succ, List.set_cons_zero]; exact rfl
      refine reg_take2 4 15 (v := ?_) (T' := ?_) (Later.refl _) (by kernel_rfl) (by kernel_rfl) (by kernel_rfl) (fun _ _ _ h => h) (fun o ho => ?_) ?_ ?_
      rotate_left 2
      · cases ho
        refine ⟨rfl, rfl, fun W hW => ?_⟩
        have h := hsl W
        go_simp
        (try rw [h])
        (try rfl)
      · simp only [List.setIfInBounds_toArray, List.set_cons_succ, List.set_cons_zero]; exact rfl
      refine reg_take2 5 16 (v := ?_) (T' := ?_) (Later.refl _) (by kernel_rfl) (by kernel_rfl) (by kernel_rfl) (fun _ _ _ h => h) (fun o ho => ?_) ?_ ?_
      rotate_left 2
      · cases ho
        refine ⟨rfl, rfl, fun W hW => ?_⟩
        have BW := BN.out.later hW
        have c0 := BW.cell 0 _ rfl
        have c1 := BW.cell 1 _ rfl
        have c2 := BW.cell 2 _ rfl
        go_simp; (try with_reducible rfl)
      · simp only [List.setIfInBounds_toArray, List.set_cons_succ, List.set_cons_zero]; exact rfl
      refine reg_call2 6 17 (Later.refl _) (by kernel_rfl) 55 #[.slice As 1 cs, .agg #[.int .i64 b, .int .i64 e, .int .i64 q]] (fun o ho => by cases ho; exact ⟨rfl, rfl, fun W => by go_simp⟩) ?_
      refine (SE.out _ RS.out).mono ?_
      rintro z y1 ⟨rfl, hy1⟩
      have GY := Lib.hid hy1
      clear hy1
      refine ⟨_, _, rfl, GY.out, (by simp only [List.setIfInBounds_toArray, List.set_cons_succ, List.set_cons_zero]; exact rfl), ?_⟩
      refine reg_done (by kernel_rfl) ?_
      have hsg : seesP [g] b e = (g.1 == b && decide (e ≤ g.2)) := by unfold seesP; simp
      have GN := Lib.hid (G.out.drew.trans (GY.out.mono G.out.size))
      have BX := Lib.hid (BN.out.later GY.out)
      clear BY BN GY
      cases c1 : (g.1 == b && decide (e ≤ g.2))
      · have HN := Lib.hid (show legI p b e = legGo b e (k + 1) (p.drop (k + 1)) from by rw [HR.out, HS.out, c1]; rfl)
        rw [hsg, c1]
        clear HS HR hsl hsg
        go_wp2_with fail
        go_roundw
        case rel => exact ⟨k + 1, by go_num, by omega, HN.out, BX.out, GN.out⟩
        case measure => simp [intOf]; omega
      · have HN := Lib.hid (show legI p b e = (k : Int) from by rw [HR.out, HS.out, c1]; rfl)
        rw [hsg, c1]
        clear HS HR hsl hsg
        go_wp2_with fail
        go_ret
        exact ⟨ret_i HN.out.symm, GN.out⟩
    · have hkl : k = p.length := by omega
      subst hkl
      have HN := Lib.hid (show legI p b e = -1 from by rw [HR.out, List.drop_length]; rfl)
      have zl : decide ((p.length : Int) < (p.length : Int)) = false := by simp
      clear hlt hbx
      go_wp2_with fail
      go_ret
      exact ⟨ret_i HN.out.symm, G.out⟩

end Go.Proofs.Ytlpakooogbaclaa
