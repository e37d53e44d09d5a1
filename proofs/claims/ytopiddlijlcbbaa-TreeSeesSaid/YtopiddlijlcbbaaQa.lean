/- Layer 11, plain: branches, paths, what they see. -/
import Derived.Test.YtopiddlijlcbbaaBA
namespace Go.Proofs.Ytopiddlijlcbbaa
set_option linter.unusedVariables false

structure Br where
  par : Int
  fork : Int
  floor : Int
  drop : Bool
/-- May b stand at i? -/
def brOk (i : Nat) (b : Br) : Bool :=
  !(decide (b.floor < 0) || decide (10000 < b.floor) || decide (b.fork < 0) || decide (10000 < b.fork)) &&
  !((i == 0) && (b.par != -1 || b.fork != 0)) && !(decide (0 < i) && (decide (b.par < 0) || decide ((i : Int) ≤ b.par)))
def okFrom (k : Nat) : List Br → Bool
  | [] => true
  | b :: r => brOk k b && okFrom (k + 1) r
def mayT (l : List Br) : Bool := decide (1 ≤ l.length) && decide (l.length ≤ 16) && okFrom 0 l
theorem okFrom_at : ∀ (l : List Br) (k : Nat), okFrom k l = true ↔ ∀ (i : Nat) (b : Br), l[i]? = some b → brOk (k + i) b = true
  | [], k => by simp [okFrom]
  | b :: r, k => by
    rw [okFrom, Bool.and_eq_true, okFrom_at r (k + 1)]
    constructor
    · rintro ⟨h1, h2⟩ i c hi
      cases i with
      | zero => simp at hi; subst hi; exact h1
      | succ i => have := h2 i c (by simpa using hi); rwa [show k + (i + 1) = k + 1 + i from by omega]
    · intro h
      refine ⟨h 0 b rfl, fun i c hi => ?_⟩
      have := h (i + 1) c (by simpa using hi)
      rwa [show k + 1 + i = k + (i + 1) from by omega]
theorem okFrom_drop {l : List Br} {k : Nat} (hk : k < l.length) : okFrom k (l.drop k) = (brOk k l[k] && okFrom (k + 1) (l.drop (k + 1))) := by
  rw [List.drop_eq_getElem_cons hk, okFrom]
/-- What a branch that may be is. -/
theorem may_at {l : List Br} (h : mayT l = true) {i : Nat} {b : Br} (hi : l[i]? = some b) : brOk i b = true := by
  simp only [mayT, Bool.and_eq_true] at h
  have := (okFrom_at l 0).1 h.2 i b hi
  rwa [Nat.zero_add] at this
theorem may_len {l : List Br} (h : mayT l = true) : 1 ≤ l.length ∧ l.length ≤ 16 := by
  simp only [mayT, Bool.and_eq_true, decide_eq_true_eq] at h
  exact h.1
theorem ok_zero {b : Br} (h : brOk 0 b = true) : b.par = -1 := by
  simp only [brOk] at h
  simp at h
  exact h.2.1
theorem ok_up {i : Nat} {b : Br} (h : brOk i b = true) (hi : 0 < i) : 0 ≤ b.par ∧ b.par < i := by
  simp only [brOk] at h
  simp [Nat.ne_of_gt hi, hi] at h
  exact h.2
theorem ok_par {i : Nat} {b : Br} (h : brOk i b = true) : b.par < 0 ↔ i = 0 := by
  constructor
  · intro hp
    rcases Nat.eq_zero_or_pos i with e | e
    · exact e
    · have := ok_up h e; omega
  · rintro rfl
    rw [ok_zero h]; decide

/-- From b on, as many steps as may be. -/
def pathGo (l : List Br) : Nat → Nat → Int → List (Int × Int)
  | 0, _, _ => []
  | f + 1, b, e => ((b : Int), e) :: (match l[b]? with
    | some x => if x.par < 0 then [] else pathGo l f x.par.toNat (if x.fork < e then x.fork else e)
    | none => [])
def pathT (l : List Br) (b e : Int) : List (Int × Int) := if mayT l = true ∧ 0 ≤ b ∧ b < l.length then pathGo l (b.toNat + 1) b.toNat e else []
theorem path_fuel {l : List Br} (hm : mayT l = true) : ∀ (f g b : Nat) (e : Int), b < f → b < g → pathGo l f b e = pathGo l g b e := by
  intro f
  induction f with
  | zero => intro g b e h; omega
  | succ f ih =>
    intro g b e hf hg
    obtain ⟨g, rfl⟩ : ∃ g', g = g' + 1 := ⟨g - 1, by omega⟩
    unfold pathGo
    congr 1
    cases hx : l[b]? with
    | none => rfl
    | some x =>
      simp only
      split
      · rfl
      · rename_i hp
        have h0 : 0 < b := by
          rcases Nat.eq_zero_or_pos b with rfl | h
          · exact absurd (by rw [ok_zero (may_at hm hx)]; decide) hp
          · exact h
        have := ok_up (may_at hm hx) h0
        exact ih g _ _ (by omega) (by omega)
/-- One step up. -/
theorem path_step {l : List Br} (hm : mayT l = true) {b : Nat} {x : Br} (hx : l[b]? = some x) (e : Int) :
    pathT l b e = ((b : Int), e) :: (if x.par < 0 then [] else pathT l x.par (if x.fork < e then x.fork else e)) := by
  have hb := (List.getElem?_eq_some_iff.1 hx).1
  have e0 : pathT l b e = pathGo l (b + 1) b e := by
    unfold pathT
    rw [if_pos ⟨hm, by omega, by omega⟩, Int.toNat_natCast]
  rw [e0, pathGo, hx]
  simp only
  congr 1
  by_cases hp : x.par < 0
  · rw [if_pos hp, if_pos hp]
  · rw [if_neg hp, if_neg hp]
    have h0 : 0 < b := by
      rcases Nat.eq_zero_or_pos b with rfl | h
      · exact absurd (by rw [ok_zero (may_at hm hx)]; decide) hp
      · exact h
    have hu := ok_up (may_at hm hx) h0
    have e1 : ∀ E, pathT l x.par E = pathGo l (x.par.toNat + 1) x.par.toNat E := fun E => if_pos ⟨hm, hu.1, by omega⟩
    rw [e1]
    exact path_fuel hm _ _ _ _ (by omega) (by omega)
theorem path_none {l : List Br} {b e : Int} (h : ¬ (mayT l = true ∧ 0 ≤ b ∧ b < l.length)) : pathT l b e = [] := if_neg h
theorem path_len {l : List Br} (hm : mayT l = true) : ∀ (b : Nat) (e : Int), b < l.length → (pathT l b e).length ≤ b + 1 := by
  intro b
  induction b using Nat.strongRecOn with
  | ind b ih =>
    intro e hb
    rw [path_step hm (List.getElem?_eq_getElem hb)]
    rw [List.length_cons]
    split
    · simp
    · rename_i hp
      have h0 : 0 < b := by
        rcases Nat.eq_zero_or_pos b with rfl | h
        · exact absurd (by rw [ok_zero (may_at hm (List.getElem?_eq_getElem hb))]; decide) hp
        · exact h
      have hu := ok_up (may_at hm (List.getElem?_eq_getElem hb)) h0
      obtain ⟨q, hq⟩ : ∃ q : Nat, (l[b]).par = (q : Int) := ⟨(l[b]).par.toNat, by omega⟩
      rw [hq]
      have := ih q (by omega) (if l[b].fork < e then l[b].fork else e) (by omega)
      omega
theorem path_few (l : List Br) (b e : Int) : (pathT l b e).length ≤ 16 := by
  by_cases h : mayT l = true ∧ 0 ≤ b ∧ b < l.length
  · obtain ⟨q, rfl⟩ : ∃ q : Nat, b = (q : Int) := ⟨b.toNat, by omega⟩
    have h1 := path_len h.1 q e (by omega)
    have h2 := may_len h.1
    omega
  · rw [path_none h]; simp

/-- Whether a path sees a stamp of branch b and epoch e. -/
def seesT (p : List (Int × Int)) (b e : Int) : Bool := p.any fun g => g.1 == b && decide (e ≤ g.2)
def kidT (b : Int) (x : Br) : Bool := decide (0 ≤ b) && x.par == b && !x.drop
def kidsFrom (b : Int) (k : Nat) : List Br → List Int
  | [] => []
  | x :: r => (if kidT b x = true then [(k : Int)] else []) ++ kidsFrom b (k + 1) r
def kidsT (l : List Br) (b : Int) : List Int := kidsFrom b 0 l
def liveT (l : List Br) (b : Int) : Bool := mayT l && decide (0 ≤ b) && decide (b < l.length) && (match l[b.toNat]? with | some x => !x.drop | none => false)
/-- The first of p that stands in q, too. -/
def firstIn (q : List (Int × Int)) : List (Int × Int) → Int
  | [] => -1
  | g :: r => if q.any (fun o => o.1 == g.1) = true then g.1 else firstIn q r
def commonT (l : List Br) (a b : Int) : Int := firstIn (pathT l b 0) (pathT l a 0)

/-! ### What follows -/
theorem path_head {l : List Br} (hm : mayT l = true) {b : Nat} (hb : b < l.length) (e : Int) : ∃ r, pathT l b e = ((b : Int), e) :: r := ⟨_, path_step hm (List.getElem?_eq_getElem hb) e⟩
/-- All legs but the first are of lesser branches, up to no later epochs. -/
theorem path_low {l : List Br} (hm : mayT l = true) : ∀ (b : Nat) (e : Int), b < l.length → ∀ g ∈ pathT l b e, 0 ≤ g.1 ∧ g.1 ≤ b ∧ g.2 ≤ e := by
  intro b
  induction b using Nat.strongRecOn with
  | ind b ih =>
    intro e hb g hg
    rw [path_step hm (List.getElem?_eq_getElem hb)] at hg
    rcases List.mem_cons.1 hg with rfl | hg
    · exact ⟨by simp, Int.le_refl _, Int.le_refl _⟩
    · split at hg
      · cases hg
      · rename_i hp
        have h0 : 0 < b := by
          rcases Nat.eq_zero_or_pos b with rfl | h
          · exact absurd (by rw [ok_zero (may_at hm (List.getElem?_eq_getElem hb))]; decide) hp
          · exact h
        have hu := ok_up (may_at hm (List.getElem?_eq_getElem hb)) h0
        obtain ⟨q, hq⟩ : ∃ q : Nat, (l[b]).par = (q : Int) := ⟨(l[b]).par.toNat, by omega⟩
        rw [hq] at hg
        have := ih q (by omega) _ (by omega) g hg
        refine ⟨this.1, by omega, ?_⟩
        have h2 := this.2.2
        split at h2 <;> omega
/-- The first leg, and those of its parent. -/
theorem path_parts {l : List Br} (hm : mayT l = true) {b : Nat} (hb : b < l.length) (h0 : 0 < b) (e : Int) : ∃ q : Nat, l[b].par = (q : Int) ∧ q < b ∧ pathT l b e = ((b : Int), e) :: pathT l q (if l[b].fork < e then l[b].fork else e) := by
  have hu := ok_up (may_at hm (List.getElem?_eq_getElem hb)) h0
  obtain ⟨q, hq⟩ : ∃ q : Nat, (l[b]).par = (q : Int) := ⟨(l[b]).par.toNat, by omega⟩
  refine ⟨q, hq, by omega, ?_⟩
  rw [path_step hm (List.getElem?_eq_getElem hb), if_neg (by omega), hq]
theorem path_zero {l : List Br} (hm : mayT l = true) (e : Int) : pathT l 0 e = [(0, e)] := by
  have hl := (may_len hm).1
  have := path_step hm (List.getElem?_eq_getElem (show 0 < l.length from hl)) e
  rw [if_pos (by rw [ok_zero (may_at hm (List.getElem?_eq_getElem (show 0 < l.length from hl)))]; decide)] at this
  exact this
/-- The same legs, whatever the epoch. -/
theorem path_legs {l : List Br} (hm : mayT l = true) : ∀ (b : Nat) (e e' : Int), b < l.length → (pathT l b e).map (·.1) = (pathT l b e').map (·.1) := by
  intro b
  induction b using Nat.strongRecOn with
  | ind b ih =>
    intro e e' hb
    rcases Nat.eq_zero_or_pos b with rfl | h0
    · rw [show ((0 : Nat) : Int) = 0 from rfl, path_zero hm, path_zero hm]; rfl
    · obtain ⟨q, hq, hlt, h1⟩ := path_parts hm hb h0 e
      obtain ⟨q', hq', _, h2⟩ := path_parts hm hb h0 e'
      have : q = q' := by omega
      subst this
      rw [h1, h2, List.map_cons, List.map_cons]
      congr 1
      exact ih q hlt _ _ (by omega)
theorem sees_up {l : List Br} (hm : mayT l = true) (sb se : Int) : ∀ (b : Nat) (e e' : Int), b < l.length → e ≤ e' → seesT (pathT l b e) sb se = true → seesT (pathT l b e') sb se = true := by
  intro b
  induction b using Nat.strongRecOn with
  | ind b ih =>
    intro e e' hb he hs
    rcases Nat.eq_zero_or_pos b with rfl | h0
    · rw [show ((0 : Nat) : Int) = 0 from rfl, path_zero hm] at hs ⊢
      simp [seesT] at hs ⊢
      exact ⟨hs.1, by omega⟩
    · obtain ⟨q, hq, hlt, h1⟩ := path_parts hm hb h0 e
      obtain ⟨q', hq', _, h2⟩ := path_parts hm hb h0 e'
      have : q = q' := by omega
      subst this
      rw [h1] at hs
      rw [h2]
      unfold seesT at hs ⊢
      rw [List.any_cons, Bool.or_eq_true] at hs ⊢
      rcases hs with hs | hs
      · left
        simp at hs ⊢
        exact ⟨hs.1, by omega⟩
      · right
        refine ih q hlt _ _ (by omega) ?_ hs
        split <;> split <;> omega
theorem sees_le {p : List (Int × Int)} {e : Int} (hp : ∀ g ∈ p, g.2 ≤ e) {sb se : Int} (h : seesT p sb se = true) : se ≤ e := by
  unfold seesT at h
  rw [List.any_eq_true] at h
  obtain ⟨g, hg, h⟩ := h
  simp at h
  have := hp g hg
  omega
theorem firstIn_spec (q : List (Int × Int)) : ∀ p : List (Int × Int), (firstIn q p = -1 ∧ ∀ g ∈ p, ∀ o ∈ q, o.1 ≠ g.1) ∨ (∃ p1 g p2, p = p1 ++ g :: p2 ∧ firstIn q p = g.1 ∧ (∃ o ∈ q, o.1 = g.1) ∧ ∀ g' ∈ p1, ∀ o ∈ q, o.1 ≠ g'.1)
  | [] => .inl ⟨rfl, by simp⟩
  | g :: r => by
    unfold firstIn
    split
    · rename_i h
      rw [List.any_eq_true] at h
      obtain ⟨o, ho, he⟩ := h
      exact .inr ⟨[], g, r, rfl, rfl, ⟨o, ho, by simpa using he⟩, by simp⟩
    · rename_i h
      have hn : ∀ o ∈ q, o.1 ≠ g.1 := fun o ho e => h (by rw [List.any_eq_true]; exact ⟨o, ho, by simpa using e⟩)
      rcases firstIn_spec q r with ⟨h1, h2⟩ | ⟨p1, g', p2, rfl, h1, h2, h3⟩
      · refine .inl ⟨h1, fun g' hg' => ?_⟩
        rcases List.mem_cons.1 hg' with rfl | hg'
        · exact hn
        · exact h2 g' hg'
      · refine .inr ⟨g :: p1, g', p2, rfl, h1, h2, fun g'' hg'' => ?_⟩
        rcases List.mem_cons.1 hg'' with rfl | hg''
        · exact hn
        · exact h3 g'' hg''
/-- A path goes down. -/
theorem path_desc {l : List Br} (hm : mayT l = true) : ∀ (b : Nat) (e : Int), b < l.length → (pathT l b e).Pairwise fun g h => h.1 < g.1 := by
  intro b
  induction b using Nat.strongRecOn with
  | ind b ih =>
    intro e hb
    rcases Nat.eq_zero_or_pos b with rfl | h0
    · rw [show ((0 : Nat) : Int) = 0 from rfl, path_zero hm]; exact List.pairwise_singleton _ _
    · obtain ⟨q, hq, hlt, h1⟩ := path_parts hm hb h0 e
      rw [h1]
      refine List.pairwise_cons.2 ⟨fun g hg => ?_, ih q hlt _ (by omega)⟩
      have := path_low hm q _ (by omega) g hg
      simp only
      omega
/-- 0 ends each path. -/
theorem path_last {l : List Br} (hm : mayT l = true) : ∀ (b : Nat) (e : Int), b < l.length → ∃ p e', pathT l b e = p ++ [(0, e')] := by
  intro b
  induction b using Nat.strongRecOn with
  | ind b ih =>
    intro e hb
    rcases Nat.eq_zero_or_pos b with rfl | h0
    · exact ⟨[], e, by rw [show ((0 : Nat) : Int) = 0 from rfl, path_zero hm]; rfl⟩
    · obtain ⟨q, hq, hlt, h1⟩ := path_parts hm hb h0 e
      obtain ⟨p, e', h2⟩ := ih q hlt (if l[b].fork < e then l[b].fork else e) (by omega)
      exact ⟨_ :: p, e', by rw [h1, h2]; rfl⟩
/-- The nearest one is the greatest that stands in both. -/
theorem common_spec {l : List Br} (hm : mayT l = true) {a b : Nat} (ha : a < l.length) (hb : b < l.length) :
    (∃ g ∈ pathT l a 0, g.1 = commonT l a b) ∧ (∃ g ∈ pathT l b 0, g.1 = commonT l a b) ∧ ∀ g ∈ pathT l a 0, ∀ o ∈ pathT l b 0, g.1 = o.1 → g.1 ≤ commonT l a b := by
  rcases firstIn_spec (pathT l b 0) (pathT l a 0) with ⟨h1, h2⟩ | ⟨p1, g, p2, he, h1, ⟨o, ho, h2⟩, h3⟩
  · exfalso
    obtain ⟨p, e1, h4⟩ := path_last hm a 0 ha
    obtain ⟨p', e2, h5⟩ := path_last hm b 0 hb
    exact h2 (0, e1) (by rw [h4]; simp) (0, e2) (by rw [h5]; simp) rfl
  · unfold commonT
    rw [h1]
    refine ⟨⟨g, by rw [he]; simp, rfl⟩, ⟨o, ho, h2⟩, fun g' hg' o' ho' e => ?_⟩
    rw [he] at hg'
    rcases List.mem_append.1 hg' with hg' | hg'
    · exact absurd e.symm (h3 g' hg' o' ho')
    · rcases List.mem_cons.1 hg' with rfl | hg'
      · exact Int.le_refl _
      · have hd := path_desc hm a 0 ha
        rw [he] at hd
        have := (List.pairwise_cons.1 (List.pairwise_append.1 hd).2.1).1 g' hg'
        omega
theorem common_sides {l : List Br} (hm : mayT l = true) {a b : Nat} (ha : a < l.length) (hb : b < l.length) : commonT l b a = commonT l a b := by
  obtain ⟨⟨g1, h1, e1⟩, ⟨g2, h2, e2⟩, h3⟩ := common_spec hm ha hb
  obtain ⟨⟨k1, i1, f1⟩, ⟨k2, i2, f2⟩, i3⟩ := common_spec hm hb ha
  have x1 := h3 k2 i2 k1 i1 (by omega)
  have x2 := i3 g2 h2 g1 h1 (by omega)
  omega
theorem common_self {l : List Br} (hm : mayT l = true) {a : Nat} (ha : a < l.length) : commonT l a a = a := by
  obtain ⟨⟨g1, h1, e1⟩, -, h3⟩ := common_spec hm ha ha
  obtain ⟨r, hr⟩ := path_head hm ha 0
  have x1 := h3 _ (by rw [hr]; exact List.mem_cons_self) _ (by rw [hr]; exact List.mem_cons_self) rfl
  have x2 := path_low hm a 0 ha g1 h1
  simp only at x1
  omega
end Go.Proofs.Ytopiddlijlcbbaa
