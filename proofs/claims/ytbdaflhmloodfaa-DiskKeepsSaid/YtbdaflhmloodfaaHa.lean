/- Layer 7, the project's disk: what it is made of. -/
import Derived.Test.YtbdaflhmloodfaaHp
import Derived.Test.YtbdaflhmloodfaaBstr
import Derived.Maps.OwnSet
import Derived.Maps.Ext
namespace Go.Proofs.Ytbdaflhmloodfaa
open Go.RowKit
set_option linter.unusedVariables false

/-- What the project's files, and its disk, are made of. -/
def filO : Obj → Bool
  | .cells _ t _ => t == 70 || t == 5
  | .map _ _ => true
  | _ => false
def projO (o : Obj) : Bool := filO o || (match o with | .cells _ t _ => t == 54 | _ => false)
theorem projO_disk (cs : Array Value) : projO (.cells cs 54 (0, 0)) = true := by simp [projO]
theorem filO_disk (cs : Array Value) : filO (.cells cs 54 (0, 0)) = false := by simp [filO]
theorem filO_file (cs : Array Value) : filO (.cells cs 70 (0, 0)) = true := by simp [filO]
theorem filO_u8 (cs : Array Value) : filO (.cells cs 5 (0, 0)) = true := by simp [filO]
theorem projO_fil {o : Obj} (h : filO o = true) : projO o = true := by simp [projO, h]
theorem projO_file (cs : Array Value) : projO (.cells cs 70 (0, 0)) = true := projO_fil (filO_file cs)
/-- From w to w' nothing has turned but blocks of S that are such as projO says, and what is new. -/
structure Kept (S : Nat → Prop) (w w' : World) : Prop where
  below : Below 0 w w'
  other : ∀ (i : Nat) (o : Obj), w.heap[i]? = some o → (¬ S i ∨ projO o = false) → w'.heap[i]? = some o
section
variable {S : Nat → Prop} {w w' w'' : World}
theorem Kept.refl (S : Nat → Prop) (w : World) : Kept S w w := ⟨Below.refl _ _, fun _ _ h _ => h⟩
theorem Kept.trans (h : Kept S w w') (k : Kept S w' w'') : Kept S w w'' := ⟨h.below.trans k.below, fun i o hi hp => k.other i o (h.other i o hi hp) hp⟩
theorem Kept.of_below (h : Below w.heap.size w w') : Kept S w w' := ⟨h.mono (Nat.zero_le _), fun i o hi _ => (h.block i (Array.getElem?_eq_some_iff.1 hi).1).trans hi⟩
theorem Kept.size (h : Kept S w w') : w.heap.size ≤ w'.heap.size := h.below.size
theorem Kept.drew (h : Kept S w w') : Kept S w w'.drew := ⟨h.below.drew, h.other⟩
theorem Kept.drewN (h : Kept S w w') (n : Nat) : Kept S w (w'.drewN n) := ⟨h.below.drewN n, h.other⟩
theorem Kept.alloc (h : Kept S w w') (o : Obj) : Kept S w (w'.alloc o) := h.trans (Kept.of_below (alloc_below w' o))
/-- A block that S and projO take in has turned. -/
theorem Kept.of_grown {g : Nat} {o : Obj} (h : w.grownBy w' (some g)) (hg : S g) (ho : w.heap[g]? = some o) (hp : projO o = true) : Kept S w w' := by
  have hlt : g < w.heap.size := (Array.getElem?_eq_some_iff.1 ho).1
  refine ⟨(Below.refl 0 w).grown h (by omega) (by intro k _; omega), fun i x hi hx => ?_⟩
  by_cases hig : i = g
  · subst hig
    rw [ho] at hi
    cases hi
    rcases hx with hx | hx
    · exact absurd hg hx
    · rw [hp] at hx; cases hx
  · exact (h.block i (Array.getElem?_eq_some_iff.1 hi).1 (fun e => hig (by injection e))).trans hi
theorem grown_set (w : World) (g j : Nat) (u : Value) : w.grownBy (w.setCell ⟨g, j, none⟩ u) (some g) :=
  ⟨rfl, rfl, rfl, by simp [World.setCell], fun i _ hne => Below.heap_setCell w ⟨g, j, none⟩ u i (fun e => hne (by rw [e]))⟩
theorem Kept.set {n : Nat} {cs : Array Value} {t : TypeId} (h : Kept S w w') (hb : Box w' n cs t) (hn : S n) (hp : projO (.cells cs t (0, 0)) = true) (j : Nat) (u : Value) : Kept S w (w'.setCell ⟨n, j, none⟩ u) :=
  h.trans (Kept.of_grown (grown_set w' n j u) hn hb hp)
theorem Kept.box (h : Kept S w w') {n : Nat} {cs : Array Value} {t : TypeId} (hb : Box w n cs t) (hp : projO (.cells cs t (0, 0)) = false) : Box w' n cs t := h.other n _ hb (.inr hp)
theorem Kept.under (h : Kept S w w') {B : Nat} (hB : B ≤ w.heap.size) (hS : ∀ i, S i → B ≤ i) : Below B w w' := by
  refine ⟨h.below.os, h.below.tape, h.below.output, h.below.size, fun i hi => ?_⟩
  have hl : i < w.heap.size := by omega
  rw [h.other i w.heap[i] (by simp [hl]) (.inl (fun e => by have := hS i e; omega))]
  simp [hl]
end

/-- How what is in the map reads: as its block. -/
def ptrE (v : Value) : Option (DataW Unit × List MemPlace) := match v with
  | .pointer none => some (.lit (.bool false), [])
  | .pointer (some ⟨g, 0, none⟩) => some (.lit (.int .i64 g), [])
  | _ => none
theorem ptrE_at (g : Nat) : ptrE (.pointer (some ⟨g, 0, none⟩)) = some (.lit (.int .i64 g), []) := rfl
theorem ptrE_inv {v : Value} {z : List MemPlace} {g : Nat} (h : ptrE v = some (.lit (.int .i64 g), z)) : v = .pointer (some ⟨g, 0, none⟩) := by
  unfold ptrE at h
  split at h
  · cases h
  · rename_i g'
    simp only [Option.some.injEq, Prod.mk.injEq, DataW.lit.injEq, Lit.int.injEq, true_and] at h
    have : g' = g := by have := h.1; omega
    rw [this]
  · cases h
theorem ptrE_nil {v : Value} {z : List MemPlace} (h : ptrE v = some (.lit (.bool false), z)) : v = .pointer none := by
  unfold ptrE at h
  split at h
  · rfl
  · cases h
  · cases h
theorem ptrE_shape {v : Value} {y : DataW Unit × List MemPlace} (h : ptrE v = some y) : ∃ c : Option Nat, v = .pointer (c.map fun g => ⟨g, 0, none⟩) := by
  unfold ptrE at h
  split at h
  · exact ⟨none, rfl⟩
  · rename_i g; exact ⟨some g, rfl⟩
  · cases h
theorem keyed7 : Maps.Keyed Try.prog 9 := Maps.string_keyed Try.underlying9
theorem zero7 (w : World) : (zeroValue 67).run Try.prog w = .ok (.pointer none) w := by kernel_rfl
def keyN (n : ByteArray) : Lit := .string n.data.toList
theorem key7 {n : ByteArray} (h : n.size ≤ 9223372036854775807) : keyOf Try.prog 9 (.string n) = some (keyN n) := Go.WideMaps.keyOf_string_mk Try.underlying9 (by simp only [maxLen]; exact h)
theorem keyN_inj {a b : ByteArray} (h : keyN a = keyN b) : a = b := by unfold keyN at h; injection h with h; exact name_inj h
theorem keyN_lit (n : ByteArray) : WideAt.IsKeyLit (keyN n) := by unfold keyN; simp [WideAt.IsKeyLit]

/-- The map tells of each file its block. -/
structure MapIs (D : DataW Unit) (l : List Fl) (gb : ByteArray → Nat) : Prop where
  has : ∀ k : Lit, Maps.has D k = true ↔ ∃ f ∈ l, k = keyN f.name
  at' : ∀ f ∈ l, ∀ z, D.atKey (keyN f.name) z = .lit (.int .i64 (gb f.name))
  size : Maps.size D = l.length
abbrev OwnM (w : World) (m : Nat) (n : Nat) (D : DataW Unit) : Prop := w.ownsMap Try.prog 9 ptrE m n D
/-- A file. -/
structure FileR (w : World) (S : Nat → Prop) (g : Nat) (v : Value) (f : Fl) : Prop where
  sg : S g
  box : Box w g #[v, .int .i64 f.safe] 70
  own : OwnB w 0 v f.b.data.toList
  sv : ∀ j, v.ownBlock = some j → S j
/-- The files of a disk, in the map of block m: of each name its block, and its bytes. -/
structure FilesR (w : World) (S : Nat → Prop) (l : List Fl) (m : Nat) (gb : ByteArray → Nat) (vv : ByteArray → Value) : Prop where
  sm : S m
  map : ∃ D : DataW Unit, OwnM w m l.length D ∧ MapIs D l gb
  file : ∀ f ∈ l, FileR w S (gb f.name) (vv f.name) f
  apart : ∀ f ∈ l, ∀ f' ∈ l, f.name ≠ f'.name → gb f.name ≠ gb f'.name ∧ ∀ j, (vv f.name).ownBlock = some j → (vv f'.name).ownBlock ≠ some j
  sorted : SortD l
  names : ∀ f ∈ l, f.name.size ≤ 20
def inA (A : Int) (d : Dk) : Prop := -9223372036854775808 ≤ A ∧ A ≤ 9223372036854775807 ∧ (d.down = false → A = d.left ∨ (A < 0 ∧ d.left < 0))
/-- p is the project's disk d, in block g; all of it lies in S. -/
structure RdMp (w : World) (S : Nat → Prop) (g : Nat) (d : Dk) (m : Nat) (gb : ByteArray → Nat) (vv : ByteArray → Value) : Prop where
  sg : S g
  box : ∃ A, Box w g #[.map (some m), .int .i64 d.max, .int .i64 A, .bool d.down] 54 ∧ inA A d
  files : FilesR w S d.f m gb vv
structure RdM (w : World) (S : Nat → Prop) (g : Nat) (p : Value) (d : Dk) : Prop where
  ptr : p = .pointer (some ⟨g, 0, none⟩)
  has : ∃ m gb vv, RdMp w S g d m gb vv
section
variable {S : Nat → Prop} {w w' : World} {l : List Fl} {m : Nat} {gb : ByteArray → Nat} {vv : ByteArray → Value}
theorem OwnM.block {n : Nat} {D : DataW Unit} (h : OwnM w m n D) : ∃ es c, w.heap[m]? = some (.map es c) := by obtain ⟨es, c, hb, _⟩ := h; exact ⟨es, c, hb⟩
theorem OwnM.to {n : Nat} {D : DataW Unit} (h : OwnM w m n D) (hb : ∀ o, filO o = true → w.heap[m]? = some o → w'.heap[m]? = some o) : OwnM w' m n D := by
  obtain ⟨es, c, hbl, r⟩ := h
  exact ⟨es, c, hb _ rfl hbl, r⟩
theorem OwnB.to {base : Nat} {v : Value} {x : List UInt8} (h : OwnB w base v x) (hb : ∀ j o, v.ownBlock = some j → filO o = true → w.heap[j]? = some o → w'.heap[j]? = some o) : OwnB w' base v x := by
  refine ⟨h.1, ?_⟩
  rcases h.2 with h2 | ⟨g, cap, cur, e1, hg, hc, h3⟩
  · exact .inl h2
  · exact .inr ⟨g, cap, cur, e1, hg, hb g _ (by rw [e1]; rfl) (filO_u8 cur) hc, h3⟩
theorem FileR.to {g : Nat} {v : Value} {f : Fl} (h : FileR w S g v f) (hb : ∀ i o, (i = g ∨ v.ownBlock = some i) → filO o = true → w.heap[i]? = some o → w'.heap[i]? = some o) : FileR w' S g v f :=
  ⟨h.sg, hb g _ (.inl rfl) (filO_file _) h.box, h.own.to (fun j o hj ho => hb j o (.inr hj) ho), h.sv⟩
theorem FilesR.keep (h : FilesR w S l m gb vv) (hb : ∀ i o, S i → filO o = true → w.heap[i]? = some o → w'.heap[i]? = some o) : FilesR w' S l m gb vv := by
  obtain ⟨D, h1, h2⟩ := h.map
  exact ⟨h.sm, ⟨D, h1.to (fun o => hb m o h.sm), h2⟩, fun f hf => (h.file f hf).to (fun i o hi => hb i o (by rcases hi with rfl | hi; exact (h.file f hf).sg; exact (h.file f hf).sv i hi)), h.apart, h.sorted, h.names⟩
theorem FilesR.on (h : FilesR w S l m gb vv) (hb : Below w.heap.size w w') : FilesR w' S l m gb vv := h.keep fun i o _ _ hi => (hb.block i (Array.getElem?_eq_some_iff.1 hi).1).trans hi
theorem FileR.lt {g : Nat} {v : Value} {f : Fl} (h : FileR w S g v f) : g < w.heap.size := h.box.lt
theorem OwnB.ltB {base : Nat} {v : Value} {x : List UInt8} (h : OwnB w base v x) : ∀ j, v.ownBlock = some j → j < w.heap.size := fun j hj => (h.lt j hj).2
theorem FilesR.sub (h : FilesR w S l m gb vv) {S' : Nat → Prop} (hs : ∀ i, i < w.heap.size → S i → S' i) : FilesR w S' l m gb vv := by
  obtain ⟨D, h1, h2⟩ := h.map
  obtain ⟨es, c, hb⟩ := OwnM.block h1
  exact ⟨hs m (Array.getElem?_eq_some_iff.1 hb).1 h.sm, ⟨D, h1, h2⟩, fun f hf => ⟨hs _ (h.file f hf).lt (h.file f hf).sg, (h.file f hf).box, (h.file f hf).own, fun j hj => hs j ((h.file f hf).own.ltB j hj) ((h.file f hf).sv j hj)⟩, h.apart, h.sorted, h.names⟩
variable {g : Nat} {d : Dk} {p : Value}
theorem RdMp.keep (h : RdMp w S g d m gb vv) (hb : ∀ i o, S i → projO o = true → w.heap[i]? = some o → w'.heap[i]? = some o) : RdMp w' S g d m gb vv := by
  obtain ⟨h1, ⟨A, h2, h3⟩, h4⟩ := h
  exact ⟨h1, ⟨A, hb g _ h1 (projO_disk _) h2, h3⟩, h4.keep fun i o hs ho => hb i o hs (projO_fil ho)⟩
theorem RdMp.on (h : RdMp w S g d m gb vv) (hb : Below w.heap.size w w') : RdMp w' S g d m gb vv := h.keep fun i o _ _ hi => (hb.block i (Array.getElem?_eq_some_iff.1 hi).1).trans hi
theorem RdMp.sub (h : RdMp w S g d m gb vv) {S' : Nat → Prop} (hs : ∀ i, i < w.heap.size → S i → S' i) : RdMp w S' g d m gb vv := by
  obtain ⟨h1, ⟨A, h2, h3⟩, h4⟩ := h
  exact ⟨hs g h2.lt h1, ⟨A, h2, h3⟩, h4.sub hs⟩
theorem RdM.keep (h : RdM w S g p d) (hb : ∀ i o, S i → projO o = true → w.heap[i]? = some o → w'.heap[i]? = some o) : RdM w' S g p d := by
  obtain ⟨h1, m, gb, vv, h2⟩ := h
  exact ⟨h1, m, gb, vv, h2.keep hb⟩
theorem RdM.on (h : RdM w S g p d) (hb : Below w.heap.size w w') : RdM w' S g p d := by
  obtain ⟨h1, m, gb, vv, h2⟩ := h
  exact ⟨h1, m, gb, vv, h2.on hb⟩
theorem RdM.sub (h : RdM w S g p d) {S' : Nat → Prop} (hs : ∀ i, i < w.heap.size → S i → S' i) : RdM w S' g p d := by
  obtain ⟨h1, m, gb, vv, h2⟩ := h
  exact ⟨h1, m, gb, vv, h2.sub hs⟩
/-- The document's disk while the project's turns, and the other way round. -/
theorem docO_proj {o : Obj} (h : projO o = true) : docO o = false := by
  unfold projO filO at h
  unfold docO
  cases o <;> simp at h ⊢
  rename_i cs t fr
  rcases h with (rfl | rfl) | rfl <;> simp
theorem RdD.kept {B : Nat} (h : RdD w B g p d) (hk : Kept S w w') : RdD w' B g p d := by
  obtain ⟨h1, h2, fv, h3, h4⟩ := h
  have hp : ∀ o, docO o = true → projO o = false := fun o ho => by
    cases hq : projO o
    · rfl
    · rw [docO_proj hq] at ho; cases ho
  refine ⟨h1, h2, fv, hk.box h3 (hp _ (docO_disk _)), h4.1, ?_⟩
  rcases h4.2 with h5 | ⟨g', cap, cur, e1, hg, hc, h6⟩
  · exact .inl h5
  · exact .inr ⟨g', cap, cur, e1, hg, hk.other g' _ hc (.inr (hp _ (docO_file cur))), h6⟩
theorem RdM.keeps {B : Nat} (h : RdM w S g p d) (hk : Keeps B docO w w') : RdM w' S g p d := h.keep fun i o _ ho hi => hk.other i o hi (docO_proj ho)

/-- The look-up of a file. -/
theorem FilesR.hit (h : FilesR w S l m gb vv) {f : Fl} (hf : f ∈ l) : (Instr.lookup 52 (.map (some m)) (.string f.name) false).run Try.prog w = .ok (.pointer (some ⟨gb f.name, 0, none⟩)) w := by
  obtain ⟨D, h1, h2⟩ := h.map
  obtain ⟨v, ps, hrun, hv⟩ := World.ownsMap.lookup h1 keyed7 Try.underlying52 (zero7 w) (zd := .lit (.bool false)) (zp := []) rfl (key7 (n := f.name) (by have := h.names f hf; omega))
  rw [h2.at' f hf] at hv
  rw [hrun, ptrE_inv hv]
theorem FilesR.miss (h : FilesR w S l m gb vv) {n : ByteArray} (hn : n.size ≤ 9223372036854775807) (hf : ∀ f ∈ l, f.name ≠ n) : (Instr.lookup 52 (.map (some m)) (.string n) false).run Try.prog w = .ok (.pointer none) w := by
  obtain ⟨D, h1, h2⟩ := h.map
  obtain ⟨v, ps, hrun, hv⟩ := World.ownsMap.lookup h1 keyed7 Try.underlying52 (zero7 w) (zd := .lit (.bool false)) (zp := []) rfl (key7 hn)
  have hno : Maps.has D (keyN n) = false := by
    cases hh : Maps.has D (keyN n)
    · rfl
    · obtain ⟨f, hf2, e⟩ := (h2.has _).1 hh
      exact absurd (keyN_inj e).symm (hf f hf2)
  rw [Maps.atKey_of_not_has hno] at hv
  rw [hrun, ptrE_nil hv]
theorem FilesR.len (h : FilesR w S l m gb vv) (ty : TypeId) : (Builtin.len_ #[52] ty #[.map (some m)]).run Try.prog w = .ok (.int .i64 l.length) w := by
  obtain ⟨D, h1, h2⟩ := h.map
  rw [World.ownsMap.len h1 Try.underlying52 ty, h2.size]
end

section
variable {S : Nat → Prop} {w w' : World} {l : List Fl} {m : Nat} {gb : ByteArray → Nat} {vv : ByteArray → Value}
def upd {α : Type} (f : ByteArray → α) (n : ByteArray) (a : α) : ByteArray → α := fun k => if k = n then a else f k
theorem upd_same {α : Type} (f : ByteArray → α) (n : ByteArray) (a : α) : upd f n a n = a := by simp [upd]
theorem upd_other {α : Type} (f : ByteArray → α) {n k : ByteArray} (a : α) (h : k ≠ n) : upd f n a k = f k := by simp [upd, h]
theorem OwnM.tight {n : Nat} {D : DataW Unit} (h : OwnM w m n D) : OwnM w m (Maps.size D) D := by
  obtain ⟨es, clock, hb, F, hs, rfl⟩ := h
  refine ⟨es, clock, hb, F, ?_, rfl⟩
  simp [Maps.size, length_sorted]
/-- 'm[name] = f': a file is put. -/
theorem FilesR.put (h : FilesR w S l m gb vv) (hl : l.length ≤ 1000000) {q : Fl} {gq : Nat} {vq : Value} (hq : FileR w S gq vq q) (hn : q.name.size ≤ 20)
    (hap : ∀ f ∈ l, f.name ≠ q.name → gb f.name ≠ gq ∧ ∀ j, (vv f.name).ownBlock = some j → vq.ownBlock ≠ some j) :
    ∃ w', (Instr.mapUpdate 52 (.map (some m)) (.string q.name) (.pointer (some ⟨gq, 0, none⟩))).run Try.prog w = .ok () w' ∧ FilesR w' S (putF l q) m (upd gb q.name gq) (upd vv q.name vq) ∧ w.grownBy w' (some m) := by
  obtain ⟨D, h1, h2⟩ := h.map
  obtain ⟨es, c, hm⟩ := OwnM.block h1
  obtain ⟨w', hrun, hown, hg⟩ := World.ownsMap.update h1 keyed7 Try.underlying52 (by simp only [maxLen]; omega) (key7 (n := q.name) (by omega)) (ptrE_at gq)
  have htidy := World.ownsMap.tidy h1 keyed7
  have hism := World.ownsMap.isMap h1
  have hmem := fun y => @mem_putF q l y
  have hkeep : ∀ i o, filO o = true → w.heap[i]? = some o → (∀ es c, o ≠ .map es c) → w'.heap[i]? = some o := fun i o _ hi hne => by
    have him : i ≠ m := fun e => hne es c (Option.some.inj (hi.symm.trans (by rw [e]; exact hm)))
    exact (hg.block i (Array.getElem?_eq_some_iff.1 hi).1 (fun e => him (by injection e))).trans hi
  have hfile : ∀ {g : Nat} {v : Value} {f : Fl}, FileR w S g v f → FileR w' S g v f := fun {g v f} hf =>
    ⟨hf.sg, hkeep _ _ (filO_file _) hf.box (by intro es c e; cases e), ⟨hf.own.1, by
      rcases hf.own.2 with h2 | ⟨g', cap, cur, e1, hg', hc, h3⟩
      · exact .inl h2
      · exact .inr ⟨g', cap, cur, e1, hg', hkeep _ _ (filO_u8 cur) hc (by intro es c e; cases e), h3⟩⟩, hf.sv⟩
  have hnm : ∀ f ∈ l, f.name ≠ q.name → upd gb q.name gq f.name = gb f.name ∧ upd vv q.name vq f.name = vv f.name := fun f _ hne => ⟨upd_other _ _ hne, upd_other _ _ hne⟩
  have hsize : Maps.size (D.put (keyN q.name) (.lit (.int .i64 gq))) = (putF l q).length := by
    rw [Maps.size_put htidy]
    by_cases hex : ∃ f ∈ l, f.name = q.name
    · rw [if_pos ((h2.has _).2 (by obtain ⟨f, hf, e⟩ := hex; exact ⟨f, hf, by rw [e]⟩)), h2.size, len_putF_old h.sorted hex]
    · rw [if_neg (fun e => hex (by obtain ⟨f, hf, e⟩ := (h2.has _).1 e; exact ⟨f, hf, (keyN_inj e).symm⟩)), h2.size, len_putF_new (fun y hy e => hex ⟨y, hy, e⟩)]
  refine ⟨w', hrun, ⟨h.sm, ⟨_, by rw [← hsize]; exact OwnM.tight hown, ⟨fun k => ?_, fun f hf z => ?_, hsize⟩⟩, fun f hf => ?_, fun f hf f' hf' hne => ?_, sort_putF h.sorted q, fun f hf => ?_⟩, hg⟩
  · by_cases hk : k = keyN q.name
    · subst hk
      rw [Maps.has_put_same hism (keyN_lit _)]
      exact ⟨fun _ => ⟨q, (hmem q).2 (.inl rfl), rfl⟩, fun _ => rfl⟩
    · rw [Maps.has_put_other hk, h2.has]
      constructor
      · rintro ⟨f, hf, rfl⟩
        exact ⟨f, (hmem f).2 (.inr ⟨hf, fun e => hk (by rw [e])⟩), rfl⟩
      · rintro ⟨f, hf, rfl⟩
        rcases (hmem f).1 hf with rfl | ⟨hf, _⟩
        · exact absurd rfl hk
        · exact ⟨f, hf, rfl⟩
  · rcases (hmem f).1 hf with rfl | ⟨hf, hne⟩
    · rw [Maps.atKey_put_same hism (keyN_lit _), upd_same]
    · rw [Maps.atKey_put_other (fun e => hne (keyN_inj e)), h2.at' f hf, upd_other _ _ hne]
  · rcases (hmem f).1 hf with rfl | ⟨hf, hne⟩
    · rw [upd_same, upd_same]; exact hfile hq
    · rw [upd_other _ _ hne, upd_other _ _ hne]; exact hfile (h.file f hf)
  · rcases (hmem f).1 hf with e1 | ⟨hfl, hne1⟩ <;> rcases (hmem f').1 hf' with e2 | ⟨hfl', hne2⟩
    · rw [e1, e2] at hne; exact absurd rfl hne
    · rw [e1, upd_same, upd_same, upd_other _ _ hne2, upd_other _ _ hne2]
      obtain ⟨a, b⟩ := hap f' hfl' hne2
      exact ⟨fun e => a e.symm, fun j hj e => b j e hj⟩
    · rw [e2, upd_same, upd_same, upd_other _ _ hne1, upd_other _ _ hne1]
      exact hap f hfl hne1
    · rw [upd_other _ _ hne1, upd_other _ _ hne1, upd_other _ _ hne2, upd_other _ _ hne2]
      exact h.apart f hfl f' hfl' hne
  · rcases (hmem f).1 hf with rfl | ⟨hf, _⟩
    · exact hn
    · exact h.names f hf
/-- 'delete(m, name)': a file is no more. -/
theorem FilesR.drop (h : FilesR w S l m gb vv) {k : Nat} (hk : k < l.length) (ty : TypeId) :
    ∃ w', (Builtin.delete_ #[52, 9] ty #[.map (some m), .string l[k].name]).run Try.prog w = .ok (.tuple #[]) w' ∧ FilesR w' S (cutF7 l k) m gb vv ∧ w.grownBy w' (some m) := by
  obtain ⟨D, h1, h2⟩ := h.map
  obtain ⟨es, c, hm⟩ := OwnM.block h1
  have hml : l[k] ∈ l := List.getElem_mem hk
  obtain ⟨w', hrun, hown, ht⟩ := World.ownsMap.drop h1 keyed7 Try.underlying52 (key7 (n := l[k].name) (by have := h.names _ hml; omega)) ty
  have hg := ht.grown
  have htidy := World.ownsMap.tidy h1 keyed7
  have hmem := fun y => @mem_cutF l h.sorted k hk y
  have hkeep : ∀ i o, filO o = true → w.heap[i]? = some o → (∀ es c, o ≠ .map es c) → w'.heap[i]? = some o := fun i o _ hi hne => by
    have him : i ≠ m := fun e => hne es c (Option.some.inj (hi.symm.trans (by rw [e]; exact hm)))
    exact (hg.block i (Array.getElem?_eq_some_iff.1 hi).1 (fun e => him (by injection e))).trans hi
  have hfile : ∀ {g : Nat} {v : Value} {f : Fl}, FileR w S g v f → FileR w' S g v f := fun {g v f} hf =>
    ⟨hf.sg, hkeep _ _ (filO_file _) hf.box (by intro es c e; cases e), ⟨hf.own.1, by
      rcases hf.own.2 with h2 | ⟨g', cap, cur, e1, hg', hc, h3⟩
      · exact .inl h2
      · exact .inr ⟨g', cap, cur, e1, hg', hkeep _ _ (filO_u8 cur) hc (by intro es c e; cases e), h3⟩⟩, hf.sv⟩
  have hsize : Maps.size (D.del (keyN l[k].name)) = (cutF7 l k).length := by
    have h3 := Maps.size_del htidy (k := keyN l[k].name)
    rw [if_pos ((h2.has _).2 ⟨l[k], hml, rfl⟩), h2.size] at h3
    rw [len_cut l k hk]
    omega
  refine ⟨w', hrun, ⟨h.sm, ⟨_, by rw [← hsize]; exact OwnM.tight hown, ⟨fun x => ?_, fun f hf z => ?_, hsize⟩⟩, fun f hf => hfile (h.file f ((hmem f).1 hf).1), fun f hf f' hf' hne => h.apart f ((hmem f).1 hf).1 f' ((hmem f').1 hf').1 hne, sort_cut h.sorted k, fun f hf => h.names f ((hmem f).1 hf).1⟩, hg⟩
  · by_cases hx : x = keyN l[k].name
    · subst hx
      rw [Maps.has_del_same]
      exact ⟨(fun e => by cases e), (fun ⟨f, hf, e⟩ => absurd (keyN_inj e).symm ((hmem f).1 hf).2)⟩
    · rw [Maps.has_del_other hx, h2.has]
      constructor
      · rintro ⟨f, hf, rfl⟩
        exact ⟨f, (hmem f).2 ⟨hf, fun e => hx (by rw [e])⟩, rfl⟩
      · rintro ⟨f, hf, rfl⟩
        exact ⟨f, ((hmem f).1 hf).1, rfl⟩
  · obtain ⟨hf, hne⟩ := (hmem f).1 hf
    rw [Maps.atKey_del_other (fun e => hne (keyN_inj e)), h2.at' f hf]
/-- What is in a file is turned. -/
theorem FilesR.turn (h : FilesR w S l m gb vv) {k : Nat} (hk : k < l.length) {f' : Fl} {v' : Value} (hn : f'.name = l[k].name) (hf' : FileR w' S (gb l[k].name) v' f')
    (hv : ∀ j, v'.ownBlock = some j → (vv l[k].name).ownBlock = some j ∨ w.heap.size ≤ j)
    (hb : ∀ i o, i ≠ gb l[k].name → (vv l[k].name).ownBlock ≠ some i → w.heap[i]? = some o → w'.heap[i]? = some o) : FilesR w' S (l.set k f') m gb (upd vv l[k].name v') := by
  obtain ⟨D, h1, h2⟩ := h.map
  obtain ⟨es, c, hm⟩ := OwnM.block h1
  have hml : l[k] ∈ l := List.getElem_mem hk
  have hfk := h.file _ hml
  have hmg : m ≠ gb l[k].name := fun e => by
    have := hfk.box; unfold Box at this; rw [← e, hm] at this; cases this
  have hmv : (vv l[k].name).ownBlock ≠ some m := fun e => by
    rcases hfk.own.2 with ⟨h3, _⟩ | ⟨g', cap, cur, e1, hg', hc, h3⟩
    · rw [h3] at e; cases e
    · rw [e1] at e; simp only [Value.ownBlock, Option.some.injEq] at e; subst e; rw [hm] at hc; cases hc
  have hmem := fun y => @mem_setF l h.sorted k hk f' hn y
  have hgb : ∀ f ∈ l, f.name ≠ f'.name → FileR w' S (gb f.name) (vv f.name) f := fun f hf hne => by
    obtain ⟨a, b⟩ := h.apart f hf _ hml (by rw [← hn]; exact hne)
    have hff := h.file f hf
    refine hff.to fun i o hi ho hio => hb i o ?_ ?_ hio
    · rcases hi with rfl | hi
      · exact a
      · intro e; subst e
        rcases hff.own.2 with ⟨h3, _⟩ | ⟨g', cap, cur, e1, hg', hc, h3⟩
        · rw [h3] at hi; cases hi
        · rw [e1] at hi; simp only [Value.ownBlock, Option.some.injEq] at hi; subst hi
          have := hfk.box; unfold Box at this; rw [this] at hc; injection hc with hc; injection hc with _ hc; cases hc
    · rcases hi with rfl | hi
      · intro e
        rcases hfk.own.2 with ⟨h3, _⟩ | ⟨g', cap, cur, e1, hg', hc, h3⟩
        · rw [h3] at e; cases e
        · rw [e1] at e; simp only [Value.ownBlock, Option.some.injEq] at e; subst e
          have := hff.box; unfold Box at this; rw [this] at hc; injection hc with hc; injection hc with _ hc; cases hc
      · exact b i hi
  have hlt : ∀ f ∈ l, ∀ j, (vv f.name).ownBlock = some j → j < w.heap.size := fun f hf => (h.file f hf).own.ltB
  refine ⟨h.sm, ⟨D, ?_, ⟨fun x => ?_, fun f hf z => ?_, by rw [List.length_set]; exact h2.size⟩⟩, fun f hf => ?_, fun f hf f2 hf2 hne => ?_, sort_set h.sorted hk hn, fun f hf => ?_⟩
  · rw [List.length_set]; exact h1.to fun o _ ho => hb m o hmg hmv ho
  · rw [h2.has]
    constructor
    · rintro ⟨f, hf, rfl⟩
      by_cases hne : f.name = f'.name
      · exact ⟨f', (hmem _).2 (.inl rfl), by rw [hne]⟩
      · exact ⟨f, (hmem _).2 (.inr ⟨hf, hne⟩), rfl⟩
    · rintro ⟨f, hf, rfl⟩
      rcases (hmem f).1 hf with rfl | ⟨hf, _⟩
      · exact ⟨l[k], hml, by rw [hn]⟩
      · exact ⟨f, hf, rfl⟩
  · rcases (hmem f).1 hf with rfl | ⟨hf, _⟩
    · rw [hn]; exact h2.at' _ hml z
    · exact h2.at' f hf z
  · rcases (hmem f).1 hf with rfl | ⟨hf, hne⟩
    · rw [hn, upd_same]; exact hf'
    · rw [upd_other _ _ (by rw [← hn]; exact hne)]; exact hgb f hf hne
  · rcases (hmem f).1 hf with e1 | ⟨hfl, hne1⟩ <;> rcases (hmem f2).1 hf2 with e2 | ⟨hfl2, hne2⟩
    · rw [e1, e2] at hne; exact absurd rfl hne
    · rw [e1, hn, upd_same, upd_other _ _ (by rw [← hn]; exact hne2)]
      obtain ⟨a, b⟩ := h.apart _ hml f2 hfl2 (by rw [← hn, ← e1]; exact hne)
      refine ⟨a, fun j hj e => ?_⟩
      rcases hv j hj with hj | hj
      · exact b j hj e
      · have := hlt f2 hfl2 j e; omega
    · rw [e2, hn, upd_same, upd_other _ _ (by rw [← hn]; exact hne1)]
      obtain ⟨a, b⟩ := h.apart f hfl _ hml (by rw [← hn, ← e2]; exact hne)
      refine ⟨a, fun j hj e => ?_⟩
      rcases hv j e with hj2 | hj2
      · exact b j hj hj2
      · have := hlt f hfl j hj; omega
    · rw [upd_other _ _ (by rw [← hn]; exact hne1), upd_other _ _ (by rw [← hn]; exact hne2)]
      exact h.apart f hfl f2 hfl2 hne
  · rcases (hmem f).1 hf with rfl | ⟨hf, _⟩
    · rw [hn]; exact h.names _ hml
    · exact h.names f hf
end
end Go.Proofs.Ytbdaflhmloodfaa
