/- Layer 3: rows of 32 numbers that a call owns; the document's bits of a number. -/
import Derived.Test.YtdpjohehmbddnaaCm
import Derived.Test.YtdpjohehmbddnaaBstr
import Derived.RegionTactic
namespace Go.Proofs.Ytdpjohehmbddnaa
open Go.RowKit
set_option linter.unusedVariables false

/-- v is the row, in block g, of memory from base on, of 32 numbers f 0 .. f 31. -/
def rowF (f : Nat → Nat) : List Value := (List.range 32).map fun i => .int .i64 (f i : Int)
def Own32 (w : World) (base g : Nat) (f : Nat → Nat) : Prop := w.ownsRow base 3 1 (.slice (some ⟨g, 0, none⟩) 32 32) 32 (rowF f)

theorem rowF_congr {f f' : Nat → Nat} (h : ∀ i, i < 32 → f i = f' i) : rowF f = rowF f' := by
  unfold rowF
  exact List.map_congr_left fun i hi => by rw [h i (by simpa using hi)]
theorem Own32.congr {w : World} {base g : Nat} {f f' : Nat → Nat} (h : Own32 w base g f) (hf : ∀ i, i < 32 → f i = f' i) : Own32 w base g f' := by
  unfold Own32; rw [← rowF_congr hf]; exact h
theorem rowF_at (f : Nat → Nat) (j : Nat) (h : j < 32) : (rowF f)[j]? = some (.int .i64 (f j : Int)) := by simp [rowF, h]
theorem rowF_set (f : Nat → Nat) (j x : Nat) (h : j < 32) : (rowF f).set j (.int .i64 (x : Int)) = rowF (fun i => if i = j then x else f i) := by
  apply List.ext_getElem?
  intro i
  by_cases hi : i < 32
  · rw [List.getElem?_set, rowF_at _ i hi]
    by_cases hij : j = i
    · subst hij; simp [rowF, h]
    · rw [if_neg hij, rowF_at _ i hi, if_neg (fun e => hij e.symm)]
  · rw [List.getElem?_eq_none (by simp [rowF]; omega), List.getElem?_eq_none (by simp [rowF]; omega)]
theorem Own32.cell {w : World} {base g : Nat} {f : Nat → Nat} (h : Own32 w base g f) (j : Nat) (hj : j < 32) : w.cell? ⟨g, j, none⟩ = some (.int .i64 (f j : Int)) := by
  have := World.ownsRow.cellAt h j (by omega)
  rw [this, rowF_at f j hj]
theorem Own32.frozen {w : World} {base g : Nat} {f : Nat → Nat} (h : Own32 w base g f) (j : Nat) : w.frozen? ⟨g, j, none⟩ = false := World.ownsRow.frozenAt h j
theorem Own32.lt {w : World} {base g : Nat} {f : Nat → Nat} (h : Own32 w base g f) : base ≤ g ∧ g < w.heap.size := World.ownsRow.lt h g rfl
theorem Own32.set {w : World} {base g : Nat} {f : Nat → Nat} (h : Own32 w base g f) (j x : Nat) (hj : j < 32) (z : Int) (hz : z = (x : Int)) :
    Own32 (w.setCell ⟨g, j, none⟩ (.int .i64 z)) base g (fun i => if i = j then x else f i) := by
  subst hz
  have := (World.ownsRow.stored h j (.int .i64 (x : Int))).1
  rw [rowF_set f j x hj] at this
  exact this
theorem Own32.on {w w' : World} {base g : Nat} {f : Nat → Nat} (h : Own32 w base g f) (hb : Below w.heap.size w w') : Own32 w' base g f :=
  World.ownsRow.kept h (row := none) ⟨hb.os, hb.tape, hb.output, hb.size, fun i hi _ => hb.block i hi⟩ (.inr (by simp [Value.ownBlock]))
theorem Own32.other {w : World} {base g g' : Nat} {f : Nat → Nat} (h : Own32 w base g f) (hne : g' ≠ g) (o : Nat) (v : Value) : Own32 (w.setCell ⟨g', o, none⟩ v) base g f :=
  World.ownsRow.kept h (row := some g') ⟨rfl, rfl, rfl, by simp [World.setCell], fun k _ hk => Below.heap_setCell _ _ _ _ (fun e => hk (by simp [e]))⟩ (.inr (by simp [Value.ownBlock]; exact fun e => hne e.symm))
theorem Own32.drew {w : World} {base g : Nat} {f : Nat → Nat} (h : Own32 w base g f) : Own32 w.drew base g f := h
theorem Own32.drewN {w : World} {base g : Nat} {f : Nat → Nat} (h : Own32 w base g f) (n : Nat) : Own32 (w.drewN n) base g f := h

theorem mk32 (W : World) : (Instr.makeSlice 41 (.int .i64 32) (.int .i64 32)).run Try.prog W = .ok (.slice (some ⟨W.heap.size, 0, none⟩) 32 32)
    (W.alloc (.cells (Array.replicate 32 (.int .i64 0)) 3)) := by kernel_rfl
theorem own32_new (W : World) : Own32 (W.alloc (.cells (Array.replicate 32 (.int .i64 0)) 3)) W.heap.size W.heap.size (fun _ => 0) :=
  ⟨by simp [rowF], .inr ⟨W.heap.size, 32, _, rfl, Nat.le_refl _, heap_alloc_new W _, Nat.le_refl _, by simp only [maxLen]; omega, by simp, by simp [rowF]; rfl⟩⟩

set_option maxHeartbeats 400000 in
theorem ref_bits (n : Nat) (w : World) (hn : n < 4294967296) :
    Calls Try.prog 22 #[.int .i64 n] w fun e w' => ∃ g, e = .returned (.slice (some ⟨g, 0, none⟩) 32 32) ∧ Own32 w' w.heap.size g (bit n) ∧ Below w.heap.size w w' := by
  have hmk := mk32
  have hnew := Lib.hid (own32_new w)
  have hHN := Lib.hid (show ∀ k, n / 2 ^ k % 2 = bit n k from fun k => (bit_eq n k).symm)
  go_enter Try.func22, Try.ntmps22
  go_wp2
  go_loopw [0, 4] (fun m i wr => ∃ k N : Nat, i = .int .i64 k ∧ k ≤ 32 ∧ m = .int .i64 N ∧ N = n / 2 ^ k ∧ N < 4294967296 ∧ Own32 wr w.heap.size w.heap.size (fun i => if i < k then bit n i else 0) ∧ Below w.heap.size w wr) (fun _ i _ => 32 - (intOf i).toNat)
  case atStart => exact ⟨0, n, rfl, by omega, rfl, by simp, hn, hnew.out.congr (fun i _ => by simp), alloc_below w _⟩
  case round =>
    obtain ⟨k, N, rfl, hk, rfl, hN, hNb, ho, hb⟩ := hrel
    have HO := Lib.hid ho
    have HB := Lib.hid hb
    have HN := Lib.hid hN
    clear ho hb hN
    by_cases hlt : k < 32
    · have ck := HO.out.cell k hlt
      have fk := HO.out.frozen k
      generalize (if k < k then bit n k else 0) = y at ck
      have hst := Lib.hid (HO.out.set k (N % 2) hlt ((N : Int) % 2) (by omega))
      have hbn := Lib.hid (show N % 2 = bit n k from by rw [HN.out]; exact hHN.out k)
      have hnn := Lib.hid (show N / 2 = n / 2 ^ (k + 1) from by rw [HN.out, Nat.pow_succ, Nat.div_div_eq_div_mul])
      go_wp2
      go_roundw
      case rel => exact ⟨k + 1, N / 2, by go_num, by omega, by go_num, hnn.out, by omega, hst.out.congr (fun i _ => by
        by_cases h1 : i = k
        · subst h1; simp [hbn.out]
        · by_cases h2 : i < k
          · simp [h1, h2, Nat.lt_succ_of_lt h2]
          · simp [h1, h2, show ¬ i < k + 1 from by omega]), HB.out.setCell (Nat.le_refl _) _⟩
      case measure => simp [intOf]; omega
    · have hk2 : k = 32 := by omega
      subst hk2
      go_wp2
      go_ret
      exact ⟨w.heap.size, rfl, HO.out.congr (fun i hi => by simp [hi]), HB.out⟩
end Go.Proofs.Ytdpjohehmbddnaa
