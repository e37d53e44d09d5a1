/- Layer 7, the project's disk: its names, rising. -/
import Derived.Test.YtbdaflhmloodfaaDn
import Derived.Test.YtbdaflhmloodfaaHd
import Derived.Shelf.SlIter.Nil
namespace Go.Proofs.Ytbdaflhmloodfaa
open Go.RowKit
set_option linter.unusedVariables false

def smL : Lay ByteArray := ⟨1, fun s => [.string s], fun _ => rfl, fun x u hu => by simp at hu; subst hu; rfl, by decide⟩
theorem smL_all (l : List ByteArray) : smL.all l = l.map Value.string := by
  induction l with
  | nil => rfl
  | cons x l ih => rw [Lay.all_cons, ih]; rfl
def nmsF (l : List Fl) : List ByteArray := l.map (·.name)
theorem enc_names (l : List Fl) : (l.map nmL).map encStr = smL.all (nmsF l) := by
  rw [smL_all]
  unfold nmsF
  rw [List.map_map, List.map_map]
  refine List.map_congr_left fun f _ => ?_
  show encStr (nmL f) = .string f.name
  unfold encStr nmL
  congr 1
section
variable {S : Nat → Prop} {w w' : World} {l : List Fl} {m : Nat} {gb : ByteArray → Nat} {vv : ByteArray → Value} {g : Nat} {d : Dk} {p : Value}
theorem keys_perm7 {n : Nat} {D : DataW Unit} (hown : OwnM w m n D) (h : MapIs D l gb) (hs : SortD l) : (l.map nmL).Perm (strKeys D) := by
  obtain ⟨es, hD, hpw, _⟩ := World.ownsMap.entries hown keyed7
  obtain ⟨es', hD', hko⟩ := World.ownsMap.keysOf hown
  obtain rfl : es = es' := by rw [hD] at hD'; simpa using hD'
  subst hD
  refine perm_strKeys hpw (fun p hp => by obtain ⟨v, hv⟩ := hko p hp; obtain ⟨x, _, hx, _⟩ := Maps.keyOf_str Try.underlying9 hv; exact ⟨x, hx⟩) ?_ (fun x => ?_)
  · exact (List.pairwise_map.2 hs : (l.map nmL).Pairwise (· < ·)).imp (fun h e => by rw [e] at h; exact List.lt_irrefl _ h)
  · rw [h.has, List.mem_map]
    constructor
    · rintro ⟨f, hf, rfl⟩; exact ⟨f, hf, rfl⟩
    · rintro ⟨f, hf, e⟩
      refine ⟨f, hf, ?_⟩
      unfold keyN at e
      injection e with e
      exact e.symm

set_option maxHeartbeats 4000000 in
set_option maxRecDepth 100000 in
theorem p_names (h : RdM w S g p d) (hl : d.f.length ≤ 1000000) :
    Calls Try.prog 49 #[p] w fun e w' => ∃ v, e = .returned v ∧ OwnX smL 9 w' w.heap.size v (nmsF d.f) ∧ Below w.heap.size w w' := by
  obtain ⟨rfl, m, gb, vv, hs, ⟨A, hb, hA⟩, hf⟩ := h
  obtain ⟨D, hown, his⟩ := hf.map
  have hpm := Lib.hid (fun (ss : List (List UInt8)) (h : ss.Perm (strKeys D)) => sorted_perm_names hf.sorted (h.trans (keys_perm7 hown his hf.sorted).symm))
  have hsz := his.size
  have hmax : Maps.size D ≤ maxLen := by rw [hsz]; simp only [maxLen]; omega
  have hbytes : Maps.size D * 16 ≤ 140737488355328 := by rw [hsz]; omega
  have HMAX := Lib.hid hmax
  have HBY := Lib.hid hbytes
  have c0 := hb.cell 0 _ rfl
  clear hb hs hf his hA hmax hbytes hsz
  refine (callsIn_wide (n := 6)).1 ?_
  have hfK : Fence.wide.fn 59 := trivial
  have hfS : Fence.wide.fn 58 := trivial
  refine callsIn_of_wp Try.func49 rfl trivial ?_ rfl
  simp only [Try.ntmps49, List.size_toArray, List.length_cons, List.length_nil, Nat.reduceAdd, Nat.reduceSub, Array.replicate_succ, Array.replicate_zero, List.push_toArray, List.append_toArray, List.nil_append, List.cons_append]
  gi_wp2_with (first
    | (gi_at_call 59; refine (maps_KeysL _ _).mono ?_; rintro e w' ⟨rfl, rfl⟩)
    | (gi_at_call 58; refine (sorted_keysL m d.f.length D ptrE w hown HMAX.out HBY.out).mono ?_; rintro e w' ⟨v, ss, rfl, hS, hrow, hnil, hb⟩))
  go_ret
  refine ⟨v, rfl, ?_, ((Below.refl _ w).alloc (Nat.le_refl _) _).trans (hb.mono (by simp))⟩
  have h1 := Go.Proofs.ownsRow_base_a hrow (base' := w.heap.size) (by simp)
  rw [hpm.out ss hS] at h1
  have h2 : ss.length = (nmsF d.f).length := by
    have := congrArg List.length (hpm.out ss hS)
    rw [List.length_mergeSort] at this
    unfold nmsF
    simpa using this
  unfold OwnX
  rw [← enc_names, ← h2]
  exact h1

set_option maxHeartbeats 4000000 in
theorem p_list (h : RdM w S g p d) (hl : d.f.length ≤ 1000000) :
    Calls Try.prog 24 #[p] w fun e w' => ∃ v, e = .returned v ∧ OwnX smL 9 w' w.heap.size v (if d.down = true then [] else nmsF d.f) ∧ Below w.heap.size w w' := by
  have HC := Lib.hid (p_names h hl)
  obtain ⟨rfl, m, gb, vv, hs, ⟨A, hb, hA⟩, hf⟩ := h
  cases hdn : d.down
  · have hr := Lib.hid (show (if false = true then ([] : List ByteArray) else nmsF d.f) = nmsF d.f from by simp)
    have c3 : w.cell? ⟨g, 3, none⟩ = some (.bool false) := by rw [← hdn]; exact hb.cell 3 _ rfl
    clear hb hs hf hA hdn hl
    go_enter Try.func24, Try.ntmps24
    go_wp2_with (go_at_call 49; refine (HC.out).mono ?_; rintro e w' ⟨v, rfl, ho, hb⟩; have O := Lib.hid ho; have G := Lib.hid hb; clear ho hb)
    go_ret
    exact ⟨v, rfl, by first | exact O.out | (rw [hr.out]; exact O.out) | simpa using O.out, G.out⟩
  · have c3 : w.cell? ⟨g, 3, none⟩ = some (.bool true) := by rw [← hdn]; exact hb.cell 3 _ rfl
    clear hb hs hf hA hdn hl HC
    go_enter Try.func24, Try.ntmps24
    go_wp2_with fail
    go_ret
    exact ⟨_, rfl, OwnX.nil _ _, Below.refl _ _⟩
end
end Go.Proofs.Ytbdaflhmloodfaa
