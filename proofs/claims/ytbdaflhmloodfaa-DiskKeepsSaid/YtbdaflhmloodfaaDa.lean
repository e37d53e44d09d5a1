/- Layer 7, the document's disk: names, the place of a file, how many bytes, may a deed be done. -/
import Derived.Test.YtbdaflhmloodfaaBkeep
import Derived.BigQuiet
namespace Go.Proofs.Ytbdaflhmloodfaa
open Go.RowKit
set_option linter.unusedVariables false

structure Fl where
  name : ByteArray
  b : ByteArray
  safe : Int
structure Dk where
  f : List Fl
  max : Int
  left : Int
  down : Bool
def flL : Lay Fl := ⟨3, fun f => [.string f.name, .string f.b, .int .i64 f.safe], fun _ => rfl, fun x u hu => by simp at hu; rcases hu with rfl | rfl | rfl <;> rfl, by decide⟩
theorem fl_info : (Try.prog.info? 66).map (fun i => (i.zero, i.size, i.bytes)) = some (some (.agg #[.string ⟨#[]⟩, .string ⟨#[]⟩, .int .i64 0]), 3, 40) := by kernel_rfl
abbrev OwnFl (w : World) (base : Nat) (v : Value) (l : List Fl) : Prop := OwnX flL 66 w base v l
/-- What the document's disk is made of. -/
def docO : Obj → Bool
  | .cells _ t _ => t == 57 || t == 66
  | _ => false
theorem docO_disk (cs : Array Value) : docO (.cells cs 57 (0, 0)) = true := by simp [docO]
theorem docO_file (cs : Array Value) : docO (.cells cs 66 (0, 0)) = true := by simp [docO]
/-- p is the document's disk d, in block g, all of it in memory from B on. -/
structure RdD (w : World) (B g : Nat) (p : Value) (d : Dk) : Prop where
  ptr : p = .pointer (some ⟨g, 0, none⟩)
  from' : B ≤ g
  has : ∃ fv, Box w g #[fv, .int .i64 d.max, .int .i64 d.left, .bool d.down] 57 ∧ OwnFl w B fv d.f
theorem RdD.on {w w' : World} {B g : Nat} {p : Value} {d : Dk} (h : RdD w B g p d) (hb : Below w.heap.size w w') : RdD w' B g p d := by
  obtain ⟨h1, h2, fv, h3, h4⟩ := h
  exact ⟨h1, h2, fv, h3.later hb, h4.on hb⟩
theorem RdD.drew {w : World} {B g : Nat} {p : Value} {d : Dk} (h : RdD w B g p d) : RdD w.drew B g p d := h.on (Below.refl _ w).drew
def usedF : List Fl → Int
  | [] => 0
  | f :: l => f.b.size + usedF l
theorem usedF_append (l m : List Fl) : usedF (l ++ m) = usedF l + usedF m := by
  induction l with
  | nil => simp [usedF]
  | cons f l ih => simp only [List.cons_append, usedF, ih]; omega
theorem usedF_nn (l : List Fl) : 0 ≤ usedF l := by
  induction l with
  | nil => simp [usedF]
  | cons f l ih => simp only [usedF]; omega
theorem usedF_take (l : List Fl) (k : Nat) (h : k < l.length) : usedF (l.take (k + 1)) = usedF (l.take k) + l[k].b.size := by
  rw [List.take_succ_eq_append_getElem h, usedF_append]; simp [usedF]
theorem usedF_take_le (l : List Fl) (k : Nat) : usedF (l.take k) ≤ usedF l := by
  have h := usedF_append (l.take k) (l.drop k)
  rw [List.take_append_drop] at h
  have := usedF_nn (l.drop k)
  omega
/-- A disk as it may come to be. -/
structure OkD (d : Dk) : Prop where
  len : d.f.length ≤ 400
  used : usedF d.f ≤ 16777216
  max : 0 ≤ d.max ∧ d.max ≤ 16777216
  left : -1 ≤ d.left ∧ d.left ≤ 9223372036854775807
  safe : ∀ f ∈ d.f, 0 ≤ f.safe ∧ f.safe ≤ f.b.size

theorem toList_dataD (s : ByteArray) : s.toList = s.data.toList := ByteArray.toList_eq s
def atF (l : List Fl) (n : ByteArray) : Int := match l.findIdx? (fun f => decide (f.name = n)) with | some k => (k : Int) | none => -1

/-- Bytes of a name. -/
def nameC (c : UInt8) : Bool := (decide (97 ≤ c.toNat) && decide (c.toNat ≤ 122)) || (decide (48 ≤ c.toNat) && decide (c.toNat ≤ 57)) || decide (c.toNat = 46) || decide (c.toNat = 45)
def nameB (l : List UInt8) : Bool := l.all nameC && decide (1 ≤ l.length) && decide (l.length ≤ 20)
theorem take_snocD (s : ByteArray) (k : Nat) (h : k < s.size) : s.data.toList.take (k + 1) = s.data.toList.take k ++ [s[k]] := by
  rw [List.take_succ_eq_append_getElem (by simpa using h)]
  rfl

set_option maxHeartbeats 2000000 in
theorem ref_named (s : ByteArray) (w : World) (hs : s.size ≤ 9223372036854775807) :
    Calls Try.prog 23 #[.string s] w fun e w' => e = .returned (.bool (nameB s.data.toList)) ∧ w = w' := by
  have hsl : s.data.toList.length = s.size := by simp
  go_enter Try.func23, Try.ntmps23
  go_wp2_with fail
  go_loopw [3] (fun i wr => ∃ k : Nat, i = .int .i64 k ∧ k ≤ s.size ∧ (s.data.toList.take k).all nameC = true ∧ wr = w) (fun i _ => s.size - (intOf i).toNat)
  case atStart => exact ⟨0, rfl, Nat.zero_le _, by simp, rfl⟩
  case round =>
    obtain ⟨k, rfl, hk, hall, rfl⟩ := hrel
    have HALL := Lib.hid hall
    clear hall
    by_cases hlt : k < s.size
    · have hts := Lib.hid (take_snocD s k hlt)
      have HB := Lib.hid (show nameC s[k] = false → nameB s.data.toList = false from fun h => by
        unfold nameB
        have h2 : s.data.toList.all nameC = false := by
          rw [Bool.eq_false_iff]
          intro h3
          have h4 : s[k] ∈ s.data.toList := by
            have : s[k] ∈ s.data.toList.take (k + 1) := by rw [hts.out]; simp
            exact List.mem_of_mem_take this
          rw [List.all_eq_true.1 h3 _ h4] at h
          cases h
        rw [h2]; rfl)
      have HG := Lib.hid (show nameC s[k] = true → (s.data.toList.take (k + 1)).all nameC = true from fun h => by
        rw [hts.out, List.all_append, HALL.out]; simp [h])
      have hx := s[k].toNat_lt
      generalize hc : s[k] = c at *
      clear hts
      go_wp2_with fail
      all_goals
        first
        | (go_ret; exact ⟨ret_bool (HB.out (by unfold nameC; simp_all <;> omega)).symm, rfl⟩)
        | (go_roundw
           case rel => exact ⟨k + 1, by go_num, by omega, HG.out (by unfold nameC; simp_all <;> omega), by trivial⟩
           case measure => simp [intOf]; omega)
    · have hk2 : k = s.size := by omega
      subst hk2
      have hall : s.data.toList.all nameC = true := by
        have := HALL.out
        rw [List.take_of_length_le (by omega)] at this
        exact this
      have HR := Lib.hid (show nameB s.data.toList = (decide (1 ≤ s.size) && decide (s.size ≤ 20)) from by unfold nameB; rw [hall, hsl]; simp)
      clear hall HALL
      have hfin : ∀ q : Bool, q = (decide (1 ≤ s.size) && decide (s.size ≤ 20)) → q = nameB s.data.toList := fun q h => by rw [HR.out, h]
      have HF := Lib.hid hfin
      clear hfin
      by_cases h1 : 1 ≤ s.size
      · by_cases h2 : s.size ≤ 20
        · have z2 : decide ((s.size : Int) ≤ 20) = true := by simp; omega
          go_wp2_with fail
          go_ret
          exact ⟨ret_bool (HF.out true (by simp [h1, h2])), rfl⟩
        · have z2 : decide ((s.size : Int) ≤ 20) = false := by rw [decide_eq_false_iff_not]; omega
          go_wp2_with fail
          go_ret
          exact ⟨ret_bool (HF.out false (by simp [h2])), rfl⟩
      · have z1 : decide ((1 : Int) ≤ (s.size : Int)) = false := by rw [decide_eq_false_iff_not]; omega
        go_wp2_with fail
        go_ret
        exact ⟨ret_bool (HF.out false (by simp [h1])), rfl⟩

def mayD (d : Dk) (e : Int) : Dk × Int := if d.down = true then (d, 7) else if e ≠ 0 then (d, e) else if d.left = 0 then ({ d with down := true, left := -1 }, 7) else if 0 < d.left then ({ d with left := d.left - 1 }, 0) else (d, 0)

set_option maxHeartbeats 2000000 in
theorem ref_at (w : World) (B g : Nat) (p : Value) (d : Dk) (n : ByteArray) (h : RdD w B g p d) (hl : d.f.length ≤ 1000000) :
    Calls Try.prog 50 #[p, .string n] w fun e w' => e = .returned (.int .i64 (atF d.f n)) ∧ w = w' := by
  obtain ⟨rfl, hf, fv, hb, ho⟩ := h
  have HO := Lib.hid ho
  have HB := Lib.hid hb
  generalize d.f = l at *
  have c0 := hb.cell 0 fv rfl
  obtain ⟨A, c, rfl, -⟩ := ho.rd
  clear ho hb
  go_enter Try.func50, Try.ntmps50
  go_wp2_with fail
  go_loopw [5] (fun i wr => ∃ k : Nat, i = .int .i64 k ∧ k ≤ l.length ∧ (∀ f ∈ l.take k, f.name ≠ n) ∧ wr = w) (fun i _ => l.length - (intOf i).toNat)
  case atStart => exact ⟨0, rfl, Nat.zero_le _, by simp, rfl⟩
  case round =>
    obtain ⟨k, rfl, hk, hn, hbw⟩ := hrel
    subst hbw
    have HN := Lib.hid hn
    have G := Lib.hid (Below.refl wr.heap.size wr)
    have hgl := HB.out.lt
    have c0 := (HB.out.later G.out).cell 0 _ rfl
    clear hn
    by_cases hlt : k < l.length
    · obtain ⟨b, o, rfl, hbb, hcl⟩ := (HO.out.on G.out).rd.at k hlt
      have c1 : wr.cell? ⟨b, o + k * 3, none⟩ = some (.string l[k].name) := hcl 0 _ rfl
      have zl : decide ((k : Int) < (l.length : Int)) = true := by simp; omega
      by_cases he : l[k].name = n
      · have HR := Lib.hid (show atF l n = k from by
          unfold atF
          have : l.findIdx? (fun f => decide (f.name = n)) = some k := by
            rw [List.findIdx?_eq_some_iff_getElem]
            refine ⟨hlt, by simpa using he, fun j hj => ?_⟩
            have := HN.out l[j] (by rw [List.mem_take_iff_getElem]; exact ⟨j, by omega, rfl⟩)
            simpa using this
          rw [this])
        rw [he] at c1
        clear hcl he
        go_wp2_with fail
        go_ret
        exact ⟨ret_int HR.out.symm, by trivial⟩
      · have hne : (l[k].name.toList == n.toList) = false := by
          rw [beq_eq_false_iff_ne]
          intro e2
          apply he
          rw [ByteArray.toList_eq, ByteArray.toList_eq] at e2
          generalize l[k].name = x at *
          obtain ⟨⟨x⟩⟩ := x
          obtain ⟨⟨y⟩⟩ := n
          simp at e2
          rw [e2]
        have HS := Lib.hid (show ∀ f ∈ l.take (k + 1), f.name ≠ n from by
          intro f hf
          rw [List.take_succ_eq_append_getElem hlt] at hf
          rcases List.mem_append.1 hf with h | h
          · exact HN.out f h
          · simp at h; subst h; exact he)
        clear hcl he
        generalize l[k] = x at *
        go_wp2_with fail
        go_roundw
        case rel => exact ⟨k + 1, by go_num, by omega, HS.out, by trivial⟩
        case measure => simp [intOf]; omega
    · have HR := Lib.hid (show atF l n = -1 from by
        unfold atF
        have : l.findIdx? (fun f => decide (f.name = n)) = none := by
          rw [List.findIdx?_eq_none_iff]
          intro f hf
          have := HN.out f (by rw [List.take_of_length_le (by omega)]; exact hf)
          simpa using this
        rw [this])
      have zl : decide ((k : Int) < (l.length : Int)) = false := by rw [decide_eq_false_iff_not]; omega
      go_wp2_with fail
      go_ret
      exact ⟨ret_int HR.out.symm, by trivial⟩

set_option maxHeartbeats 2000000 in
theorem ref_used (w : World) (B g : Nat) (p : Value) (d : Dk) (h : RdD w B g p d) (hl : d.f.length ≤ 1000000) (hu : usedF d.f ≤ 1000000000) :
    Calls Try.prog 36 #[p] w fun e w' => e = .returned (.int .i64 (usedF d.f)) ∧ w = w' := by
  obtain ⟨rfl, hf, fv, hb, ho⟩ := h
  have HO := Lib.hid ho
  have HB := Lib.hid hb
  generalize d.f = l at *
  have c0 := hb.cell 0 fv rfl
  obtain ⟨A, c, rfl, -⟩ := ho.rd
  clear ho hb
  go_enter Try.func36, Try.ntmps36
  go_wp2_with fail
  go_loopw [3, 4] (fun n i wr => ∃ k : Nat, i = .int .i64 k ∧ k ≤ l.length ∧ n = .int .i64 (usedF (l.take k)) ∧ wr = w) (fun _ i _ => l.length - (intOf i).toNat)
  case atStart => exact ⟨0, rfl, Nat.zero_le _, rfl, rfl⟩
  case round =>
    obtain ⟨k, rfl, hk, rfl, hbw⟩ := hrel
    subst hbw
    have G := Lib.hid (Below.refl wr.heap.size wr)
    have c0 := (HB.out.later G.out).cell 0 _ rfl
    by_cases hlt : k < l.length
    · obtain ⟨b, o, rfl, hbb, hcl⟩ := (HO.out.on G.out).rd.at k hlt
      have c1 : wr.cell? ⟨b, o + k * 3 + 1, none⟩ = some (.string l[k].b) := hcl 1 _ rfl
      have zl : decide ((k : Int) < (l.length : Int)) = true := by simp; omega
      have hs := usedF_take l k hlt
      have hle := usedF_take_le l (k + 1)
      have hnn := usedF_nn (l.take k)
      have hw : IntKind.i64.wrap (usedF (l.take k) + (l[k].b.size : Int)) = usedF (l.take k) + (l[k].b.size : Int) := by rw [IntKind.wrap_i64]; omega
      have HS := Lib.hid hs
      clear hcl hs hle hnn hu
      generalize usedF (l.take k) = u at *
      generalize l[k] = x at *
      go_wp2_with fail
      go_roundw
      case rel => exact ⟨k + 1, by go_num, by omega, by rw [HS.out], by trivial⟩
      case measure => simp [intOf]; omega
    · have hke := Lib.hid (show l.take k = l from List.take_of_length_le (by omega))
      have zl : decide ((k : Int) < (l.length : Int)) = false := by rw [decide_eq_false_iff_not]; omega
      rw [hke.out]
      clear hke
      go_wp2_with fail
      go_ret
      exact ⟨rfl, by trivial⟩

set_option maxHeartbeats 2000000 in
theorem ref_mayD (w : World) (B g : Nat) (p : Value) (d : Dk) (e : Int) (h : RdD w B g p d) (hd : OkD d) :
    Calls Try.prog 51 #[p, .int .i64 e] w fun x w' => x = .returned (.int .i64 (mayD d e).2) ∧ RdD w' B g p (mayD d e).1 ∧ Keeps B docO w w' := by
  have hleft := hd.left
  obtain ⟨rfl, hf, fv, hb, ho⟩ := h
  have HO := Lib.hid ho
  have HB := Lib.hid hb
  have HNE := Lib.hid (ho.notBox hb (by decide))
  obtain ⟨fl, mx, lf, dn⟩ := d
  simp only at *
  have hres := Lib.hid (show mayD ⟨fl, mx, lf, dn⟩ e = if dn = true then (⟨fl, mx, lf, dn⟩, 7) else if e ≠ 0 then (⟨fl, mx, lf, dn⟩, e) else if lf = 0 then (⟨fl, mx, -1, true⟩, 7) else if 0 < lf then (⟨fl, mx, lf - 1, dn⟩, 0) else (⟨fl, mx, lf, dn⟩, 0) from rfl)
  generalize mayD ⟨fl, mx, lf, dn⟩ e = r at *
  have c2 := hb.cell 2 (.int .i64 lf) rfl
  have c3 := hb.cell 3 (.bool dn) rfl
  have f2 := hb.frozen 2
  have f3 := hb.frozen 3
  have hgl := hb.lt
  clear ho hb hd
  cases dn
  · by_cases he : e = 0
    · subst he
      by_cases h0 : lf = 0
      · subst h0
        have hr := Lib.hid (show r = (⟨fl, mx, -1, true⟩, 7) from by rw [hres.out]; simp)
        go_enter Try.func51, Try.ntmps51
        go_wp2_with fail
        go_ret
        rw [hr.out]
        refine ⟨rfl, ⟨rfl, hf, fv, (HB.out.set 3 (.bool true)).set 2 (.int .i64 (-1)), ?_⟩, (((Keeps.refl B docO w).set HB.out hf docO_disk 3 (.bool true)).set (HB.out.set 3 (.bool true)) hf docO_disk 2 (.int .i64 (-1)))⟩
        exact HO.out.apart (n := g) (fun i hi _ => (Below.heap_setCell _ ⟨g, 2, none⟩ _ i hi).trans (Below.heap_setCell _ ⟨g, 3, none⟩ _ i hi)) HNE.out
      · by_cases h1 : 0 < lf
        · have hr := Lib.hid (show r = (⟨fl, mx, lf - 1, false⟩, 0) from by rw [hres.out]; simp [h0, h1])
          have hne : (lf == 0) = false := by simpa using h0
          have hw : IntKind.i64.wrap (lf - 1) = lf - 1 := by rw [IntKind.wrap_i64]; omega
          go_enter Try.func51, Try.ntmps51
          go_wp2_with fail
          go_ret
          rw [hr.out]
          refine ⟨rfl, ⟨rfl, hf, fv, HB.out.set 2 (.int .i64 (lf - 1)), ?_⟩, (Keeps.refl B docO w).set HB.out hf docO_disk 2 (.int .i64 (lf - 1))⟩
          exact HO.out.apart (n := g) (fun i hi _ => Below.heap_setCell _ ⟨g, 2, none⟩ _ i hi) HNE.out
        · have hr := Lib.hid (show r = (⟨fl, mx, lf, false⟩, 0) from by rw [hres.out]; simp [h0, h1])
          have hne : (lf == 0) = false := by simpa using h0
          go_enter Try.func51, Try.ntmps51
          go_wp2_with fail
          go_ret
          rw [hr.out]
          exact ⟨rfl, ⟨rfl, hf, fv, HB.out, HO.out⟩, Keeps.refl _ _ _⟩
    · have hr := Lib.hid (show r = (⟨fl, mx, lf, false⟩, e) from by rw [hres.out]; simp [he])
      have hne : (e != 0) = true := by simpa [bne] using he
      go_enter Try.func51, Try.ntmps51
      go_wp2_with fail
      go_ret
      rw [hr.out]
      exact ⟨rfl, ⟨rfl, hf, fv, HB.out, HO.out⟩, Keeps.refl _ _ _⟩
  · have hr := Lib.hid (show r = (⟨fl, mx, lf, true⟩, 7) from by rw [hres.out]; simp)
    go_enter Try.func51, Try.ntmps51
    go_wp2_with fail
    go_ret
    rw [hr.out]
    exact ⟨rfl, ⟨rfl, hf, fv, HB.out, HO.out⟩, Keeps.refl _ _ _⟩
end Go.Proofs.Ytbdaflhmloodfaa
