/- Layer 6: lists of versions: are they the same, their bytes, by the document. -/
import Derived.Test.YtmchiebpijnpiaaRd
import Derived.Test.YtmchiebpijnpiaaBgen
import Derived.Test.YtmchiebpijnpiaaBcopy
import Derived.Laws.StructEq
namespace Go.Proofs.Ytmchiebpijnpiaa
open Go.RowKit
set_option linter.unusedVariables false

def verL : Lay Ver := ⟨8, fun v => [.string v.key, .int .i64 v.b, .int .i64 v.e, .int .i64 v.s, .int .i64 v.sp.1, .int .i64 v.sp.2, .string v.val, .bool v.gone], fun _ => rfl, fun x u hu => by simp at hu; rcases hu with rfl | rfl | rfl | rfl | rfl | rfl | rfl | rfl <;> rfl, by decide⟩
theorem ver_info : (Try.prog.info? 27).map (fun i => (i.zero, i.size, i.bytes)) = some (some (.agg #[.string ⟨#[]⟩, .int .i64 0, .int .i64 0, .int .i64 0, .int .i64 0, .int .i64 0, .string ⟨#[]⟩, .bool false]), 8, 80) := by kernel_rfl
abbrev RdVr (w : World) (B : Nat) (v : Value) (l : List Ver) : Prop := RdX verL w B v l
abbrev OwnVr (w : World) (base : Nat) (v : Value) (l : List Ver) : Prop := OwnX verL 27 w base v l
theorem RdVr.here {w : World} {B : Nat} {A : Option Addr} {n c : Nat} {l : List Ver} (h : RdVr w B (.slice A n c) l) (k : Nat) (hk : k < l.length) : ∃ b o, A = some ⟨b, o, none⟩ ∧ b < B ∧
    w.cell? ⟨b, o + k * 8, none⟩ = some (.string l[k].key) ∧ w.cell? ⟨b, o + k * 8 + 1, none⟩ = some (.int .i64 l[k].b) ∧ w.cell? ⟨b, o + k * 8 + 2, none⟩ = some (.int .i64 l[k].e) ∧ w.cell? ⟨b, o + k * 8 + 3, none⟩ = some (.int .i64 l[k].s) ∧
    w.cell? ⟨b, o + k * 8 + 4, none⟩ = some (.int .i64 l[k].sp.1) ∧ w.cell? ⟨b, o + k * 8 + 5, none⟩ = some (.int .i64 l[k].sp.2) ∧ w.cell? ⟨b, o + k * 8 + 6, none⟩ = some (.string l[k].val) ∧ w.cell? ⟨b, o + k * 8 + 7, none⟩ = some (.bool l[k].gone) := by
  obtain ⟨b, o, rfl, hb, hc⟩ := h.at k hk
  exact ⟨b, o, rfl, hb, hc 0 _ rfl, hc 1 _ rfl, hc 2 _ rfl, hc 3 _ rfl, hc 4 _ rfl, hc 5 _ rfl, hc 6 _ rfl, hc 7 _ rfl⟩
theorem bytes_list6 (a b : ByteArray) : (a.toList = b.toList) ↔ a = b := by
  constructor
  · intro e
    rw [ByteArray.toList_eq, ByteArray.toList_eq] at e
    obtain ⟨⟨x⟩⟩ := a
    obtain ⟨⟨y⟩⟩ := b
    simp at e
    subst e
    rfl
  · intro e; rw [e]
theorem ver_neq_same (W : World) (a : Ver) : (binOp .neq 27 (verV a) (verV a)).run Try.prog W = .ok (.bool false) W := by
  unfold verV
  go_simp
theorem ver_neq_diff (W : World) (a b : Ver) (h : a ≠ b) : (binOp .neq 27 (verV a) (verV b)).run Try.prog W = .ok (.bool true) W := by
  obtain ⟨k1, b1, e1, s1, ⟨x1, y1⟩, u1, g1⟩ := a
  obtain ⟨k2, b2, e2, s2, ⟨x2, y2⟩, u2, g2⟩ := b
  unfold verV
  have h1 := bytes_list6 k1 k2
  have h2 := bytes_list6 u1 u2
  go_simp
  intro a1 a2 a3 a4 a5 a6 a7 a8
  subst a1 a2 a3 a4 a5 a6 a7 a8
  exact h rfl

set_option maxHeartbeats 4000000 in
theorem ref6_same (va vb : Value) (l m : List Ver) (w : World) (ha : RdVr w w.heap.size va l) (hb : RdVr w w.heap.size vb m) :
    Calls Try.prog 21 #[va, vb] w fun e w' => ∃ r : Bool, e = .returned (.bool r) ∧ (r = true ↔ l = m) ∧ Below w.heap.size w w' := by
  have HA := Lib.hid ha
  have HB := Lib.hid hb
  obtain ⟨A, ca, rfl, hla, hca, -⟩ := ha
  obtain ⟨B, cb, rfl, hlb, hcb, -⟩ := hb
  by_cases hlen : l.length = m.length
  · have z0 : ((l.length : Int) != (m.length : Int)) = false := by simp [bne, hlen]
    have HL := Lib.hid hlen
    go_enter Try.func21, Try.ntmps21
    clear hlen
    go_wp2_with fail
    go_loopw [5] (fun i wr => ∃ k : Nat, i = .int .i64 k ∧ k ≤ l.length ∧ l.take k = m.take k ∧ Below w.heap.size w wr) (fun i _ => l.length - (intOf i).toNat)
    case atStart => exact ⟨0, rfl, Nat.zero_le _, rfl, Below.refl _ _⟩
    case round =>
      obtain ⟨k, rfl, hk, ht, hbw⟩ := hrel
      have G := Lib.hid hbw
      have T := Lib.hid ht
      clear hbw ht
      by_cases hlt : k < l.length
      · have hltm : k < m.length := by have := HL.out; omega
        obtain ⟨ba, oa, rfl, hba, ca0, ca1, ca2, ca3, ca4, ca5, ca6, ca7⟩ := RdVr.here (HA.out.below G.out) k hlt
        obtain ⟨bb, ob, rfl, hbb, cb0, cb1, cb2, cb3, cb4, cb5, cb6, cb7⟩ := RdVr.here (HB.out.below G.out) k hltm
        have hs1 : l.take (k + 1) = l.take k ++ [l[k]] := List.take_succ_eq_append_getElem hlt
        have hs2 : m.take (k + 1) = m.take k ++ [m[k]] := List.take_succ_eq_append_getElem hltm
        have S1 := Lib.hid hs1
        have S2 := Lib.hid hs2
        have NE := Lib.hid (show l[k] ≠ m[k] → l ≠ m from fun h e => h (by subst e; rfl))
        clear hs1 hs2
        generalize l[k] = p at *
        generalize m[k] = q at *
        by_cases hpq : p = q
        · subst hpq
          have hne := fun W => ver_neq_same W p
          unfold verV at hne
          go_wp2_with fail
          go_quiet (fail)
          go_wp2_with fail
          go_roundw
          case rel => exact ⟨k + 1, by go_num, by omega, by rw [S1.out, S2.out, T.out], G.out.drewN _⟩
          case measure => simp [intOf]; omega
        · have hne := fun W => ver_neq_diff W p q hpq
          unfold verV at hne
          have LM := Lib.hid (NE.out hpq)
          clear hpq
          go_wp2_with fail
          go_quiet (fail)
          go_wp2_with fail
          go_ret
          exact ⟨_, rfl, ⟨(fun h => by cases h), fun h => absurd h LM.out⟩, G.out.drewN _⟩
      · have LM := Lib.hid (show l = m from by
          have h1 : l.take k = l := List.take_of_length_le (by omega)
          have h2 : m.take k = m := List.take_of_length_le (by have := HL.out; omega)
          rw [← h1, T.out, h2])
        go_wp2_with fail
        go_ret
        exact ⟨_, rfl, ⟨fun _ => LM.out, fun _ => rfl⟩, G.out⟩
  · have z0 : ((l.length : Int) != (m.length : Int)) = true := by simp [bne]; omega
    have LM := Lib.hid (show l ≠ m from fun e => hlen (by rw [e]))
    clear hlen
    go_enter Try.func21, Try.ntmps21
    go_wp2_with fail
    go_ret
    exact ⟨_, rfl, ⟨(fun h => by cases h), fun h => absurd h LM.out⟩, Below.refl _ _⟩

def encVs (l : List Ver) : List UInt8 := l.flatMap encV
theorem encVs_snoc (l : List Ver) (k : Nat) (h : k < l.length) : encVs (l.take (k + 1)) = encVs (l.take k) ++ encV l[k] := by
  unfold encVs; rw [List.take_succ_eq_append_getElem h, List.flatMap_append]; simp
theorem encV_len {v : Ver} (hm : mayV v = true) (hk : v.key.size ≤ 1000) : (encV v).length ≤ 1300 := by
  have h1 := encNs_len (numsV v) (fun n hn => Int.le_trans (numsV_bd hm n hn).2 (by omega))
  have h2 := encT_len v.key (by omega)
  have h3 := (mayV_iff hm).2.2.1
  have h4 := encT_len v.val (by omega)
  have h5 : (numsV v).length = 6 := rfl
  unfold encV
  rw [List.length_append, List.length_append]
  omega
theorem encVs_len (l : List Ver) (hm : ∀ v ∈ l, mayV v = true ∧ v.key.size ≤ 1000) : (encVs l).length ≤ 1300 * l.length := by
  induction l with
  | nil => simp [encVs]
  | cons v l ih =>
    have h1 := ih (fun x hx => hm x (by simp [hx]))
    have h2 := encV_len (hm v (by simp)).1 (hm v (by simp)).2
    unfold encVs at *
    rw [List.flatMap_cons, List.length_append, List.length_cons]
    omega

set_option maxHeartbeats 4000000 in
theorem ref6_list (va : Value) (l : List Ver) (w : World) (ha : RdVr w w.heap.size va l) (hm : ∀ v ∈ l, mayV v = true ∧ v.key.size ≤ 1000) (hl : l.length ≤ 100000) :
    Calls Try.prog 22 #[va] w fun e w' => ∃ v', e = .returned v' ∧ OwnB w' w.heap.size v' (encN l.length ++ encVs l) ∧ Below w.heap.size w w' := by
  have HA := Lib.hid ha
  obtain ⟨A, ca, rfl, hla, hca, -⟩ := ha
  have HM := Lib.hid hm
  have HP := Lib.hid (fun w => ref_put (l.length : Int) w (by omega))
  have h9 := encN_nine l.length (by omega)
  rw [Int.toNat_natCast] at HP
  have HW := Lib.hid ref6_write
  generalize encN l.length = en at *
  clear hm
  go_enter Try.func22, Try.ntmps22
  go_wp2_with fail
  refine (HP.out _).mono ?_
  rintro z w1 ⟨v1, rfl, ho1, hb1⟩
  have O := Lib.hid ho1
  have G := Lib.hid hb1
  clear ho1 hb1
  go_wp2_with fail
  go_loopw [3, 4] (fun x i wr => ∃ k : Nat, i = .int .i64 k ∧ k ≤ l.length ∧ OwnB wr w.heap.size x (en ++ encVs (l.take k)) ∧ Below w.heap.size w wr) (fun _ i _ => l.length - (intOf i).toNat)
  case atStart => exact ⟨0, rfl, Nat.zero_le _, by simpa [encVs] using O.out, G.out⟩
  case round =>
    obtain ⟨k, rfl, hk, ho, hb⟩ := hrel
    have O := Lib.hid ho
    have GW := Lib.hid hb
    clear ho hb G
    by_cases hlt : k < l.length
    · obtain ⟨ba, oa, rfl, hba, c0, c1, c2, c3, c4, c5, c6, c7⟩ := RdVr.here (HA.out.below GW.out) k hlt
      have FS := Lib.hid (encVs_snoc l k hlt)
      have hmk := HM.out l[k] (List.getElem_mem _)
      have hel := encVs_len (l.take k) (fun v hv => HM.out v (List.mem_of_mem_take hv))
      have hl1 : (l.take k).length ≤ k := List.length_take_le _ _
      have hv1 := encV_len hmk.1 hmk.2
      have hal : (en ++ encVs (l.take k)).length + (encV l[k]).length ≤ 1099511627776 := by rw [List.length_append]; omega
      have HX := Lib.hid (fun w => HW.out l[k] w hmk.1 hmk.2)
      clear hmk hel hl1 hv1
      generalize encVs (l.take k) = acc at *
      generalize l[k] = p at *
      generalize encV p = ep at *
      obtain ⟨kk, b, e, s, ⟨x, y⟩, u, g⟩ := p
      unfold verV at HX
      simp only at HX c0 c1 c2 c3 c4 c5 c6 c7
      go_wp2_with fail
      refine (HX.out _).mono ?_
      rintro z w2 ⟨v2, rfl, ho2, hb2⟩
      have O := Lib.hid (O.out.on hb2)
      have GW := Lib.hid (GW.out.trans (hb2.mono GW.out.size))
      obtain ⟨A2, c2', e2, -⟩ := own_cap ho2
      subst e2
      have R2 := Lib.hid ho2.rd
      clear ho2 hb2 c0 c1 c2 c3 c4 c5 c6 c7
      go_wp2_with (at_builtin; refine wpl_app_bytes_b rfl (.tmp 14) (.tmp 19) rfl w.heap.size _ _ _ (en ++ acc) ep rfl rfl O.out R2.out GW.out.size hal ?_; intro v3 w3 ho3 hb3)
      have OZ := Lib.hid (show OwnB w3 w.heap.size v3 (en ++ encVs (l.take (k + 1))) from by rw [FS.out, ← List.append_assoc]; exact ho3)
      have GZ := Lib.hid (GW.out.trans hb3)
      clear ho3 hb3
      go_roundw
      case rel => exact ⟨k + 1, by go_num, by omega, OZ.out, GZ.out⟩
      case measure => simp [intOf]; omega
    · have hke : l.take k = l := List.take_of_length_le (by omega)
      rw [hke] at O
      go_wp2_with fail
      go_ret
      exact ⟨_, rfl, O.out, GW.out⟩
end Go.Proofs.Ytmchiebpijnpiaa
