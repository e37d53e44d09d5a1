/- VaryOwns: for all bytes (the first 100) and every number: what is put behind bytes is new, and a reader keeps what it was handed, whatever is written into either later. No conditions. -/
import Derived.Test.YticfjpnocpcopaaVh
import Derived.Test.YticfjpnocpcopaaVi
import Derived.ChangeMaps5
namespace Go.Proofs.Yticfjpnocpcopaa.L04
open Go.RowKit Go.ChangeShapes Go.WideShapes Go.ChangeAt
set_option linter.unusedVariables false

theorem stepN_fst (l : List UInt8) : (stepN l 0).1 = (rdN l).1 := by
  unfold stepN
  rw [if_neg (by simp)]
  split
  · rename_i h; exact (rdN_zero l h).symm
  · rfl

/-- What is written into another row changes no reader. -/
theorem kept_reader {w w' : World} {base g : Nat} {p : Value} {l : List UInt8} {e : Int} {row : Option Nat} (h : RdR w base g p l e) (hg : w.grownBy w' row) (hr : ∀ k, row = some k → k < base) : RdR w' base g p l e := by
  obtain ⟨h1, h2, h3, h4, h5, h6, sl, h7, h8, h9⟩ := h
  have hne : some g ≠ row := fun h => by have := hr g h.symm; omega
  have hblk := hg.block g h2 hne
  refine ⟨h1, Nat.lt_of_lt_of_le h2 hg.size, h3, (World.cell?_of_block (a := ⟨g, 1, none⟩) hblk).trans h4, (World.frozen?_of_block (a := ⟨g, 0, none⟩) hblk).trans h5, (World.frozen?_of_block (a := ⟨g, 1, none⟩) hblk).trans h6, sl, (World.cell?_of_block (a := ⟨g, 0, none⟩) hblk).trans h7, ?_, h9⟩
  obtain ⟨A, c, rfl, a1, a2, a3⟩ := h8
  refine ⟨A, c, rfl, a1, a2, fun hp => ?_⟩
  obtain ⟨b, o, rfl, hb, hc⟩ := a3 hp
  have hbase := h9 b rfl
  have hne2 : some b ≠ row := fun h => by have := hr b h.symm; omega
  exact ⟨b, o, rfl, hb, fun k u hk => (World.cell?_of_block (a := ⟨b, o + k, none⟩) (hg.block b (by omega) hne2)).trans (hc k u hk)⟩

/-- The document's reader, made. -/
theorem doc_new (w : World) (A : Option Addr) (n c : Nat) (l : List UInt8) (h : RdB w w.heap.size (.slice A n c) l) :
    RdD (w.alloc (.cells #[.slice A n c, .int .i64 0, .int .i64 0] 42)) w.heap.size (.pointer (some ⟨w.heap.size, 0, none⟩)) l := by
  have hn := heap_alloc_new w (.cells #[.slice A n c, .int .i64 0, .int .i64 0] 42)
  refine ⟨rfl, by simp, ?_, ?_, by simp, by simp, _, ?_, h.below (alloc_below w _)⟩ <;> (rw [cell_of_row _ _ _ _ _ (0, 0) hn]; rfl)
/-- What is written into another row changes it not. -/
theorem doc_kept {w w' : World} {g g' : Nat} {p : Value} {l : List UInt8} (h : RdD w g p l) (hg : w.grownBy w' (some g')) (hl : ∀ (sl : Value) k, w.cell? ⟨g, 0, none⟩ = some sl → sl.ownBlock = some k → k ≠ g') (hne : g' < g) : RdD w' g p l := by
  obtain ⟨h1, h2, h3, h4, h5, h6, sl, h7, h8⟩ := h
  have hblk := hg.block g h2 (by intro e; injection e with e; omega)
  refine ⟨h1, Nat.lt_of_lt_of_le h2 hg.size, (World.cell?_of_block (a := ⟨g, 1, none⟩) hblk).trans h3, (World.cell?_of_block (a := ⟨g, 2, none⟩) hblk).trans h4, (World.frozen?_of_block (a := ⟨g, 1, none⟩) hblk).trans h5, (World.frozen?_of_block (a := ⟨g, 2, none⟩) hblk).trans h6, sl, (World.cell?_of_block (a := ⟨g, 0, none⟩) hblk).trans h7, ?_⟩
  obtain ⟨A, c, rfl, a1, a2, a3⟩ := h8
  refine ⟨A, c, rfl, a1, a2, fun hp => ?_⟩
  obtain ⟨b, o, rfl, hb, hc⟩ := a3 hp
  have hne2 := hl _ b h7 rfl
  exact ⟨b, o, rfl, hb, fun k u hk => (World.cell?_of_block (a := ⟨b, o + k, none⟩) (hg.block b (by omega) (by intro e; injection e with e; exact hne2 e))).trans (hc k u hk)⟩

set_option maxHeartbeats 4000000 in
set_option maxRecDepth 100000 in
theorem walk (v0 : Value) (b0 : List UInt8) (n : Int) (w : World) (hb : RdB w w.heap.size v0 b0) (hn : -9223372036854775808 ≤ n ∧ n ≤ 9223372036854775807) :
    Calls Try.prog 6 #[v0, .int .i64 n] w fun e w' => e = .returned (.bool true) ∧ Below w.heap.size w w' := by
  have hl : (b0.take 100).length ≤ 100 := List.length_take_le _ _
  have HB0 := Lib.hid hb
  have hn9 := encN_nine n.toNat (by omega)
  have HN9 := Lib.hid hn9
  have hnp := encN_pos n.toNat
  have HNP := Lib.hid hnp
  clear hb hn9 hnp
  go_enter Try.func6, Try.ntmps6
  go_wp2_with fail
  refine (few_any _ b0 _ HB0.out).mono ?_
  rintro e w1 ⟨vb, rfl, hrb, rfl⟩
  have RB := Lib.hid hrb
  clear hrb
  generalize b0.take 100 = l at *
  go_wp2_with (at_builtin; refine wpl_app_bytes_b rfl (.tmp 13) (.tmp 15) rfl w.heap.size _ _ _ [] l rfl rfl (OwnB.nil _ _) RB.out ?_ ?_ ?_; rotate_left 2; intro v1 w1 ho1 hb1
               rw [List.nil_append] at ho1
               have hcv1 := ho1.str)
  · have O1 := Lib.hid ho1
    have O1l := Lib.hid ho1.lt
    have hw01 := hb1.size
    have G := Lib.hid hb1
    have RO := Lib.hid ho1.rd
    clear hb1 hcv1
    refine (put_lit v1 l [n] _ 1 w1 rfl rfl RO.out (by omega) (by simp; omega) (by simp)).mono ?_
    rintro e w2 ⟨x, rfl, ho2, hb2⟩
    have hx1 : (l ++ encNs [n]).length = l.length + (encN n.toNat).length := by simp [encNs]
    have O1 := Lib.hid (O1.out.on hb2)
    have G := Lib.hid (G.out.trans (hb2.mono G.out.size))
    have RO := Lib.hid (RO.out.on hb2)
    have hw12 := hb2.size
    generalize l ++ encNs [n] = lx at *
    have hlx : lx.length ≤ 109 := by have := HN9.out; omega
    have O2 := Lib.hid ho2
    clear ho1 ho2 hb2
    go_wp2_with fail
    refine (vary_read v1 l _ RO.out (by omega)).mono ?_
    rintro e w3 ⟨p, g, rfl, hr3, hb3⟩
    have Q := Lib.hid hr3
    have O1 := Lib.hid (O1.out.on hb3)
    have O2l := O2.out.lt
    have O2 := Lib.hid (O2.out.on hb3)
    have G := Lib.hid (G.out.trans (hb3.mono G.out.size))
    obtain ⟨rfl, -⟩ := hr3
    have hw23 := hb3.size
    clear hb3
    have hxf := O2.out.2
    rcases hxf with ⟨-, hx0⟩ | ⟨bx, cx, -, rfl, -⟩
    · exfalso; have := HNP.out; omega
    have hbx := O2l bx rfl
    obtain ⟨A, c, hv1, -⟩ := own_cap O1.out
    subst hv1
    clear O2l RO
    go_wp2_with fail
    go_loopw [9] (fun i wr => ∃ (k : Nat) (l2 : List UInt8), i = .int .i64 k ∧ k ≤ lx.length ∧ l2.length = lx.length ∧ OwnB wr w1.heap.size (.slice (some ⟨bx, 0, none⟩) lx.length cx) l2 ∧ w3.grownBy wr (some bx)) (fun i _ => lx.length - (intOf i).toNat)
    case atStart => exact ⟨0, lx, rfl, Nat.zero_le _, rfl, O2.out, World.grownBy.refl _ _⟩
    case round =>
      obtain ⟨k, l2, rfl, hk, hl2, ho, hg⟩ := hrel
      have HG := Lib.hid hg
      have HO := Lib.hid ho
      clear ho hg
      by_cases hlt : k < lx.length
      · have ck := HO.out.cellAt k (by omega)
        have fk := HO.out.frozenAt k
        have hst := Lib.hid (HO.out.stored k 1 1 rfl)
        have HL2 := Lib.hid hl2
        generalize l2[k] = y at ck
        clear hl2
        go_wp2_with fail
        go_roundw
        case rel => exact ⟨k + 1, l2.set k 1, by go_num, by omega, by rw [List.length_set]; exact HL2.out, hst.out.1, HG.out.trans hst.out.2⟩
        case measure => simp [intOf]; omega
      · have hne : (Value.slice A l.length c).ownBlock = none ∨ (Value.slice A l.length c).ownBlock ≠ some bx := by
          cases hob : (Value.slice A l.length c).ownBlock with
          | none => exact .inl rfl
          | some b => exact .inr (fun h => by injection h with h; have := (O1l.out b hob).2; omega)
        have O1 := Lib.hid (O1.out.keep HG.out hne)
        have Q := Lib.hid (kept_reader Q.out HG.out (fun k hk => by injection hk with hk; omega))
        have G := Lib.hid (G.out.grown HG.out G.out.size (fun k hk => by injection hk with hk; omega))
        have hcv := O1.out.str
        have hws := HG.out.size
        clear HG HO O2 hne
        go_wp2_with fail
        go_loopw [11] (fun i ws => ∃ (k : Nat) (l2 : List UInt8), i = .int .i64 k ∧ k ≤ l.length ∧ l2.length = l.length ∧ OwnB ws w.heap.size (.slice A l.length c) l2 ∧ wr.grownBy ws (Value.slice A l.length c).ownBlock) (fun i _ => l.length - (intOf i).toNat)
        case atStart => exact ⟨0, l, rfl, Nat.zero_le _, rfl, O1.out, World.grownBy.refl _ _⟩
        case round =>
          obtain ⟨k2, l3, rfl, hk2, hl3, ho3, hg3⟩ := hrel
          have HG := Lib.hid hg3
          have HO := Lib.hid ho3
          have HL3 := Lib.hid hl3
          clear hcv ho3 hg3
          by_cases hlt2 : k2 < l.length
          · have hf := O1.out.2
            rcases hf with ⟨-, hz⟩ | ⟨bo, co, -, hvo, -⟩
            · exfalso; omega
            cases hvo
            have ck := HO.out.cellAt k2 (by omega)
            have fk := HO.out.frozenAt k2
            have hst := Lib.hid (HO.out.stored k2 200 200 rfl)
            generalize l3[k2] = y at ck
            clear hl3
            go_wp2_with fail
            go_roundw
            case rel => exact ⟨k2 + 1, l3.set k2 200, by go_num, by omega, by rw [List.length_set]; exact HL3.out, hst.out.1, HG.out.trans hst.out.2⟩
            case measure => simp [intOf]; omega
          · have Q := Lib.hid (kept_reader Q.out HG.out (fun k hk => by have := (O1l.out k hk).2; omega))
            have G := Lib.hid (G.out.grown HG.out G.out.size (fun k hk => (O1l.out k hk).1))
            clear HO HL3 hl3
            obtain ⟨A5, c5, w5, hconv, hr5, hb5, hown5⟩ := str_bytes ⟨l.toArray⟩ wr (by show l.toArray.size ≤ _; simp; omega)
            have hsz : (ByteArray.mk l.toArray).size = l.length := by show l.toArray.size = _; simp
            rw [hsz] at hconv hr5 hown5
            have W5 := Lib.hid hown5
            have hgr := Q.out.lt
            have R5 := Lib.hid (show RdB w5 w5.heap.size (.slice A5 l.length c5) l from by simpa using hr5)
            have B5 := Lib.hid hb5
            have hwr5 := hb5.size
            clear hr5 hb5 hsz hown5
            go_wp2_with fail
            have hal := B5.out.trans ((alloc_below w5 (.cells #[.slice A5 l.length c5, .int .i64 0, .int .i64 0] 42)).mono B5.out.size)
            have Q := Lib.hid (Q.out.on hal)
            have G := Lib.hid (G.out.trans (hal.mono G.out.size))
            have D := Lib.hid (show RdD (w5.alloc (.cells #[.slice A5 l.length c5, .int .i64 0, .int .i64 0] 42)) w5.heap.size (.pointer (some ⟨w5.heap.size, 0, none⟩)) l from doc_new w5 A5 l.length c5 l R5.out)
            have hgw : w.heap.size ≤ g := by have := Q.out.from'; omega
            refine (number_any _ _ g _ l 0 Q.out (by omega)).mono ?_
            rw [stepN_fst]
            rintro e w6 ⟨rfl, -, hb6⟩
            have G := Lib.hid (G.out.trans (grown_below hb6 hgw G.out.size))
            have D := Lib.hid (doc_kept D.out hb6 (fun sl k h1 h2 => by
              rw [cell_of_row _ _ _ _ _ (0, 0) (heap_alloc_new w5 _)] at h1
              have h3 : sl = .slice A5 l.length c5 := by simpa using h1.symm
              rw [h3, W5.out] at h2
              injection h2 with h2; omega) (by omega))
            clear hb6
            go_wp2_with fail
            refine (ref_number _ _ _ l D.out (by omega)).mono ?_
            rintro e w7 ⟨rfl, hb7⟩
            have G := Lib.hid (G.out.trans (hb7.mono (by omega)))
            clear hb7
            go_wp2_with fail
            refine (lives_any _).mono ?_
            rintro e w8 ⟨rfl, hb8⟩
            have G := Lib.hid (G.out.trans (hb8.mono G.out.size))
            clear hb8
            go_wp2_with fail
            go_ret
            exact ⟨rfl, G.out⟩
  all_goals first | omega | (simp; omega)
-- END
set_option maxRecDepth 100000 in
theorem lifted (os : Os) (started : os.Started) (H : Type) (enc : TypeId × Value → H) :
    ReturnsInHanded {} Try.checked os 6 .any (Rows.varyOwnsSpec.pre6 enc Try.prog Try.f6 Rows.varyOwnsRow.domain false) (Rows.varyOwnsSpec.post enc Try.prog Try.f6 false true false false) := by
  refine returnsInHanded_of_change (C := Try.checked) Try.own started (by kernel_rfl) Try.func6
    (ChangeSpec.witness6 (enc := enc) (C := Try.checked) false ⟨#[], #[.slice none 0 0, .int .i64 0], []⟩ 8 (by kernel_rfl) (by kernel_rfl) (by kernel_rfl) (by kernel_rfl)) ?_
  intro W base args ds gs before hval0 hW _ _
  have hval : ∀ (j : Nat) t v, Try.f6.params[j]? = some t → args[j]? = some v → Value.okWide Try.prog W .any base t v := hval0
  have hW' := hW
  obtain ⟨p, q, hA0, hV, rfl, _, _⟩ := hW
  have hA : DataW.TrodAll enc Try.prog W 0 (fun _ => true) true Try.f6.params.toList args.toList ds p := hA0
  rw [Try.params6] at hA hval
  obtain ⟨v0, v1, d0, d1, p0, p1, rfl, rfl, rfl, h0, h1⟩ := trodAll_two hA
  obtain ⟨rfl, rfl⟩ := trodVars_none hV
  have hlt := fun x hx => hW'.lt x hx
  obtain ⟨a0, r0⟩ := open_bytes (hval 0 _ v0 rfl rfl) h0 (fun x hx => by simpa using hlt x (by simp [hx]))
  obtain ⟨a1, rfl, rfl, rfl, w1⟩ := open_int Try.underlying3 (hval 1 _ v1 rfl rfl) h1
  have w1 := wf_int w1
  refine (walk v0 a0 a1 W r0 w1).mono fun e W' ⟨he, hb⟩ => ⟨_, he, ?_⟩
  exact law_post Try.laidOut (by decide +kernel) rfl Try.underlying4 rfl hW' rfl hb

theorem holds : Rows.VaryOwnsSaid :=
  OpenClaim.holds_of_wide 6 Try.f6 rfl rfl rfl rfl rfl rfl rfl ⟨rfl, rfl, rfl, rfl, rfl⟩ rfl rfl rfl rfl rfl (by kernel_rfl) Try.func6 (by kernel_rfl)
    (of_decide_eq_true (by kernel_rfl)) (by unfold Func.isWrapper; first | (rw [if_pos (by decide +kernel)]; kernel_rfl) | (rw [if_neg (by decide +kernel)]; exact ⟨rfl, rfl⟩))
    (fun os started H enc _ => lifted os started H enc)
end Go.Proofs.Yticfjpnocpcopaa.L04
