/- Layer 8: a block's bytes, by the document. -/
import Derived.Test.YtefjdmlmmoeoaaaGreatTe
import Derived.Test.YtefjdmlmmoeoaaaGreatTb
import Derived.Test.YtefjdmlmmoeoaaaGreatBE
namespace Go.Proofs.YtefjdmlmmoeoaaaGreat
open Go.RowKit
set_option linter.unusedVariables false

set_option maxHeartbeats 16000000 in
set_option maxRecDepth 100000 in
theorem ref8_write (va : Value) (l : List Ver) (w : World) (ha : RdVr w w.heap.size va l) (hm : ∀ v ∈ l, mayV v = true) (hl : l.length ≤ 1000) :
    Calls Tryz.prog 33 #[va] w fun e w' => ∃ v', e = .returned v' ∧ OwnB w' w.heap.size v' (encBlk l) ∧ Below w.heap.size w w' := by
  have HA := Lib.hid ha
  obtain ⟨A, ca, rfl, hla, hca, -⟩ := ha
  have HM := Lib.hid hm
  have HP := Lib.hid (fun w => ref_put (l.length : Int) w (by omega))
  have h9 := Lib.hid (encN_nine l.length (by omega))
  rw [Int.toNat_natCast] at HP
  have HE := Lib.hid (show encBlk l = encN l.length ++ encGo ⟨#[]⟩ l from rfl)
  generalize encBlk l = res at *
  generalize encN l.length = en at *
  clear hm
  go_enter Tryz.func33, Tryz.ntmps33
  go_wp2_with fail
  refine (HP.out _).mono ?_
  rintro z w1 ⟨v1, rfl, ho1, hb1⟩
  have O := Lib.hid ho1
  have G := Lib.hid hb1
  clear ho1 hb1
  go_wp2_with fail
  go_loopw [3, 4, 5] (fun x y i wr => ∃ k : Nat, i = .int .i64 k ∧ k ≤ l.length ∧ y = .string (lastKey ⟨#[]⟩ (l.take k)) ∧ OwnB wr w.heap.size x (en ++ encGo ⟨#[]⟩ (l.take k)) ∧ Below w.heap.size w wr) (fun _ _ i _ => l.length - (intOf i).toNat)
  case atStart => exact ⟨0, rfl, Nat.zero_le _, rfl, by simpa [encGo] using O.out, G.out⟩
  case round =>
    obtain ⟨k, rfl, hk, rfl, ho, hb⟩ := hrel
    rename World => wo
    have O := Lib.hid ho
    have GW := Lib.hid hb
    clear ho hb G
    by_cases hlt : k < l.length
    · have zl : decide ((k : Int) < (l.length : Int)) = true := by simp; omega
      obtain ⟨b, o, rfl, hbb, -⟩ := RdVr.here HA.out k hlt
      obtain ⟨p, hp⟩ : ∃ p, l[k] = p := ⟨_, rfl⟩
      have hmp := HM.out l[k] (List.getElem_mem hlt)
      rw [hp] at hmp
      have HS := Lib.hid (show encGo ⟨#[]⟩ (l.take (k + 1)) = encGo ⟨#[]⟩ (l.take k) ++ encRest (lastKey ⟨#[]⟩ (l.take k)) p from by rw [List.take_succ_eq_append_getElem hlt, encGo_snoc, hp])
      have HK := Lib.hid (show lastKey ⟨#[]⟩ (l.take (k + 1)) = p.key from by rw [List.take_succ_eq_append_getElem hlt, lastKey_snoc, hp])
      have hgl := encGo_len (l.take k) ⟨#[]⟩ (fun v hv => HM.out v (List.mem_of_mem_take hv))
      have hl1 : (l.take k).length ≤ k := List.length_take_le _ _
      have hks : (lastKey ⟨#[]⟩ (l.take k)).size ≤ 92 := by
        rcases lastKey_mem (l.take k) ⟨#[]⟩ with h | ⟨v, hv, h⟩
        · rw [h]; decide
        · rw [h]; exact may_key (HM.out v (List.mem_of_mem_take hv))
      have HAL := Lib.hid (show (en ++ encGo ⟨#[]⟩ (l.take k)).length ≤ 1000000 from by have := h9.out; rw [List.length_append]; omega)
      clear hgl hl1
      generalize encGo ⟨#[]⟩ (l.take k) = acc at *
      generalize lastKey ⟨#[]⟩ (l.take k) = key at *
      have HR := Lib.hid (show encRest key p = encN (com key p.key) ++ encT (restK key p) ++ encNs (numsV p) ++ encT p.val from rfl)
      have hcl := com_le key p.key
      have hkp := may_key hmp
      have CLT := Lib.hid (fun n h h1 h2 => com_lt (a := key) (b := p.key) (n := n) h h1 h2)
      have CEN := Lib.hid (fun n h h1 h2 => com_end (a := key) (b := p.key) (n := n) h h1 h2)
      have MP := Lib.hid hmp
      have HRS := Lib.hid (restK_size key p)
      have hrk : restK key p = p.key.extract (com key p.key) p.key.size := rfl
      generalize com key p.key = c at *
      generalize restK key p = rk at *
      generalize encRest key p = er at *
      have hbd := numsV_bd hmp
      have hmi := mayV_iff hmp
      have hsp := mayB_iff.1 hmi.2.1
      have hvs := hmi.2.2.1
      have hnv : numsV p = [p.b, p.e, p.s, p.sp.1, p.sp.2 - p.sp.1, if p.gone = true then 1 else 0] := rfl
      have HBD := Lib.hid hbd
      generalize numsV p = ns at *
      clear hbd hmi hmp
      obtain ⟨kk, bb, ee, ss, ⟨xx, yy⟩, uu, gg⟩ := p
      have PP := Lib.hid hp
      simp only at HK HR hcl hkp CLT CEN HRS hrk hsp hvs hnv
      clear hp hbb
      obtain ⟨-, c0, c1, c2, c3, c4, c5, c6, c7⟩ := RdVr.cells1 (HA.out.below GW.out) k hlt PP.out
      go_wp2_with fail
      have BX := Lib.hid (Box.new wo #[.string kk, .int .i64 bb, .int .i64 ee, .int .i64 ss, .int .i64 xx, .int .i64 yy, .string uu, .bool gg] 55 _ rfl)
      have GX := Lib.hid (alloc_below wo (.cells #[.string kk, .int .i64 bb, .int .i64 ee, .int .i64 ss, .int .i64 xx, .int .i64 yy, .string uu, .bool gg] 55))
      have O := Lib.hid (O.out.on GX.out)
      have GW := Lib.hid (GW.out.trans (GX.out.mono GW.out.size))
      clear c0 c1 c2 c3 c4 c5 c6 c7
      generalize hw0 : wo.alloc (.cells #[.string kk, .int .i64 bb, .int .i64 ee, .int .i64 ss, .int .i64 xx, .int .i64 yy, .string uu, .bool gg] 55) = W0 at *
      have hbx := BX.out.lt
      clear hw0 GX
      go_loopw [7] (fun i wi => ∃ j : Nat, i = .int .i64 j ∧ j ≤ c ∧ Below W0.heap.size W0 wi) (fun i _ => kk.size - (intOf i).toNat)
      case atStart => exact ⟨0, rfl, Nat.zero_le _, Below.refl _ _⟩
      case round =>
        obtain ⟨j, rfl, hj, hbi⟩ := hrel
        rename World => wi
        have GI := Lib.hid hbi
        have d0 := (BX.out.on GI.out hbx).cell 0 (.string kk) rfl
        clear hbi
        by_cases hjc : j < c
        · have hja : j < key.size := by omega
          have hjb : j < kk.size := by omega
          have hcc := CLT.out j hjc hja hjb
          have z1 : decide ((j : Int) < (key.size : Int)) = true := by simp; omega
          have z2 : decide ((j : Int) < (kk.size : Int)) = true := by simp; omega
          generalize hq : kk[j] = q at *
          go_wp2_with fail
          go_quiet (fail)
          go_wp2_with fail
          go_roundw
          case rel => exact ⟨j + 1, by go_num, by omega, GI.out.drewN _⟩
          case measure => simp [intOf]; omega
        · have hje : j = c := by omega
          subst hje
          go_wp2_with fail
          refine region_via (fun a' W => ∃ x24 x25 x26 x27 x28 x29 x30 x31 x32 x33 x34 x35 x36 x37 x38 x39 x40 x41 x42 x43 : Value, a' = ⟨#[Value.slice (some { block := b, off := o }) l.length ca, undef, Value.slice none 0 0, u3, Value.string key, Value.int IntKind.i64 k, Value.pointer (some { block := wo.heap.size, off := 0 }), Value.int IntKind.i64 j, u8, u9, u10, Value.slice (some { block := b, off := o }) l.length ca, Value.int IntKind.i64 l.length, v1, Value.int IntKind.i64 k, Value.slice (some { block := b, off := o }) l.length ca, Value.int IntKind.i64 l.length, Value.bool true, u18, u19, Value.slice (some { block := b, off := o }) l.length ca, Value.int IntKind.i64 k, Value.pointer (some { block := b, off := o + k * 8 }), Value.agg #[.string kk, .int .i64 bb, .int .i64 ee, .int .i64 ss, .int .i64 xx, .int .i64 yy, .string uu, .bool gg], x24, x25, x26, x27, x28, x29, x30, x31, x32, x33, x34, x35, x36, x37, x38, x39, x40, x41, x42, x43, .bool false, u45, u46, u47, u48, u49, u50, u51, u52, u53, u54, u55, u56, u57, u58, u59, u60, u61, u62, u63, u64, u65, u66, u67, u68, u69, u70, u71, u72, u73, u74, u75, u76, u77, u78, u79, u80, u81, u82, u83, u84, u85, u86, u87, u88, u89, u90, u91, u92, u93, u94, u95, u96, u97, u98, u99, u100, undef], []⟩ ∧ Below W0.heap.size W0 W) ?_ ?_
          · by_cases hja : j < key.size
            · have z1 : decide ((j : Int) < (key.size : Int)) = true := by simp; omega
              have z11 : decide (j < key.size) = true := by simp; omega
              by_cases hjb : j < kk.size
              · have z2 : decide ((j : Int) < (kk.size : Int)) = true := by simp; omega
                have z21 : decide (j < kk.size) = true := by simp; omega
                have hcc := CEN.out j rfl hja hjb
                generalize hq : kk[j] = q at *
                generalize hq2 : key[j] = q2 at *
                have z3 : ((q2.toNat : Int) == (q.toNat : Int)) = false := by
                  rw [beq_eq_false_iff_ne]; intro e; exact hcc (UInt8.toNat_inj.1 (by omega))
                have z4 : (q2.toNat == q.toNat) = false := by
                  rw [beq_eq_false_iff_ne]; intro e; exact hcc (UInt8.toNat_inj.1 e)
                have z5 : (q2 == q) = false := by rw [beq_eq_false_iff_ne]; exact hcc
                clear hcc
                go_quiet (fail)
                exact Ends.mk ⟨_, _, _, _, _, _, _, _, _, _, _, _, _, _, _, _, _, _, _, _, rfl, GI.out.drewN nq⟩
              · have z2 : decide ((j : Int) < (kk.size : Int)) = false := by rw [decide_eq_false_iff_not]; omega
                have z21 : decide (j < kk.size) = false := by rw [decide_eq_false_iff_not]; omega
                go_quiet (fail)
                exact Ends.mk ⟨_, _, _, _, _, _, _, _, _, _, _, _, _, _, _, _, _, _, _, _, rfl, GI.out.drewN nq⟩
            · have z1 : decide ((j : Int) < (key.size : Int)) = false := by rw [decide_eq_false_iff_not]; omega
              have z11 : decide (j < key.size) = false := by rw [decide_eq_false_iff_not]; omega
              go_quiet (fail)
              exact Ends.mk ⟨_, _, _, _, _, _, _, _, _, _, _, _, _, _, _, _, _, _, _, _, rfl, GI.out.drewN nq⟩
          rintro a' W ⟨x24, x25, x26, x27, x28, x29, x30, x31, x32, x33, x34, x35, x36, x37, x38, x39, x40, x41, x42, x43, rfl, hbW⟩
          have GI2 := Lib.hid hbW
          clear hbW d0
          have d0 := (BX.out.on GI2.out hbx).cell 0 (.string kk) rfl
          have hcn : j ≤ 92 := by omega
          have PC := Lib.hid (fun w => ref_put (j : Int) w (by omega))
          rw [Int.toNat_natCast] at PC
          have hec := encN_nine j (by omega)
          have TK := Lib.hid (fun w => ref_text rk w (by have := HRS.out; omega))
          have hek := encT_len rk (by have := HRS.out; omega)
          have TV := Lib.hid (fun w => ref_text uu w (by omega))
          have hev := encT_len uu (by omega)
          have hrs := HRS.out
          have hal := HAL.out
          generalize encN j = ec at *
          generalize encT rk = ek at *
          generalize encT uu = ev at *
          have hl1 : (en ++ acc).length + ec.length ≤ 1099511627776 := by omega
          have hl2 : ((en ++ acc) ++ ec).length + ek.length ≤ 1099511627776 := by rw [List.length_append]; omega
          have HL3 := Lib.hid (show (((en ++ acc) ++ ec) ++ ek).length ≤ 2000000 from by rw [List.length_append, List.length_append]; omega)
          rw [hrk] at TK
          clear hrs hal hrk
          go_wp2_with fail
          refine (PC.out _).mono ?_
          rintro z w2 ⟨v2, rfl, ho2, hb2⟩
          have O2 := Lib.hid ((O.out.on GI2.out).on hb2)
          have G2 := Lib.hid (GW.out.trans ((GI2.out.mono GW.out.size).trans (hb2.mono (Nat.le_trans GW.out.size GI2.out.size))))
          have B2 := Lib.hid ((BX.out.on GI2.out hbx).later hb2)
          obtain ⟨A2, c2, e2, -⟩ := own_cap ho2
          subst e2
          have R2 := Lib.hid ho2.rd
          clear ho2 hb2 d0
          go_wp2_with (at_builtin; refine wpl_app_box rfl (.tmp 47) (.tmp 49) rfl w.heap.size _ _ _ (en ++ acc) ec rfl rfl O2.out R2.out G2.out.size hl1 ?_; intro v3 w3 ho3 hb3 hk3; have d3 := (hk3 _ _ _ (by decide) B2.out).cell 0 (.string kk) rfl)
          have O3 := Lib.hid ho3
          have G3 := Lib.hid (G2.out.trans hb3)
          have B3 := Lib.hid (hk3 _ _ _ (by decide) B2.out)
          clear ho3 hb3 hk3
          refine (TK.out _).mono ?_
          rintro z w4 ⟨v4, rfl, ho4, hb4⟩
          have O4 := Lib.hid (O3.out.on hb4)
          have G4 := Lib.hid (G3.out.trans (hb4.mono G3.out.size))
          have B4 := Lib.hid (B3.out.later hb4)
          obtain ⟨A4, c4, e4, -⟩ := own_cap ho4
          subst e4
          have R4 := Lib.hid ho4.rd
          clear ho4 hb4 d3
          obtain ⟨gn, hgn⟩ : ∃ gn : Int, gn = if gg = true then 1 else 0 := ⟨_, rfl⟩
          have hns : ns = [bb, ee, ss, xx, yy - xx, gn] := by rw [hgn]; exact hnv
          have HC := Lib.hid (show ∀ (j : Nat) (hj : j < ns.length), (#[.int .i64 bb, .int .i64 ee, .int .i64 ss, .int .i64 xx, .int .i64 (yy - xx), .int .i64 gn] : Array Value)[j]? = some (.int .i64 ns[j]) from by
            subst hns
            intro j hj
            simp only [List.length_cons, List.length_nil] at hj
            rcases (show j = 0 ∨ j = 1 ∨ j = 2 ∨ j = 3 ∨ j = 4 ∨ j = 5 from by omega) with rfl | rfl | rfl | rfl | rfl | rfl <;> rfl)
          have hl6 : ns.length = 6 := by rw [hns]; rfl
          have hwr : IntKind.i64.wrap (yy - xx) = yy - xx := by rw [IntKind.wrap_i64]; omega
          clear hnv hns PP
          cases hg : gg
          case' false => have hgn0 : gn = 0 := by rw [hgn, hg]; rfl
          case' true => have hgn0 : gn = 1 := by rw [hgn, hg]; rfl
          all_goals
            rw [hg] at B4
            clear hgn hg
            go_wp2_with (at_builtin; refine wpl_app_box rfl (.tmp 51) (.tmp 56) rfl w.heap.size _ _ _ ((en ++ acc) ++ ec) ek rfl rfl O4.out R4.out G4.out.size hl2 ?_; intro v5 w5 ho5 hb5 hk5; have f1 := (hk5 _ _ _ (by decide) B4.out).cell 1 (.int .i64 bb) rfl; have f2 := (hk5 _ _ _ (by decide) B4.out).cell 2 (.int .i64 ee) rfl; have f3 := (hk5 _ _ _ (by decide) B4.out).cell 3 (.int .i64 ss) rfl; have f4 := (hk5 _ _ _ (by decide) B4.out).cell 4 (.int .i64 xx) rfl; have f5 := (hk5 _ _ _ (by decide) B4.out).cell 5 (.int .i64 yy) rfl; have f7 := (hk5 _ _ _ (by decide) B4.out).cell 7 _ rfl)
            generalize hW6 : w5.alloc (.cells #[.int .i64 bb, .int .i64 ee, .int .i64 ss, .int .i64 xx, .int .i64 (yy - xx), .int .i64 _] 3) = W6
            have GL := Lib.hid (show Below w5.heap.size w5 W6 from by rw [← hW6]; exact alloc_below w5 _)
            have BL := Lib.hid (show Box W6 w5.heap.size #[.int .i64 bb, .int .i64 ee, .int .i64 ss, .int .i64 xx, .int .i64 (yy - xx), .int .i64 gn] 3 from by rw [← hW6, hgn0]; exact Box.new w5 _ _ _ rfl)
            have B6 := Lib.hid ((hk5 _ _ _ (by decide) B4.out).later GL.out)
            have O6 := Lib.hid (ho5.on GL.out)
            have G6 := Lib.hid ((G4.out.trans hb5).trans (GL.out.mono (G4.out.trans hb5).size))
            clear ho5 hb5 hk5 f1 f2 f3 f4 f5 f7 GL hW6
            generalize w5.heap.size = n6 at *
            generalize hpre : ((en ++ acc) ++ ec) ++ ek = pre at *
            go_loopw [3, 10] (fun x i wr => ∃ m : Nat, i = .int .i64 m ∧ m ≤ 6 ∧ OwnB wr w.heap.size x (pre ++ encNs (ns.take m)) ∧ (∀ cs t, t ≠ 5 → (Box W6 wo.heap.size cs t → Box wr wo.heap.size cs t) ∧ (Box W6 n6 cs t → Box wr n6 cs t)) ∧ Below w.heap.size w wr) (fun _ i _ => 6 - (intOf i).toNat)
            case atStart => exact ⟨0, rfl, by omega, by simpa [encNs] using O6.out, fun _ _ _ => ⟨id, id⟩, G6.out⟩
            case round =>
              obtain ⟨m, rfl, hm6, hom, hbx6, hbm⟩ := hrel
              have OM := Lib.hid hom
              have GM := Lib.hid hbm
              have KM := Lib.hid hbx6
              clear hom hbm hbx6
              have hlen := encNs_len (ns.take m) (fun n hn => Int.le_trans (HBD.out n (List.mem_of_mem_take hn)).2 (by omega))
              have hlt2 : (ns.take m).length ≤ 6 := by rw [List.length_take]; omega
              have hol : (pre ++ encNs (ns.take m)).length ≤ 2000054 := by rw [List.length_append]; have := HL3.out; omega
              clear hlen hlt2
              by_cases hlt6 : m < 6
              · have cj := ((KM.out _ _ (by decide)).2 BL.out).cell m _ (HC.out m (by omega))
                have HSN := Lib.hid (encNs_snoc ns m (by omega))
                have hnb := HBD.out (ns[m]'(by omega)) (List.getElem_mem _)
                generalize ns[m]'(by omega) = n at *
                have HPN := Lib.hid (fun w => ref_put n w (by omega))
                have h9n := encN_nine n.toNat (by omega)
                generalize encN n.toNat = enn at *
                generalize encNs (ns.take m) = accn at *
                have haln : (pre ++ accn).length + enn.length ≤ 1099511627776 := by omega
                go_wp2_with fail
                refine (HPN.out _).mono ?_
                rintro z w7 ⟨v7, rfl, ho7, hb7⟩
                have OM := Lib.hid (OM.out.on hb7)
                have GM := Lib.hid (GM.out.trans (hb7.mono GM.out.size))
                have KM := Lib.hid (show ∀ cs t, t ≠ 5 → (Box W6 wo.heap.size cs t → Box w7 wo.heap.size cs t) ∧ (Box W6 n6 cs t → Box w7 n6 cs t) from fun cs t ht => ⟨fun h => ((KM.out cs t ht).1 h).later hb7, fun h => ((KM.out cs t ht).2 h).later hb7⟩)
                obtain ⟨A7, c7, e7, -⟩ := own_cap ho7
                subst e7
                have R7 := Lib.hid ho7.rd
                clear ho7 hb7 cj
                go_wp2_with (at_builtin; refine wpl_app_box rfl (.tmp 87) (.tmp 92) rfl w.heap.size _ _ _ (pre ++ accn) enn rfl rfl OM.out R7.out GM.out.size haln ?_; intro v8 w8 ho8 hb8 hk8)
                have OZ := Lib.hid (show OwnB w8 w.heap.size v8 (pre ++ encNs (ns.take (m + 1))) from by rw [HSN.out, ← List.append_assoc]; exact ho8)
                have GZ := Lib.hid (GM.out.trans hb8)
                have KZ := Lib.hid (show ∀ cs t, t ≠ 5 → (Box W6 wo.heap.size cs t → Box w8 wo.heap.size cs t) ∧ (Box W6 n6 cs t → Box w8 n6 cs t) from fun cs t ht => ⟨fun h => hk8 _ _ _ ht ((KM.out cs t ht).1 h), fun h => hk8 _ _ _ ht ((KM.out cs t ht).2 h)⟩)
                clear ho8 hb8 hk8
                go_roundw
                case rel => exact ⟨m + 1, by go_num, by omega, OZ.out, KZ.out, GZ.out⟩
                case measure => simp [intOf]; omega
              · have hke : ns.take m = ns := List.take_of_length_le (by omega)
                rw [hke] at OM hol
                have B7 := Lib.hid ((KM.out _ _ (by decide)).1 B6.out)
                have c6 := B7.out.cell 6 (.string uu) rfl
                generalize encNs ns = accn at *
                have haln : (pre ++ accn).length + ev.length ≤ 1099511627776 := by omega
                go_wp2_with fail
                refine (TV.out _).mono ?_
                rintro z w7 ⟨v7, rfl, ho7, hb7⟩
                have OM := Lib.hid (OM.out.on hb7)
                have GM := Lib.hid (GM.out.trans (hb7.mono GM.out.size))
                have B7 := Lib.hid (B7.out.later hb7)
                obtain ⟨A7, c7, e7, -⟩ := own_cap ho7
                subst e7
                have R7 := Lib.hid ho7.rd
                clear ho7 hb7 c6
                go_wp2_with (at_builtin; refine wpl_app_box rfl (.tmp 94) (.tmp 97) rfl w.heap.size _ _ _ (pre ++ accn) ev rfl rfl OM.out R7.out GM.out.size haln ?_; intro v8 w8 ho8 hb8 hk8; have d8 := (hk8 _ _ _ (by decide) B7.out).cell 0 (.string kk) rfl)
                have OZ := Lib.hid (show OwnB w8 w.heap.size v8 (en ++ encGo ⟨#[]⟩ (l.take (k + 1))) from by
                  have := ho8
                  rw [HS.out, HR.out, ← hpre] at *
                  simpa only [List.append_assoc] using this)
                have GZ := Lib.hid (GM.out.trans hb8)
                clear ho8 hb8 hk8
                go_roundw
                case rel => exact ⟨k + 1, by go_num, by omega, by rw [HK.out], OZ.out, GZ.out⟩
                case measure => simp [intOf]; omega
    · have zl : decide ((k : Int) < (l.length : Int)) = false := by rw [decide_eq_false_iff_not]; omega
      have hke : l.take k = l := List.take_of_length_le (by omega)
      rw [hke] at O
      go_wp2_with fail
      go_ret
      exact ⟨_, rfl, by rw [HE.out]; exact O.out, GW.out⟩
end Go.Proofs.YtefjdmlmmoeoaaaGreat
