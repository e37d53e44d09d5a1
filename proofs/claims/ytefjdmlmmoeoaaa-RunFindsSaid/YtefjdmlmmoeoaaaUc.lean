/- Layer 8: the bytes of a version behind another one, by the project. -/
import Derived.Test.YtefjdmlmmoeoaaaUa
import Derived.Test.YtefjdmlmmoeoaaaTb
import Derived.Test.YtefjdmlmmoeoaaaBE
namespace Go.Proofs.Ytefjdmlmmoeoaaa
open Go.RowKit
set_option linter.unusedVariables false

theorem rdI_on {w w' : World} {v : Value} {l : List Int} (h : RdI w w.heap.size v l) (hb : Below w.heap.size w w') : RdI w' w'.heap.size v l := RdV.on h hb
theorem rdS_on {w w' : World} {v : Value} {l : List ByteArray} (h : RdS w w.heap.size v l) (hb : Below w.heap.size w w') : RdS w' w'.heap.size v l := RdV.on h hb
theorem encT_one (s : ByteArray) : encTs [s] = encT s := by simp [encTs]

set_option maxHeartbeats 8000000 in
set_option maxRecDepth 100000 in
theorem blk_put (key : ByteArray) (v : Ver) (w : World) (hm : mayV v = true) (hk : key.size ≤ 1000) :
    Calls Try.prog 71 #[.string key, verV v] w fun e w' => ∃ v', e = .returned v' ∧ OwnB w' w.heap.size v' (encRest key v) ∧ Below w.heap.size w w' := by
  have hbd := numsV_bd hm
  have hsp := mayB_iff.1 (mayV_iff hm).2.1
  have hvs := (mayV_iff hm).2.2.1
  have hkp := may_key hm
  have hcl := com_le key v.key
  have hrs := restK_size key v
  have HE := Lib.hid (show encRest key v = encN (com key v.key) ++ encT (restK key v) ++ encNs (numsV v) ++ encT v.val from rfl)
  have CO := Lib.hid (fun w => blk_common key v.key w (by omega))
  have MK := Lib.hid (fun w => blk_mark v w)
  have HN := Lib.hid (fun n hn => Int.le_trans (hbd n hn).2 (by omega : (1099511627776 : Int) ≤ 9223372036854775807))
  have PUT1 := Lib.hid (fun w n h => vary_put (.slice none 0 0) (.slice (some ⟨n, 0, none⟩) 1 1) [] [(com key v.key : Int)] w (RdB.nil _ _) h (by simp) (by intro n hn; simp at hn; omega) (by simp))
  simp only [List.nil_append, show encNs [(com key v.key : Int)] = encN (com key v.key) from by simp [encNs]] at PUT1
  have h9 := encN_nine (com key v.key) (by omega)
  have hek := encT_len (restK key v) (by omega)
  have TXT1 := Lib.hid (fun w n u hu h => vary_text u (.slice (some ⟨n, 0, none⟩) 1 1) (encN (com key v.key)) [restK key v] w hu h (by omega) (by intro s hs; simp at hs; subst hs; omega) (by simp))
  rw [encT_one] at TXT1
  have hrk : restK key v = v.key.extract (com key v.key) v.key.size := rfl
  have hnv : numsV v = [v.b, v.e, v.s, v.sp.1, v.sp.2 - v.sp.1, if v.gone = true then 1 else 0] := rfl
  have hev := encT_len v.val (by omega)
  have HLE := Lib.hid (encNs_len (numsV v) HN.out)
  have hl6 : (numsV v).length = 6 := rfl
  generalize encRest key v = res at *
  generalize hrk2 : restK key v = rk at *
  clear hrk2
  generalize com key v.key = c at *
  generalize numsV v = ns at *
  generalize encN c = ec at *
  generalize encT rk = ek at *
  have HL2 := Lib.hid (show (ec ++ ek).length ≤ 137438953472 from by rw [List.length_append]; omega)
  clear hbd hm
  obtain ⟨kk, bb, ee, ss, ⟨xx, yy⟩, uu, gg⟩ := v
  unfold verV at MK ⊢
  simp only at *
  generalize (if gg = true then (1 : Int) else 0) = gn at *
  have BX := Lib.hid (Box.new w #[.string kk, .int .i64 bb, .int .i64 ee, .int .i64 ss, .int .i64 xx, .int .i64 yy, .string uu, .bool gg] 42 _ rfl)
  have G := Lib.hid (alloc_below w (.cells #[.string kk, .int .i64 bb, .int .i64 ee, .int .i64 ss, .int .i64 xx, .int .i64 yy, .string uu, .bool gg] 42))
  go_enter Try.func71, Try.ntmps71
  go_wp2_with fail
  generalize w.alloc (.cells #[.string kk, .int .i64 bb, .int .i64 ee, .int .i64 ss, .int .i64 xx, .int .i64 yy, .string uu, .bool gg] 42) = w0 at *
  have c0 := BX.out.cell 0 (.string kk) rfl
  go_wp2_with fail
  refine (CO.out _).mono ?_
  rintro z W0 ⟨rfl, hb⟩
  have BX := Lib.hid (BX.out.later hb)
  have G := Lib.hid (G.out.trans (hb.mono G.out.size))
  clear hb c0
  go_wp2_with fail
  have hck : (c : Int) ≤ (kk.size : Int) := by omega
  have hck2 : c ≤ kk.size := hcl.2
  have HRK := Lib.hid hrk
  clear hrk
  refine region_via (fun a' W => ∃ u12 u13 u18 u : Value, a' = ⟨#[.string key, .agg #[.string kk, .int .i64 bb, .int .i64 ee, .int .i64 ss, .int .i64 xx, .int .i64 yy, .string uu, .bool gg], undef, .pointer (some ⟨w.heap.size, 0, none⟩), .slice none 0 0, .int .i64 (c : Int), u, .string key, .pointer (some ⟨w.heap.size, 0, none⟩), .string kk, .int .i64 (c : Int), .int .i64 (c : Int), u12, u13, .pointer (some ⟨w.heap.size, 0, none⟩), .string kk, .int .i64 (c : Int), .string rk, u18, u, undef, undef, undef, undef, undef, undef, undef, undef, undef, undef, undef, undef, undef, undef, undef, undef, undef, undef, undef, undef, undef, undef, undef, undef, undef, undef, undef, undef, undef], []⟩ ∧ OwnB W W0.heap.size u (ec ++ ek) ∧ Below W0.heap.size W0 W) ?_ ?_
  · have HI : (fun W => Below W0.heap.size W0 W) W0.drew := (Below.refl _ _).drewN 1
    refine regk_start [] (fun W => Below W0.heap.size W0 W) (by kernel_rfl) ?_
    generalize W0.drew = y0 at *
    refine regk_free 0 11 (v := ?_) (T' := ?_) (fun _ => HI) (by kernel_rfl) (by kernel_rfl) (by kernel_rfl) (by kernel_rfl) (fun _ _ _ h => h) (fun o ho => ?_) ?_ ?_
    rotate_left 2
    · cases ho
      refine ⟨rfl, rfl, fun W => ?_⟩
      go_simp; (try with_reducible rfl)
    · simp only [List.setIfInBounds_toArray, List.set_cons_succ, List.set_cons_zero]; exact rfl
    refine regk_free 3 14 (v := ?_) (T' := ?_) (fun _ => HI) (by kernel_rfl) (by kernel_rfl) (by kernel_rfl) (by kernel_rfl) (fun _ _ _ h => h) (fun o ho => ?_) ?_ ?_
    rotate_left 2
    · cases ho
      refine ⟨rfl, rfl, fun W => ?_⟩
      go_simp; (try with_reducible rfl)
    · simp only [List.setIfInBounds_toArray, List.set_cons_succ, List.set_cons_zero]; exact rfl
    refine regk_take 4 15 (v := ?_) (T' := ?_) HI (by kernel_rfl) (by kernel_rfl) (by kernel_rfl) (by kernel_rfl) (by kernel_rfl) (by kernel_rfl) (fun _ _ _ h => h) (fun o ho => ?_) ?_ ?_
    rotate_left 2
    · cases ho
      refine ⟨rfl, rfl, fun W hW => ?_⟩
      have c0 := (BX.out.later (show Below W0.heap.size W0 W from hW)).cell 0 (.string kk) rfl
      go_simp; (try with_reducible rfl)
    · simp only [List.setIfInBounds_toArray, List.set_cons_succ, List.set_cons_zero]; exact rfl
    refine regk_free 5 16 (v := ?_) (T' := ?_) (fun _ => HI) (by kernel_rfl) (by kernel_rfl) (by kernel_rfl) (by kernel_rfl) (fun _ _ _ h => h) (fun o ho => ?_) ?_ ?_
    rotate_left 2
    · cases ho
      refine ⟨rfl, rfl, fun W => ?_⟩
      go_simp; (try with_reducible rfl)
    · simp only [List.setIfInBounds_toArray, List.set_cons_succ, List.set_cons_zero]; exact rfl
    refine regk_free 6 17 (v := ?_) (T' := ?_) (fun _ => HI) (by kernel_rfl) (by kernel_rfl) (by kernel_rfl) (by kernel_rfl) (fun _ _ _ h => h) (fun o ho => ?_) ?_ ?_
    rotate_left 2
    · cases ho
      refine ⟨rfl, rfl, fun W => ?_⟩
      go_simp; rw [← HRK.out]; (try with_reducible rfl)
    · simp only [List.setIfInBounds_toArray, List.set_cons_succ, List.set_cons_zero]; exact rfl
    refine regk_fork 1 7 (by kernel_rfl) ?_ ?_
    ·
      refine fork_make 1 12 (v := .slice (some ⟨y0.heap.size, 0, none⟩) 1 1) (w' := y0.alloc (.cells #[.int .i64 (c : Int)] 3)) (T' := ?_) (by kernel_rfl) (fun o ho => ?_) ?_ ?_
      rotate_left
      · cases ho
        refine ⟨rfl, rfl, ?_⟩
        go_simp; (try (constructor <;> with_reducible rfl)); (try with_reducible rfl)
      · simp only [List.setIfInBounds_toArray, List.set_cons_succ, List.set_cons_zero]; exact rfl
      refine ⟨fun _ => (show Below W0.heap.size W0 y0 from HI).alloc (show Below W0.heap.size W0 y0 from HI).size _, ?_⟩
      try (replace N2 := Lib.hid (rdS_on N2.out (alloc_below y0 (.cells #[.int .i64 (c : Int)] 3))))
      have N1 := Lib.hid (show RdI (y0.alloc (.cells #[.int .i64 (c : Int)] 3)) (y0.alloc (.cells #[.int .i64 (c : Int)] 3)).heap.size (.slice (some ⟨y0.heap.size, 0, none⟩) 1 1) [(c : Int)] from RdV.lit y0 _ _ [(c : Int)] 1 _ rfl rfl (by simp) (by simp))
      have HI : (fun W => Below W0.heap.size W0 W) (y0.alloc (.cells #[.int .i64 (c : Int)] 3)) := (show Below W0.heap.size W0 y0 from HI).alloc (show Below W0.heap.size W0 y0 from HI).size _
      generalize y0.alloc (.cells #[.int .i64 (c : Int)] 3) = y1 at *
      generalize y0.heap.size = n1 at *
      refine regk_fork 2 7 (by kernel_rfl) ?_ ?_
      ·
        refine fork_call 2 13 (by kernel_rfl) 31 #[.slice none 0 0, .slice (some ⟨n1, 0, none⟩) 1 1] (fun o ho => by cases ho; exact ⟨rfl, rfl, fun W => by go_simp⟩) ?_
        refine (PUT1.out y1 n1 N1.out).mono ?_
        rintro e y2 ⟨v1, rfl, ho, hb⟩
        have HI : (fun W => Below W0.heap.size W0 W) y2 := (show Below W0.heap.size W0 y1 from HI).trans (hb.mono (show Below W0.heap.size W0 y1 from HI).size)
        have V1 := Lib.hid ho.rd
        try (replace N2 := Lib.hid (rdS_on N2.out hb))
        clear ho hb
        refine ⟨_, _, rfl, (by simp only [List.setIfInBounds_toArray, List.set_cons_succ, List.set_cons_zero]; exact rfl), fun _ => HI, ?_⟩
        refine regk_make (I' := (fun W => Below W0.heap.size W0 W)) (fun _ h => h) 7 18 (v := .slice (some ⟨y2.heap.size, 0, none⟩) 1 1) (w' := y2.alloc (.cells #[.string rk] 9)) (T' := ?_) (by kernel_rfl) (fun o ho => ?_) (fun _ => ?_) ?_ ?_
        rotate_left
        · cases ho
          refine ⟨rfl, rfl, ?_⟩
          go_simp; (try (constructor <;> with_reducible rfl)); (try with_reducible rfl)
        · exact (show Below W0.heap.size W0 y2 from HI).alloc (show Below W0.heap.size W0 y2 from HI).size _
        · simp only [List.setIfInBounds_toArray, List.set_cons_succ, List.set_cons_zero]; exact rfl
        try (replace N1 := Lib.hid (rdI_on N1.out (alloc_below y2 (.cells #[.string rk] 9))))
        try (replace V1 := Lib.hid (RdB.on V1.out (alloc_below y2 (.cells #[.string rk] 9))))
        have N2 := Lib.hid (show RdS (y2.alloc (.cells #[.string rk] 9)) (y2.alloc (.cells #[.string rk] 9)).heap.size (.slice (some ⟨y2.heap.size, 0, none⟩) 1 1) [rk] from RdV.lit y2 _ _ [rk] 1 _ rfl rfl (by simp) (by simp))
        have HI : (fun W => Below W0.heap.size W0 W) (y2.alloc (.cells #[.string rk] 9)) := (show Below W0.heap.size W0 y2 from HI).alloc (show Below W0.heap.size W0 y2 from HI).size _
        generalize y2.alloc (.cells #[.string rk] 9) = y3 at *
        generalize y2.heap.size = n2 at *
        refine regk_call (I' := (fun W => Below W0.heap.size W0 W)) (fun _ h => h) 8 19 (by kernel_rfl) 57 #[v1, .slice (some ⟨n2, 0, none⟩) 1 1] (fun o ho => by cases ho; exact ⟨rfl, rfl, fun W => by go_simp⟩) ?_
        refine (TXT1.out y3 n2 v1 V1.out N2.out).mono ?_
        rintro e y4 ⟨v2, rfl, ho, hb⟩
        have HIO := HI
        have HI : (fun W => Below W0.heap.size W0 W) y4 := (show Below W0.heap.size W0 y3 from HI).trans (hb.mono (show Below W0.heap.size W0 y3 from HI).size)
        have O2 := Lib.hid (ownB_mono ho (show Below W0.heap.size W0 y3 from HIO).size)
        clear ho hb
        refine ⟨_, _, rfl, fun _ => HI, (by simp only [List.setIfInBounds_toArray, List.set_cons_succ, List.set_cons_zero]; exact rfl), ?_⟩
        refine regk_free 9 6 (v := ?_) (T' := ?_) (fun _ => HI) (by kernel_rfl) (by kernel_rfl) (by kernel_rfl) (by kernel_rfl) (fun _ _ _ h => h) (fun o ho => ?_) ?_ ?_
        rotate_left 2
        · cases ho
          refine ⟨rfl, rfl, fun W => ?_⟩
          go_simp; (try with_reducible rfl)
        · simp only [List.setIfInBounds_toArray, List.set_cons_succ, List.set_cons_zero]; exact rfl
        refine regk_done (by kernel_rfl) ?_
        exact Ends.mk ⟨_, _, _, _, rfl, O2.out, HI⟩
      ·
        refine fork_make 7 18 (v := .slice (some ⟨y1.heap.size, 0, none⟩) 1 1) (w' := y1.alloc (.cells #[.string rk] 9)) (T' := ?_) (by kernel_rfl) (fun o ho => ?_) ?_ ?_
        rotate_left
        · cases ho
          refine ⟨rfl, rfl, ?_⟩
          go_simp; (try (constructor <;> with_reducible rfl)); (try with_reducible rfl)
        · simp only [List.setIfInBounds_toArray, List.set_cons_succ, List.set_cons_zero]; exact rfl
        refine ⟨fun _ => (show Below W0.heap.size W0 y1 from HI).alloc (show Below W0.heap.size W0 y1 from HI).size _, ?_⟩
        try (replace N1 := Lib.hid (rdI_on N1.out (alloc_below y1 (.cells #[.string rk] 9))))
        try (replace V1 := Lib.hid (RdB.on V1.out (alloc_below y1 (.cells #[.string rk] 9))))
        have N2 := Lib.hid (show RdS (y1.alloc (.cells #[.string rk] 9)) (y1.alloc (.cells #[.string rk] 9)).heap.size (.slice (some ⟨y1.heap.size, 0, none⟩) 1 1) [rk] from RdV.lit y1 _ _ [rk] 1 _ rfl rfl (by simp) (by simp))
        have HI : (fun W => Below W0.heap.size W0 W) (y1.alloc (.cells #[.string rk] 9)) := (show Below W0.heap.size W0 y1 from HI).alloc (show Below W0.heap.size W0 y1 from HI).size _
        generalize y1.alloc (.cells #[.string rk] 9) = y5 at *
        generalize y1.heap.size = n2 at *
        refine regk_call (I' := (fun W => Below W0.heap.size W0 W)) (fun _ h => h) 2 13 (by kernel_rfl) 31 #[.slice none 0 0, .slice (some ⟨n1, 0, none⟩) 1 1] (fun o ho => by cases ho; exact ⟨rfl, rfl, fun W => by go_simp⟩) ?_
        refine (PUT1.out y5 n1 N1.out).mono ?_
        rintro e y6 ⟨v1, rfl, ho, hb⟩
        have HI : (fun W => Below W0.heap.size W0 W) y6 := (show Below W0.heap.size W0 y5 from HI).trans (hb.mono (show Below W0.heap.size W0 y5 from HI).size)
        have V1 := Lib.hid ho.rd
        try (replace N2 := Lib.hid (rdS_on N2.out hb))
        clear ho hb
        refine ⟨_, _, rfl, fun _ => HI, (by simp only [List.setIfInBounds_toArray, List.set_cons_succ, List.set_cons_zero]; exact rfl), ?_⟩
        refine regk_call (I' := (fun W => Below W0.heap.size W0 W)) (fun _ h => h) 8 19 (by kernel_rfl) 57 #[v1, .slice (some ⟨n2, 0, none⟩) 1 1] (fun o ho => by cases ho; exact ⟨rfl, rfl, fun W => by go_simp⟩) ?_
        refine (TXT1.out y6 n2 v1 V1.out N2.out).mono ?_
        rintro e y7 ⟨v2, rfl, ho, hb⟩
        have HIO := HI
        have HI : (fun W => Below W0.heap.size W0 W) y7 := (show Below W0.heap.size W0 y6 from HI).trans (hb.mono (show Below W0.heap.size W0 y6 from HI).size)
        have O2 := Lib.hid (ownB_mono ho (show Below W0.heap.size W0 y6 from HIO).size)
        clear ho hb
        refine ⟨_, _, rfl, fun _ => HI, (by simp only [List.setIfInBounds_toArray, List.set_cons_succ, List.set_cons_zero]; exact rfl), ?_⟩
        refine regk_free 9 6 (v := ?_) (T' := ?_) (fun _ => HI) (by kernel_rfl) (by kernel_rfl) (by kernel_rfl) (by kernel_rfl) (fun _ _ _ h => h) (fun o ho => ?_) ?_ ?_
        rotate_left 2
        · cases ho
          refine ⟨rfl, rfl, fun W => ?_⟩
          go_simp; (try with_reducible rfl)
        · simp only [List.setIfInBounds_toArray, List.set_cons_succ, List.set_cons_zero]; exact rfl
        refine regk_done (by kernel_rfl) ?_
        exact Ends.mk ⟨_, _, _, _, rfl, O2.out, HI⟩
    ·
      refine fork_make 7 18 (v := .slice (some ⟨y0.heap.size, 0, none⟩) 1 1) (w' := y0.alloc (.cells #[.string rk] 9)) (T' := ?_) (by kernel_rfl) (fun o ho => ?_) ?_ ?_
      rotate_left
      · cases ho
        refine ⟨rfl, rfl, ?_⟩
        go_simp; (try (constructor <;> with_reducible rfl)); (try with_reducible rfl)
      · simp only [List.setIfInBounds_toArray, List.set_cons_succ, List.set_cons_zero]; exact rfl
      refine ⟨fun _ => (show Below W0.heap.size W0 y0 from HI).alloc (show Below W0.heap.size W0 y0 from HI).size _, ?_⟩
      try (replace N1 := Lib.hid (rdI_on N1.out (alloc_below y0 (.cells #[.string rk] 9))))
      try (replace V1 := Lib.hid (RdB.on V1.out (alloc_below y0 (.cells #[.string rk] 9))))
      have N2 := Lib.hid (show RdS (y0.alloc (.cells #[.string rk] 9)) (y0.alloc (.cells #[.string rk] 9)).heap.size (.slice (some ⟨y0.heap.size, 0, none⟩) 1 1) [rk] from RdV.lit y0 _ _ [rk] 1 _ rfl rfl (by simp) (by simp))
      have HI : (fun W => Below W0.heap.size W0 W) (y0.alloc (.cells #[.string rk] 9)) := (show Below W0.heap.size W0 y0 from HI).alloc (show Below W0.heap.size W0 y0 from HI).size _
      generalize y0.alloc (.cells #[.string rk] 9) = y8 at *
      generalize y0.heap.size = n2 at *
      refine regk_make (I' := (fun W => Below W0.heap.size W0 W)) (fun _ h => h) 1 12 (v := .slice (some ⟨y8.heap.size, 0, none⟩) 1 1) (w' := y8.alloc (.cells #[.int .i64 (c : Int)] 3)) (T' := ?_) (by kernel_rfl) (fun o ho => ?_) (fun _ => ?_) ?_ ?_
      rotate_left
      · cases ho
        refine ⟨rfl, rfl, ?_⟩
        go_simp; (try (constructor <;> with_reducible rfl)); (try with_reducible rfl)
      · exact (show Below W0.heap.size W0 y8 from HI).alloc (show Below W0.heap.size W0 y8 from HI).size _
      · simp only [List.setIfInBounds_toArray, List.set_cons_succ, List.set_cons_zero]; exact rfl
      try (replace N2 := Lib.hid (rdS_on N2.out (alloc_below y8 (.cells #[.int .i64 (c : Int)] 3))))
      have N1 := Lib.hid (show RdI (y8.alloc (.cells #[.int .i64 (c : Int)] 3)) (y8.alloc (.cells #[.int .i64 (c : Int)] 3)).heap.size (.slice (some ⟨y8.heap.size, 0, none⟩) 1 1) [(c : Int)] from RdV.lit y8 _ _ [(c : Int)] 1 _ rfl rfl (by simp) (by simp))
      have HI : (fun W => Below W0.heap.size W0 W) (y8.alloc (.cells #[.int .i64 (c : Int)] 3)) := (show Below W0.heap.size W0 y8 from HI).alloc (show Below W0.heap.size W0 y8 from HI).size _
      generalize y8.alloc (.cells #[.int .i64 (c : Int)] 3) = y9 at *
      generalize y8.heap.size = n1 at *
      refine regk_call (I' := (fun W => Below W0.heap.size W0 W)) (fun _ h => h) 2 13 (by kernel_rfl) 31 #[.slice none 0 0, .slice (some ⟨n1, 0, none⟩) 1 1] (fun o ho => by cases ho; exact ⟨rfl, rfl, fun W => by go_simp⟩) ?_
      refine (PUT1.out y9 n1 N1.out).mono ?_
      rintro e y10 ⟨v1, rfl, ho, hb⟩
      have HI : (fun W => Below W0.heap.size W0 W) y10 := (show Below W0.heap.size W0 y9 from HI).trans (hb.mono (show Below W0.heap.size W0 y9 from HI).size)
      have V1 := Lib.hid ho.rd
      try (replace N2 := Lib.hid (rdS_on N2.out hb))
      clear ho hb
      refine ⟨_, _, rfl, fun _ => HI, (by simp only [List.setIfInBounds_toArray, List.set_cons_succ, List.set_cons_zero]; exact rfl), ?_⟩
      refine regk_call (I' := (fun W => Below W0.heap.size W0 W)) (fun _ h => h) 8 19 (by kernel_rfl) 57 #[v1, .slice (some ⟨n2, 0, none⟩) 1 1] (fun o ho => by cases ho; exact ⟨rfl, rfl, fun W => by go_simp⟩) ?_
      refine (TXT1.out y10 n2 v1 V1.out N2.out).mono ?_
      rintro e y11 ⟨v2, rfl, ho, hb⟩
      have HIO := HI
      have HI : (fun W => Below W0.heap.size W0 W) y11 := (show Below W0.heap.size W0 y10 from HI).trans (hb.mono (show Below W0.heap.size W0 y10 from HI).size)
      have O2 := Lib.hid (ownB_mono ho (show Below W0.heap.size W0 y10 from HIO).size)
      clear ho hb
      refine ⟨_, _, rfl, fun _ => HI, (by simp only [List.setIfInBounds_toArray, List.set_cons_succ, List.set_cons_zero]; exact rfl), ?_⟩
      refine regk_free 9 6 (v := ?_) (T' := ?_) (fun _ => HI) (by kernel_rfl) (by kernel_rfl) (by kernel_rfl) (by kernel_rfl) (fun _ _ _ h => h) (fun o ho => ?_) ?_ ?_
      rotate_left 2
      · cases ho
        refine ⟨rfl, rfl, fun W => ?_⟩
        go_simp; (try with_reducible rfl)
      · simp only [List.setIfInBounds_toArray, List.set_cons_succ, List.set_cons_zero]; exact rfl
      refine regk_done (by kernel_rfl) ?_
      exact Ends.mk ⟨_, _, _, _, rfl, O2.out, HI⟩
  rintro a' W1 ⟨u12, u13, u18, v2, rfl, ho, hb⟩
  have BX := Lib.hid (show Box W1.drew w.heap.size #[.string kk, .int .i64 bb, .int .i64 ee, .int .i64 ss, .int .i64 xx, .int .i64 yy, .string uu, .bool gg] 42 from (show Box W1 w.heap.size #[.string kk, .int .i64 bb, .int .i64 ee, .int .i64 ss, .int .i64 xx, .int .i64 yy, .string uu, .bool gg] 42 from BX.out.later hb))
  have G := Lib.hid (show Below w.heap.size w W1.drew from (G.out.trans (hb.mono G.out.size)).drew)
  have RV := Lib.hid (show RdB W1.drew W1.drew.heap.size v2 (ec ++ ek) from ho.rd)
  have hwr : IntKind.i64.wrap (yy - xx) = yy - xx := by rw [IntKind.wrap_i64]; omega
  have HNV := Lib.hid hnv
  clear ho hb hnv
  go_wp2_with fail
  refine reg_start (by kernel_rfl) ?_
  refine reg_take2 0 20 (v := ?_) (T' := ?_) (Later.refl _) (by kernel_rfl) (by kernel_rfl) (by kernel_rfl) (fun _ _ _ h => h) (fun o ho => ?_) ?_ ?_
  rotate_left 2
  · cases ho
    refine ⟨rfl, rfl, fun W hW => ?_⟩
    go_simp; (try with_reducible rfl)
  · simp only [List.setIfInBounds_toArray, List.set_cons_succ, List.set_cons_zero]; exact rfl
  refine reg_take2 1 21 (v := ?_) (T' := ?_) (Later.refl _) (by kernel_rfl) (by kernel_rfl) (by kernel_rfl) (fun _ _ _ h => h) (fun o ho => ?_) ?_ ?_
  rotate_left 2
  · cases ho
    refine ⟨rfl, rfl, fun W hW => ?_⟩
    go_simp; (try with_reducible rfl)
  · simp only [List.setIfInBounds_toArray, List.set_cons_succ, List.set_cons_zero]; exact rfl
  refine reg_take2 2 22 (v := ?_) (T' := ?_) (Later.refl _) (by kernel_rfl) (by kernel_rfl) (by kernel_rfl) (fun _ _ _ h => h) (fun o ho => ?_) ?_ ?_
  rotate_left 2
  · cases ho
    refine ⟨rfl, rfl, fun W hW => ?_⟩
    go_simp; (try with_reducible rfl)
  · simp only [List.setIfInBounds_toArray, List.set_cons_succ, List.set_cons_zero]; exact rfl
  refine reg_take2 3 23 (v := ?_) (T' := ?_) (Later.refl _) (by kernel_rfl) (by kernel_rfl) (by kernel_rfl) (fun _ _ _ h => h) (fun o ho => ?_) ?_ ?_
  rotate_left 2
  · cases ho
    refine ⟨rfl, rfl, fun W hW => ?_⟩
    have BW := BX.out.later hW
    have c := BW.cell 1 (.int .i64 bb) rfl
    go_simp; (try with_reducible rfl)
  · simp only [List.setIfInBounds_toArray, List.set_cons_succ, List.set_cons_zero]; exact rfl
  refine reg_take2 4 24 (v := ?_) (T' := ?_) (Later.refl _) (by kernel_rfl) (by kernel_rfl) (by kernel_rfl) (fun _ _ _ h => h) (fun o ho => ?_) ?_ ?_
  rotate_left 2
  · cases ho
    refine ⟨rfl, rfl, fun W hW => ?_⟩
    go_simp; (try with_reducible rfl)
  · simp only [List.setIfInBounds_toArray, List.set_cons_succ, List.set_cons_zero]; exact rfl
  refine reg_take2 5 25 (v := ?_) (T' := ?_) (Later.refl _) (by kernel_rfl) (by kernel_rfl) (by kernel_rfl) (fun _ _ _ h => h) (fun o ho => ?_) ?_ ?_
  rotate_left 2
  · cases ho
    refine ⟨rfl, rfl, fun W hW => ?_⟩
    go_simp; (try with_reducible rfl)
  · simp only [List.setIfInBounds_toArray, List.set_cons_succ, List.set_cons_zero]; exact rfl
  refine reg_take2 6 26 (v := ?_) (T' := ?_) (Later.refl _) (by kernel_rfl) (by kernel_rfl) (by kernel_rfl) (fun _ _ _ h => h) (fun o ho => ?_) ?_ ?_
  rotate_left 2
  · cases ho
    refine ⟨rfl, rfl, fun W hW => ?_⟩
    have BW := BX.out.later hW
    have c := BW.cell 2 (.int .i64 ee) rfl
    go_simp; (try with_reducible rfl)
  · simp only [List.setIfInBounds_toArray, List.set_cons_succ, List.set_cons_zero]; exact rfl
  refine reg_take2 7 27 (v := ?_) (T' := ?_) (Later.refl _) (by kernel_rfl) (by kernel_rfl) (by kernel_rfl) (fun _ _ _ h => h) (fun o ho => ?_) ?_ ?_
  rotate_left 2
  · cases ho
    refine ⟨rfl, rfl, fun W hW => ?_⟩
    go_simp; (try with_reducible rfl)
  · simp only [List.setIfInBounds_toArray, List.set_cons_succ, List.set_cons_zero]; exact rfl
  refine reg_take2 8 28 (v := ?_) (T' := ?_) (Later.refl _) (by kernel_rfl) (by kernel_rfl) (by kernel_rfl) (fun _ _ _ h => h) (fun o ho => ?_) ?_ ?_
  rotate_left 2
  · cases ho
    refine ⟨rfl, rfl, fun W hW => ?_⟩
    go_simp; (try with_reducible rfl)
  · simp only [List.setIfInBounds_toArray, List.set_cons_succ, List.set_cons_zero]; exact rfl
  refine reg_take2 9 29 (v := ?_) (T' := ?_) (Later.refl _) (by kernel_rfl) (by kernel_rfl) (by kernel_rfl) (fun _ _ _ h => h) (fun o ho => ?_) ?_ ?_
  rotate_left 2
  · cases ho
    refine ⟨rfl, rfl, fun W hW => ?_⟩
    have BW := BX.out.later hW
    have c := BW.cell 3 (.int .i64 ss) rfl
    go_simp; (try with_reducible rfl)
  · simp only [List.setIfInBounds_toArray, List.set_cons_succ, List.set_cons_zero]; exact rfl
  refine reg_take2 10 30 (v := ?_) (T' := ?_) (Later.refl _) (by kernel_rfl) (by kernel_rfl) (by kernel_rfl) (fun _ _ _ h => h) (fun o ho => ?_) ?_ ?_
  rotate_left 2
  · cases ho
    refine ⟨rfl, rfl, fun W hW => ?_⟩
    go_simp; (try with_reducible rfl)
  · simp only [List.setIfInBounds_toArray, List.set_cons_succ, List.set_cons_zero]; exact rfl
  refine reg_take2 11 31 (v := ?_) (T' := ?_) (Later.refl _) (by kernel_rfl) (by kernel_rfl) (by kernel_rfl) (fun _ _ _ h => h) (fun o ho => ?_) ?_ ?_
  rotate_left 2
  · cases ho
    refine ⟨rfl, rfl, fun W hW => ?_⟩
    go_simp; (try with_reducible rfl)
  · simp only [List.setIfInBounds_toArray, List.set_cons_succ, List.set_cons_zero]; exact rfl
  refine reg_take2 12 32 (v := ?_) (T' := ?_) (Later.refl _) (by kernel_rfl) (by kernel_rfl) (by kernel_rfl) (fun _ _ _ h => h) (fun o ho => ?_) ?_ ?_
  rotate_left 2
  · cases ho
    refine ⟨rfl, rfl, fun W hW => ?_⟩
    have BW := BX.out.later hW
    have c := BW.cell 4 (.int .i64 xx) rfl
    go_simp; (try with_reducible rfl)
  · simp only [List.setIfInBounds_toArray, List.set_cons_succ, List.set_cons_zero]; exact rfl
  refine reg_take2 13 33 (v := ?_) (T' := ?_) (Later.refl _) (by kernel_rfl) (by kernel_rfl) (by kernel_rfl) (fun _ _ _ h => h) (fun o ho => ?_) ?_ ?_
  rotate_left 2
  · cases ho
    refine ⟨rfl, rfl, fun W hW => ?_⟩
    go_simp; (try with_reducible rfl)
  · simp only [List.setIfInBounds_toArray, List.set_cons_succ, List.set_cons_zero]; exact rfl
  refine reg_take2 14 34 (v := ?_) (T' := ?_) (Later.refl _) (by kernel_rfl) (by kernel_rfl) (by kernel_rfl) (fun _ _ _ h => h) (fun o ho => ?_) ?_ ?_
  rotate_left 2
  · cases ho
    refine ⟨rfl, rfl, fun W hW => ?_⟩
    go_simp; (try with_reducible rfl)
  · simp only [List.setIfInBounds_toArray, List.set_cons_succ, List.set_cons_zero]; exact rfl
  refine reg_take2 15 35 (v := ?_) (T' := ?_) (Later.refl _) (by kernel_rfl) (by kernel_rfl) (by kernel_rfl) (fun _ _ _ h => h) (fun o ho => ?_) ?_ ?_
  rotate_left 2
  · cases ho
    refine ⟨rfl, rfl, fun W hW => ?_⟩
    have BW := BX.out.later hW
    have c := BW.cell 5 (.int .i64 yy) rfl
    go_simp; (try with_reducible rfl)
  · simp only [List.setIfInBounds_toArray, List.set_cons_succ, List.set_cons_zero]; exact rfl
  refine reg_take2 16 36 (v := ?_) (T' := ?_) (Later.refl _) (by kernel_rfl) (by kernel_rfl) (by kernel_rfl) (fun _ _ _ h => h) (fun o ho => ?_) ?_ ?_
  rotate_left 2
  · cases ho
    refine ⟨rfl, rfl, fun W hW => ?_⟩
    go_simp; (try with_reducible rfl)
  · simp only [List.setIfInBounds_toArray, List.set_cons_succ, List.set_cons_zero]; exact rfl
  refine reg_take2 17 37 (v := ?_) (T' := ?_) (Later.refl _) (by kernel_rfl) (by kernel_rfl) (by kernel_rfl) (fun _ _ _ h => h) (fun o ho => ?_) ?_ ?_
  rotate_left 2
  · cases ho
    refine ⟨rfl, rfl, fun W hW => ?_⟩
    go_simp; (try with_reducible rfl)
  · simp only [List.setIfInBounds_toArray, List.set_cons_succ, List.set_cons_zero]; exact rfl
  refine reg_take2 18 38 (v := ?_) (T' := ?_) (Later.refl _) (by kernel_rfl) (by kernel_rfl) (by kernel_rfl) (fun _ _ _ h => h) (fun o ho => ?_) ?_ ?_
  rotate_left 2
  · cases ho
    refine ⟨rfl, rfl, fun W hW => ?_⟩
    have BW := BX.out.later hW
    have c := BW.cell 4 (.int .i64 xx) rfl
    go_simp; (try with_reducible rfl)
  · simp only [List.setIfInBounds_toArray, List.set_cons_succ, List.set_cons_zero]; exact rfl
  refine reg_take2 19 39 (v := ?_) (T' := ?_) (Later.refl _) (by kernel_rfl) (by kernel_rfl) (by kernel_rfl) (fun _ _ _ h => h) (fun o ho => ?_) ?_ ?_
  rotate_left 2
  · cases ho
    refine ⟨rfl, rfl, fun W hW => ?_⟩
    go_simp; (try with_reducible rfl)
  · simp only [List.setIfInBounds_toArray, List.set_cons_succ, List.set_cons_zero]; exact rfl
  refine reg_take2 20 40 (v := ?_) (T' := ?_) (Later.refl _) (by kernel_rfl) (by kernel_rfl) (by kernel_rfl) (fun _ _ _ h => h) (fun o ho => ?_) ?_ ?_
  rotate_left 2
  · cases ho
    refine ⟨rfl, rfl, fun W hW => ?_⟩
    have BW := BX.out.later hW
    have c0 := BW.cell 0 (.string kk) rfl
    have c1 := BW.cell 1 (.int .i64 bb) rfl
    have c2 := BW.cell 2 (.int .i64 ee) rfl
    have c3 := BW.cell 3 (.int .i64 ss) rfl
    have c4 := BW.cell 4 (.int .i64 xx) rfl
    have c5 := BW.cell 5 (.int .i64 yy) rfl
    have c6 := BW.cell 6 (.string uu) rfl
    have c7 := BW.cell 7 (.bool gg) rfl
    go_simp; (try with_reducible rfl)
  · simp only [List.setIfInBounds_toArray, List.set_cons_succ, List.set_cons_zero]; exact rfl
  refine reg_call2 21 41 (Later.refl _) (by kernel_rfl) 89 #[.agg #[.string kk, .int .i64 bb, .int .i64 ee, .int .i64 ss, .int .i64 xx, .int .i64 yy, .string uu, .bool gg]] (fun o ho => by cases ho; exact ⟨rfl, rfl, fun W => by go_simp⟩) ?_
  refine (MK.out _).mono ?_
  rintro z x1 ⟨rfl, hb1⟩
  have BX := Lib.hid (BX.out.later hb1)
  have G := Lib.hid (G.out.trans (hb1.mono G.out.size))
  have RV := Lib.hid (RV.out.on hb1)
  refine ⟨_, _, rfl, hb1, (by simp only [List.setIfInBounds_toArray, List.set_cons_succ, List.set_cons_zero]; exact rfl), ?_⟩
  clear hb1
  refine reg_make2 22 42 (v := ?_) (w' := ?_) (T' := ?_) (Later.refl _) (by kernel_rfl) (fun o ho => ?_) ?_ ?_ ?_
  rotate_left 3
  · cases ho
    refine ⟨rfl, rfl, ?_⟩
    go_simp; constructor <;> with_reducible rfl
  · exact Later.alloc _ _
  · simp only [List.setIfInBounds_toArray, List.set_cons_succ, List.set_cons_zero]; exact rfl
  refine reg_call2 23 43 (Later.refl _) (by kernel_rfl) 31 #[v2, .slice (some ⟨x1.heap.size, 0, none⟩) 6 6] (fun o ho => by cases ho; exact ⟨rfl, rfl, fun W => by go_simp⟩) ?_
  refine (vary_put _ _ (ec ++ ek) ns _ (RV.out.on (alloc_below x1 _)) (RdV.lit x1 _ _ ns 6 _ (by rw [HNV.out]; rfl) (by rw [HNV.out]; rfl) (by simp) (by rw [HNV.out]; simp)) HL2.out HN.out (by rw [HNV.out]; simp)).mono ?_
  rintro z x3 ⟨v3, rfl, O3, hb3⟩
  have hb5 := (alloc_below x1 (.cells #[.int .i64 bb, .int .i64 ee, .int .i64 ss, .int .i64 xx, .int .i64 (yy - xx), .int .i64 gn] 3)).trans (hb3.mono (by simp))
  have BX := Lib.hid (BX.out.later hb5)
  have G := Lib.hid (G.out.trans (hb5.mono G.out.size))
  have R3 := Lib.hid O3.rd
  refine ⟨_, _, rfl, hb3, (by simp only [List.setIfInBounds_toArray, List.set_cons_succ, List.set_cons_zero]; exact rfl), ?_⟩
  clear hb3 hb5 O3
  refine reg_take2 24 6 (v := ?_) (T' := ?_) (Later.refl _) (by kernel_rfl) (by kernel_rfl) (by kernel_rfl) (fun _ _ _ h => h) (fun o ho => ?_) ?_ ?_
  rotate_left 2
  · cases ho
    refine ⟨rfl, rfl, fun W hW => ?_⟩
    go_simp; (try with_reducible rfl)
  · simp only [List.setIfInBounds_toArray, List.set_cons_succ, List.set_cons_zero]; exact rfl
  refine reg_done (by kernel_rfl) ?_
  have c6 := BX.out.cell 6 (.string uu) rfl
  have hle := HLE.out
  have hl7 : (ec ++ ek ++ encNs ns).length ≤ 137438953472 := by rw [List.length_append, List.length_append]; omega
  generalize encNs ns = en at *
  go_wp2_with fail
  refine (vary_text _ _ (ec ++ ek ++ en) [uu] _ (R3.out.on (alloc_below x3 _)) (RdV.lit x3 _ _ [uu] 1 _ rfl rfl (by simp) (by simp)) hl7 (by intro s hs; simp at hs; subst hs; omega) (by simp)).mono ?_
  rintro z x4 ⟨v4, rfl, ho4, hb4⟩
  have G4 := (G.out.trans ((alloc_below x3 _).mono G.out.size)).trans (hb4.mono (Nat.le_trans G.out.size (by simp)))
  go_wp2_with fail
  go_ret
  refine ⟨_, rfl, ?_, G4⟩
  have := ownB_mono ho4 (Nat.le_trans G.out.size (by simp))
  rw [HE.out, ← encT_one uu]
  exact this
end Go.Proofs.Ytefjdmlmmoeoaaa
