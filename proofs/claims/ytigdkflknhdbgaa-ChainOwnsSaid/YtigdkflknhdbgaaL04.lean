/- ChainOwns: what is told is new: any versions (the first 40, few bytes), any key. -/
import Derived.Test.YtigdkflknhdbgaaDo
import Derived.Test.YtigdkflknhdbgaaCo
import Derived.Test.YtigdkflknhdbgaaCg
import Derived.BigQuiet
namespace Go.Proofs.Ytigdkflknhdbgaa.L04
open Go.RowKit Go.ChangeShapes Go.WideShapes Go.ChangeAt
set_option linter.unusedVariables false

set_option maxHeartbeats 8000000 in
set_option maxRecDepth 100000 in
theorem walk0 {Ch : Nat → World → (Nat → Prop) → Value → List Ver → Int → Prop} (K : ChF Ch) (LV : LivesC) (v : Value) (l : List PutC) (key : ByteArray) (w : World) (h : RdX putL w w.heap.size v l) (hok : ∀ x ∈ l, inK x.lv) :
    Calls Try.prog 6 #[v, .string key] w fun z w' => z = .returned (.bool true) ∧ Below w.heap.size w w' := by
  have FI := Lib.hid (law13_filled K v l w h hok)
  have K := Lib.hid K
  have LV := Lib.hid LV
  obtain ⟨A, ca, rfl, -⟩ := id h
  clear h hok
  go_enter Try.func6, Try.ntmps6
  go_wp2_with fail
  refine FI.out.mono ?_
  rintro z w1 ⟨g, S, vr, r, ht, rfl, hc, hsb, ho, hns, hgood, hrl, hb1⟩
  have C := Lib.hid hc
  have HSB := Lib.hid hsb
  have O := Lib.hid ho
  have HNS := Lib.hid hns
  have GOOD := Lib.hid hgood
  have HR := Lib.hid (show r.length ≤ 1000 from by omega)
  have HR2 := Lib.hid (show r.length ≤ 20000 from by omega)
  have G := Lib.hid hb1
  obtain ⟨Ar, cr, ev, -⟩ := ho.rd
  subst ev
  clear hc hsb ho hns hgood hrl hb1 FI
  go_wp2_with fail
  refine (K.out.of _ _ _ _ _ key C.out HR.out).mono ?_
  rintro z w2 ⟨v2, rfl, ho2, hb2⟩
  have P2 := Lib.hid ho2
  have LT2 := Lib.hid (fun j hj => (OwnX.lt ho2 j hj).2)
  have F2 := Lib.hid (show (r.filter fun v => decide (v.key = key)).length ≤ 1000 from Nat.le_trans (List.length_filter_le _ _) HR.out)
  have C2 := Lib.hid (K.out.on C.out hb2)
  have B2 := Lib.hid hb2
  generalize (r.filter fun v => decide (v.key = key)) = fr at *
  obtain ⟨A2, c2, ev, -⟩ := ho2.rd
  subst ev
  clear ho2 hb2
  go_wp2_with fail
  refine (K.out.all _ _ _ _ _ C2.out HR.out).mono ?_
  rintro z w3 ⟨v3, rfl, ho3, hb3⟩
  have P2 := Lib.hid (P2.out.on hb3)
  have P3 := Lib.hid ho3
  have GE3 := Lib.hid (fun j hj => OwnX.base ho3 j hj)
  have B3 := Lib.hid (B2.out.trans (hb3.mono B2.out.size))
  have S12 := Lib.hid B2.out.size
  obtain ⟨A3, c3, ev, -⟩ := ho3.rd
  subst ev
  clear ho3 hb3 C2 B2
  go_wp2_with fail
  go_loopw [10] (fun i wr => ∃ (k : Nat) (la : List Ver), i = .int .i64 k ∧ k ≤ fr.length ∧ la.length = fr.length ∧ OwnVr wr w1.heap.size (.slice A2 fr.length c2) la ∧ OwnVr wr w2.heap.size (.slice A3 r.length c3) r ∧ Below w1.heap.size w1 wr) (fun i _ => fr.length - (intOf i).toNat)
  case atStart => exact ⟨0, fr, rfl, Nat.zero_le _, rfl, P2.out, P3.out, B3.out⟩
  case round =>
    obtain ⟨k, la, rfl, hk, hla, ho2, ho3, hbw⟩ := hrel
    rename World => wo
    have B := Lib.hid hbw
    have P2 := Lib.hid ho2
    have P3 := Lib.hid ho3
    have HLA := Lib.hid hla
    clear hbw
    by_cases hlt : k < fr.length
    · have zl : decide ((k : Int) < (fr.length : Int)) = true := by simp; omega
      have hki : (k : Int) < (fr.length : Int) := by omega
      have hw64 : IntKind.i64.wrap ((k : Int) + 1) = (k : Int) + 1 := by rw [IntKind.wrap_i64]; have := F2.out; omega
      obtain ⟨gg, cc, eA, hg1, hg2⟩ := ho2.pos (by omega)
      rw [hla] at eA
      cases eA
      have hkl : k < la.length := by omega
      obtain ⟨x, hx⟩ : ∃ x, la[k] = x := ⟨_, rfl⟩
      obtain ⟨k1, b1, e1, s1, ⟨x1, y1⟩, u1, g1⟩ := x
      have cv := OwnX.cell ho2 k hkl 6 (.string u1) (by rw [hx]; rfl)
      have fv := OwnX.frozen ho2 (k * 8 + 6)
      have ST := Lib.hid (And.left <| OwnX.stored ho2 k hkl 6 (by decide) (.string ⟨#[116, 117, 114, 110, 101, 100]⟩) ⟨k1, b1, e1, s1, (x1, y1), ⟨#[116, 117, 114, 110, 101, 100]⟩, g1⟩ (by rw [hx]; rfl))
      have P3' := Lib.hid (OwnX.apart ho3 (w' := wo.setCell ⟨gg, k * 8 + 6, none⟩ (.string ⟨#[116, 117, 114, 110, 101, 100]⟩)) (n := gg) (fun i hi _ => Below.heap_setCell wo ⟨gg, k * 8 + 6, none⟩ _ i hi) (fun e => by have h1 := GE3.out gg e; have h2 := LT2.out gg rfl; omega))
      have B' := Lib.hid (B.out.setCell (p := ⟨gg, k * 8 + 6, none⟩) hg1 (.string ⟨#[116, 117, 114, 110, 101, 100]⟩))
      have HK := Lib.hid hlt
      simp only [show verL.sz = 8 from rfl] at cv ST
      clear hla ho2 ho3 hx hkl hg1 hg2
      go_wp2_with fail
      go_roundw
      case rel => exact ⟨k + 1, la.set k ⟨k1, b1, e1, s1, (x1, y1), ⟨#[116, 117, 114, 110, 101, 100]⟩, g1⟩, by go_num, by have := HK.out; omega, by rw [List.length_set]; exact HLA.out, ST.out, P3'.out, B'.out⟩
      case measure => simp [intOf]; have := HK.out; omega
    · have zl : decide ((k : Int) < (fr.length : Int)) = false := by rw [decide_eq_false_iff_not]; omega
      have zln : decide (k < fr.length) = false := by rw [decide_eq_false_iff_not]; omega
      clear hlt hla ho2 ho3 P2
      go_wp2_with fail
      go_loopw [11] (fun i wr => ∃ (k : Nat) (la : List Ver), i = .int .i64 k ∧ k ≤ r.length ∧ la.length = r.length ∧ OwnVr wr w2.heap.size (.slice A3 r.length c3) la ∧ Below w1.heap.size w1 wr) (fun i _ => r.length - (intOf i).toNat)
      case atStart => exact ⟨0, r, rfl, Nat.zero_le _, rfl, P3.out, B.out⟩
      case round =>
        obtain ⟨k2, lb, rfl, hk2, hlb, ho3, hbw⟩ := hrel
        rename World => wp
        have B := Lib.hid hbw
        have HLB := Lib.hid hlb
        clear hbw P3
        by_cases hlt : k2 < r.length
        · have zk : decide ((k2 : Int) < (r.length : Int)) = true := by simp; omega
          have hki : (k2 : Int) < (r.length : Int) := by omega
          have hw64 : IntKind.i64.wrap ((k2 : Int) + 1) = (k2 : Int) + 1 := by rw [IntKind.wrap_i64]; have := HR.out; omega
          obtain ⟨gg, cc, eA, hg1, hg2⟩ := ho3.pos (by omega)
          rw [hlb] at eA
          cases eA
          have hkl : k2 < lb.length := by omega
          obtain ⟨x, hx⟩ : ∃ x, lb[k2] = x := ⟨_, rfl⟩
          obtain ⟨k1, b1, e1, s1, ⟨x1, y1⟩, u1, g1⟩ := x
          have cv := OwnX.cell ho3 k2 hkl 6 (.string u1) (by rw [hx]; rfl)
          have fv := OwnX.frozen ho3 (k2 * 8 + 6)
          have ST := Lib.hid (And.left <| OwnX.stored ho3 k2 hkl 6 (by decide) (.string ⟨#[116, 117, 114, 110, 101, 100]⟩) ⟨k1, b1, e1, s1, (x1, y1), ⟨#[116, 117, 114, 110, 101, 100]⟩, g1⟩ (by rw [hx]; rfl))
          have B' := Lib.hid (B.out.setCell (p := ⟨gg, k2 * 8 + 6, none⟩) (Nat.le_trans S12.out hg1) (.string ⟨#[116, 117, 114, 110, 101, 100]⟩))
          have HK := Lib.hid hlt
          simp only [show verL.sz = 8 from rfl] at cv ST
          clear hlb ho3 hx hkl hg1 hg2
          go_wp2_with fail
          go_roundw
          case rel => exact ⟨k2 + 1, lb.set k2 ⟨k1, b1, e1, s1, (x1, y1), ⟨#[116, 117, 114, 110, 101, 100]⟩, g1⟩, by go_num, by have := HK.out; omega, by rw [List.length_set]; exact HLB.out, ST.out, B'.out⟩
          case measure => simp [intOf]; have := HK.out; omega
        · have zk : decide ((k2 : Int) < (r.length : Int)) = false := by rw [decide_eq_false_iff_not]; omega
          have zkn : decide (k2 < r.length) = false := by rw [decide_eq_false_iff_not]; omega
          have CE := Lib.hid (K.out.on C.out B.out)
          have OE := Lib.hid (O.out.on B.out)
          have G := Lib.hid (G.out.trans (B.out.mono G.out.size))
          clear hlt hlb ho3
          go_wp2_with fail
          refine (law13_like K.out _ _ _ _ _ _ CE.out OE.out.rd HR.out).mono ?_
          rintro z w8 ⟨rfl, hb⟩
          have G := Lib.hid (G.out.trans (hb.mono G.out.size))
          clear hb
          go_wp2_with fail
          refine (LV.out _).mono ?_
          rintro z w9 ⟨rfl, hb⟩
          have G := Lib.hid (G.out.trans (hb.mono G.out.size))
          clear hb
          go_wp2_with fail
          go_ret
          exact ⟨rfl, G.out⟩
-- END
set_option maxRecDepth 100000 in
theorem lifted (os : Os) (started : os.Started) (H : Type) (enc : TypeId × Value → H) :
    ReturnsInHanded {} Try.checked os 6 .any (Rows.chainOwnsSpec.pre6 enc Try.prog Try.f6 Rows.chainOwnsRow.domain false) (Rows.chainOwnsSpec.post enc Try.prog Try.f6 false true false false) := by
  refine returnsInHanded_of_change (C := Try.checked) Try.own started (by kernel_rfl) Try.func6
    (ChangeSpec.witness6 (enc := enc) (C := Try.checked) false ⟨#[], #[.slice none 0 0, .string ⟨#[]⟩], []⟩ 8 (by kernel_rfl) (by kernel_rfl) (by kernel_rfl) (by kernel_rfl)) ?_
  intro W base args ds gs before hval0 hW _ _
  have hval : ∀ (j : Nat) t v, Try.f6.params[j]? = some t → args[j]? = some v → Value.okWide Try.prog W .any base t v := hval0
  have hW' := hW
  obtain ⟨p, q, hA0, hV, rfl, _, _⟩ := hW
  have hA : DataW.TrodAll enc Try.prog W 0 (fun _ => true) true Try.f6.params.toList args.toList ds p := hA0
  rw [Try.params6] at hA hval
  obtain ⟨v0, v1, d0, d1, p0, p1, rfl, rfl, rfl, h0, h1⟩ := trodAll_two hA
  obtain ⟨rfl, rfl⟩ := trodVars_none hV
  have hlt := fun x hx => hW'.lt x hx
  obtain ⟨a0, r0, b0⟩ := open_puts (hval 0 _ v0 rfl rfl) h0 (fun x hx => by simpa using hlt x (by simp [hx]))
  obtain ⟨a1, rfl, rfl, rfl, w1⟩ := ChangeMaps.open_string Try.underlying9 (hval 1 _ v1 rfl rfl) h1
  simp only [maxLen] at w1
  refine (walk0 ch_k lives_c v0 a0 a1 _ r0 b0).mono fun e W' ⟨he, hb⟩ => ⟨_, he, ?_⟩
  exact law_post Try.laidOut (by decide +kernel) rfl Try.underlying4 rfl hW' rfl hb

theorem holds : Rows.ChainOwnsSaid :=
  OpenClaim.holds_of_wide 6 Try.f6 rfl rfl rfl rfl rfl rfl rfl ⟨rfl, rfl, rfl, rfl, rfl⟩ rfl rfl rfl rfl rfl (by kernel_rfl) Try.func6 (by kernel_rfl)
    (of_decide_eq_true (by kernel_rfl)) (by unfold Func.isWrapper; first | (rw [if_pos (by decide +kernel)]; kernel_rfl) | (rw [if_neg (by decide +kernel)]; exact ⟨rfl, rfl⟩))
    (fun os started H enc _ => lifted os started H enc)
end Go.Proofs.Ytigdkflknhdbgaa.L04
