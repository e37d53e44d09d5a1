/- Layer 10, the project's: copies of lists, told as one, one by one. -/
import Derived.Test.YtnioiojafnkmhaaNk
import Derived.RangeFuncBound
import Derived.Shelf.Abstract
namespace Go.Proofs.Ytnioiojafnkmhaa
open Go.RowKit Go.Shelf
set_option linter.unusedVariables false

theorem clone_vers (v : Value) (l : List Ver) (w : World) (h : RdVr w w.heap.size v l) (hl : l.length ≤ 100000) :
    Calls Try.prog 28 #[v] w fun e w' => ∃ v', e = .returned v' ∧ OwnVr w' w.heap.size v' l ∧ Below w.heap.size w w' := by
  have H := Lib.hid h
  obtain ⟨A, c, rfl, hlc, hc, h3⟩ := h
  have hq := fun W => Lib.run_eql_slice_nil (P := Try.prog) W 24 33 A l.length c 0 0 Try.underlying24
  cases A with
  | none =>
    have h0 : l.length = 0 := by
      rcases Nat.eq_zero_or_pos l.length with h0 | h0
      · exact h0
      · obtain ⟨b, o, e, _⟩ := h3 h0; cases e
    have h1 := Lib.hid (List.eq_nil_of_length_eq_zero h0)
    clear h3 h0
    go_enter Try.func28, Try.ntmps28
    go_wp2
    go_ret
    refine ⟨_, rfl, ?_, by go_grown⟩
    rw [h1.out]; exact OwnX.nil _ _
  | some p =>
    clear h3
    have H2 := Lib.hid (H.out.on (alloc_below w (.cells #[] 33)))
    have O := Lib.hid (OwnX.new (L := verL) (e := 33) w #[] [] 0 rfl rfl (by simp))
    go_enter Try.func28, Try.ntmps28
    go_wp2_with (at_builtin; refine wpl_appX_rd rfl (.tmp 5) (.tmp 6) rfl Try.underlying24 ver_info rfl w.heap.size _ _ _ [] l rfl rfl O.out H2.out (by simp) (by simp; omega) (by decide) ?_; intro v1 w1 ho1 hg1 hb1)
    go_ret
    exact ⟨v1, rfl, ho1, (alloc_below w _).trans hb1⟩


theorem nvs_infoE : (Try.prog.info? 24).map (fun i => (i.zero, i.size, i.bytes)) = some (some (.slice none 0 0), 1, 24) := by kernel_rfl
theorem RdP.wide {α : Type} {L : Lay α} {Kp K2 : Nat → Prop} {B : Nat} {w : World} {v : Value} {l : List α} (h : RdP L Kp B w v l) (hk : ∀ k, Kp k → K2 k) : RdP L K2 B w v l := ⟨h.1, fun hp k hh => hk k (h.2 hp k hh)⟩
set_option maxHeartbeats 4000000 in
set_option maxRecDepth 100000 in
theorem each_k (va : Value) (ls : List (List Ver)) (w : World) (ha : RdXX verL w w.heap.size va ls) (hs : ∀ l ∈ ls, Asc lessV l) (hl : ls.flatten.length ≤ 1000) (hn : ls.length ≤ 1000) :
    Calls Try.prog 14 #[cmpF, va] w fun e W' => ∃ s1 s2 m, e = .returned (.func (.func 34) #[] #[.pointer (some ⟨s1, 0, none⟩), .pointer (some ⟨s2, 0, none⟩)]) ∧ Below w.heap.size w W' ∧ w.heap.size ≤ m ∧ m ≤ W'.heap.size ∧
      ∀ (T : TypeId → Bool) (Z : Prop) (n₀ : Nat), FreeV T → T 33 = true → Tells10 Try.prog Z T (fun k => w.heap.size ≤ k ∧ k < m) n₀ 34 #[.pointer (some ⟨s1, 0, none⟩), .pointer (some ⟨s2, 0, none⟩)] (fun v : Ver => #[verV v])
        (fun xs => xs = sortR lessV ls.flatten) (fun pre => ∃ post, pre ++ post = sortR lessV ls.flatten) 1000 W' := by
  have HA := Lib.hid ha
  have HS := Lib.hid hs
  have HL := Lib.hid hl
  have HN := Lib.hid hn
  obtain ⟨A, ca, rfl, hla, hca⟩ := ha.form
  clear ha hs hl hn hla hca
  unfold cmpF
  go_enter Try.func14, Try.ntmps14
  go_wp2_with fail
  go_loopw [5, 10] (fun x i wr => ∃ k : Nat, i = .int .i64 k ∧ k ≤ ls.length ∧ OwnXX verL 24 33 wr w.heap.size x (ls.take k) ∧ Below w.heap.size w wr) (fun _ i _ => ls.length - (intOf i).toNat)
  case atStart => exact ⟨0, rfl, Nat.zero_le _, OwnXX.nil _ _, Below.refl _ _⟩
  case round =>
    obtain ⟨k, rfl, hk, ho, hbw⟩ := hrel
    rename World => wo
    have O := Lib.hid ho
    have G := Lib.hid hbw
    clear ho hbw
    by_cases hlt : k < ls.length
    · have zl : decide ((k : Int) < (ls.length : Int)) = true := by simp; omega
      have hw64 : IntKind.i64.wrap ((k : Int) + 1) = (k : Int) + 1 := by rw [IntKind.wrap_i64]; have := HN.out; omega
      obtain ⟨b, o, a1, m1, rfl, hbb, c0, r1⟩ := (HA.out.below G.out).at k hlt
      have FT := Lib.hid (List.take_succ_eq_append_getElem hlt)
      have FL := Lib.hid (Nat.le_trans (flat_len ls k hlt) HL.out)
      generalize ls[k] = q at *
      have CL := Lib.hid (clone_vers _ q wo (r1.more G.out.size) (by have := FL.out; omega))
      clear r1 hbb
      go_wp2_with fail
      refine CL.out.mono ?_
      rintro z w1 ⟨v1, rfl, ho1, hb1⟩
      have O2 := Lib.hid (O.out.on hb1)
      have U2 := Lib.hid (ho1.mono G.out.size)
      have AP := Lib.hid (own_apart ho1 O.out (Nat.le_refl _))
      have G2 := Lib.hid (G.out.trans (hb1.mono G.out.size))
      have HK := Lib.hid (show (ls.take k).length ≤ 1000000000 from by rw [List.length_take]; have := HN.out; omega)
      obtain ⟨A9, c9, e9, -⟩ := ho1.rd
      subst e9
      clear ho1 hb1 CL O G
      go_wp2_with (at_builtin; refine wplXX_app (L := verL) (e1 := 24) (e := 33) rfl (.tmp 14) (.tmp 17) rfl Try.underlying22 nvs_infoE w.heap.size _ _ (ls.take k) q _ _ _ rfl rfl rfl rfl O2.out U2.out AP.out G2.out.size HK.out ?_; intro v5 w5 ho5 hg5 hb5)
      have OZ := Lib.hid (show OwnXX verL 24 33 w5 w.heap.size v5 (ls.take (k + 1)) from by rw [FT.out]; exact ho5)
      have GZ := Lib.hid (G2.out.trans hb5)
      clear ho5 hg5 hb5
      go_roundw
      case rel => exact ⟨k + 1, by go_num, by omega, OZ.out, GZ.out⟩
      case measure => simp [intOf]; omega
    · have hkl : k = ls.length := by omega
      subst hkl
      have zl : decide ((ls.length : Int) < (ls.length : Int)) = false := by simp
      have O3 := Lib.hid (show OwnXX verL 24 33 wo w.heap.size _ ls from by have := O.out; rw [List.take_length] at this; exact this)
      have RP := Lib.hid (RdPP.own O3.out)
      obtain ⟨A3, c3, hv3, -⟩ := RP.out.form
      subst hv3
      have MG := Lib.hid (run_merged_ver A3 ls.length c3 wo)
      unfold cmpF at MG
      clear hlt O O3
      go_wp2_with fail
      refine MG.out.mono ?_
      rintro e W2 ⟨rfl, hW2⟩
      have hB2 : Below wo.heap.size wo W2 := by rw [hW2]; exact ((Below.refl _ wo).alloc (Nat.le_refl _) _).alloc (by simp) _
      have B1 := Lib.hid (show Boxed W2 wo.heap.size 34 cmpF from by rw [hW2]; exact (Boxed.new wo _ _).alloc _)
      have B2 := Lib.hid (show Boxed W2 (wo.heap.size + 1) 22 (.slice A3 ls.length c3) from by
        rw [hW2]
        have := Boxed.new (wo.alloc (.cells #[cmpF] 34)) 22 (.slice A3 ls.length c3)
        rwa [World.size_alloc] at this)
      have GB := Lib.hid hB2
      clear hW2 hB2 MG
      go_wp2_with fail
      go_ret
      exact ⟨_, _, wo.heap.size, rfl, G.out.trans (GB.out.mono G.out.size), G.out.size, GB.out.size, fun T Z n₀ hT hV => tells_ver hT hV Z n₀ _ ls _ _ W2 B1.out B2.out ((RP.out.below GB.out).more GB.out.size) HS.out HL.out⟩
/-- A function is not nil. -/
theorem run_eql_func_nil {P : Program} (w : World) {t : TypeId} {d : TypeDesc} (ht : P.underlying t = some d) (hd : ∃ a b c, d = .func a b c) (f : Fn) (a b : Array Value) :
    (binOp .eql t (.func f a b) .nilFunc).run P w = .ok (.bool false) w := by
  obtain ⟨p, q, r, rfl⟩ := hd
  have h : ∀ d : Nat, (Op.equalIn (d + 1) t (.func f a b) .nilFunc).run P w = .ok false w := fun d => by
    simp [Op.equalIn, run_underlying ht]
  simp only [binOp]
  simp [Op.equal, Op.maxDepth, h 9999]
theorem lists_asc (ls : List (List Ver)) : ∀ l ∈ listsV ls, Asc lessV l := fun l hl => by
  obtain ⟨m, -, rfl⟩ := List.mem_map.1 hl
  exact sortR_asc ver_ahead _
theorem lists_len (ls : List (List Ver)) : ∀ l ∈ listsV ls, l.length ≤ 12 := fun l hl => by
  obtain ⟨m, -, rfl⟩ := List.mem_map.1 hl
  exact listV_len m
theorem lists_flat (ls : List (List Ver)) : (listsV (ls.take 5)).flatten.length ≤ 60 := by
  have key : ∀ L : List (List Ver), (∀ l ∈ L, l.length ≤ 12) → L.flatten.length ≤ L.length * 12 := by
    intro L
    induction L with
    | nil => intro _; simp
    | cons a L ih =>
      intro h
      rw [List.flatten_cons, List.length_append, List.length_cons]
      have h1 := h a List.mem_cons_self
      have h2 := ih fun l hl => h l (List.mem_cons_of_mem _ hl)
      omega
  have h1 := key _ (lists_len (ls.take 5))
  have h2 : (listsV (ls.take 5)).length ≤ 5 := by simp only [listsV, List.length_map, List.length_take]; omega
  omega
end Go.Proofs.Ytnioiojafnkmhaa
