/- Layer 4: how numbers, spans and pieces are laid; the document's ends. -/
import Derived.Test.YtlpakooogbaclaaSa
import Derived.Test.YtlpakooogbaclaaSm
import Derived.Test.YtlpakooogbaclaaBE
import Derived.Test.YtlpakooogbaclaaBapp
namespace Go.Proofs.Ytlpakooogbaclaa
open Go.RowKit
set_option linter.unusedVariables false

def intL : Lay Int := ⟨1, fun n => [.int .i64 n], fun _ => rfl, fun x u hu => by simp at hu; subst hu; rfl, by decide⟩
def spL : Lay Sp := ⟨2, fun s => [.int .i64 s.1, .int .i64 s.2], fun _ => rfl, fun x u hu => by simp at hu; rcases hu with rfl | rfl <;> rfl, by decide⟩
def pcL : Lay Pc := ⟨3, fun p => [.int .i64 p.1.1, .int .i64 p.1.2, .string p.2], fun _ => rfl, fun x u hu => by simp at hu; rcases hu with rfl | rfl | rfl <;> rfl, by decide⟩
theorem int_info : (Try.prog.info? 3).map (fun i => (i.zero, i.size, i.bytes)) = some (some (.int .i64 0), 1, 8) := by kernel_rfl
theorem sp_info : (Try.prog.info? 46).map (fun i => (i.zero, i.size, i.bytes)) = some (some (.agg #[.int .i64 0, .int .i64 0]), 2, 16) := by kernel_rfl
theorem pc_info : (Try.prog.info? 48).map (fun i => (i.zero, i.size, i.bytes)) = some (some (.agg #[.int .i64 0, .int .i64 0, .string ⟨#[]⟩]), 3, 32) := by kernel_rfl
abbrev RdI4 (w : World) (B : Nat) (v : Value) (l : List Int) : Prop := RdX intL w B v l
abbrev RdSp (w : World) (B : Nat) (v : Value) (l : List Sp) : Prop := RdX spL w B v l
abbrev RdPc (w : World) (B : Nat) (v : Value) (l : List Pc) : Prop := RdX pcL w B v l
abbrev OwnI (w : World) (base : Nat) (v : Value) (l : List Int) : Prop := OwnX intL 3 w base v l
abbrev OwnSp (w : World) (base : Nat) (v : Value) (l : List Sp) : Prop := OwnX spL 46 w base v l
abbrev OwnPc (w : World) (base : Nat) (v : Value) (l : List Pc) : Prop := OwnX pcL 48 w base v l

theorem RdI4.here {w : World} {B : Nat} {A : Option Addr} {n c : Nat} {l : List Int} (h : RdI4 w B (.slice A n c) l) (k : Nat) (hk : k < l.length) : ∃ b o, A = some ⟨b, o, none⟩ ∧ b < B ∧ w.cell? ⟨b, o + k, none⟩ = some (.int .i64 l[k]) := by
  obtain ⟨b, o, rfl, hb, hc⟩ := h.at k hk
  exact ⟨b, o, rfl, hb, by simpa [intL] using hc 0 _ rfl⟩
theorem RdSp.here {w : World} {B : Nat} {A : Option Addr} {n c : Nat} {l : List Sp} (h : RdSp w B (.slice A n c) l) (k : Nat) (hk : k < l.length) : ∃ b o, A = some ⟨b, o, none⟩ ∧ b < B ∧ w.cell? ⟨b, o + k * 2, none⟩ = some (.int .i64 l[k].1) ∧ w.cell? ⟨b, o + k * 2 + 1, none⟩ = some (.int .i64 l[k].2) := by
  obtain ⟨b, o, rfl, hb, hc⟩ := h.at k hk
  exact ⟨b, o, rfl, hb, hc 0 _ rfl, hc 1 _ rfl⟩
theorem RdPc.here {w : World} {B : Nat} {A : Option Addr} {n c : Nat} {l : List Pc} (h : RdPc w B (.slice A n c) l) (k : Nat) (hk : k < l.length) : ∃ b o, A = some ⟨b, o, none⟩ ∧ b < B ∧ w.cell? ⟨b, o + k * 3, none⟩ = some (.int .i64 l[k].1.1) ∧ w.cell? ⟨b, o + k * 3 + 1, none⟩ = some (.int .i64 l[k].1.2) ∧ w.cell? ⟨b, o + k * 3 + 2, none⟩ = some (.string l[k].2) := by
  obtain ⟨b, o, rfl, hb, hc⟩ := h.at k hk
  exact ⟨b, o, rfl, hb, hc 0 _ rfl, hc 1 _ rfl, hc 2 _ rfl⟩

theorem put_cons (x : Int) (r : List Int) (n : Int) : putL (x :: r) n = if x ≥ n then (if x > n then n :: x :: r else x :: r) else x :: putL r n := rfl

set_option maxHeartbeats 1000000 in
theorem ref_put (v : Value) (l : List Int) (n : Int) (w : World) (h : RdI4 w w.heap.size v l) (hl : l.length ≤ 1000000) :
    Calls Try.prog 63 #[v, .int .i64 n] w fun e w' => ∃ v', e = .returned v' ∧ OwnI w' w.heap.size v' (putL l n) ∧ Below w.heap.size w w' := by
  have H := Lib.hid h
  obtain ⟨A, c, rfl, hlc, hc, -⟩ := h
  go_enter Try.func63, Try.ntmps63
  go_wp2_with fail
  go_loopw [5, 6, 7] (fun x d i wr => ∃ (k : Nat) (o : List Int) (b : Bool), i = .int .i64 k ∧ d = .bool b ∧ k ≤ l.length ∧ o.length ≤ 2 * k ∧ OwnI wr w.heap.size x o ∧ o ++ (if b then l.drop k else putL (l.drop k) n) = putL l n ∧ Below w.heap.size w wr) (fun _ _ i _ => l.length - (intOf i).toNat)
  case atStart => exact ⟨0, [], false, rfl, rfl, by omega, by simp, OwnX.nil _ _, by simp, Below.refl _ _⟩
  case round =>
    obtain ⟨k, o, b, rfl, rfl, hk, hok, ho, heq, hb⟩ := hrel
    have O := Lib.hid ho
    have G := Lib.hid hb
    clear ho hb
    by_cases hlt : k < l.length
    · obtain ⟨bb, oo, rfl, hbb, hck⟩ := RdI4.here (H.out.below G.out) k hlt
      have hdk := List.drop_eq_getElem_cons hlt
      rw [hdk] at heq
      generalize l[k] = x at *
      have hol : o.length + 1 ≤ 1000000000 := by omega
      have hol2 : (o ++ [n]).length + 1 ≤ 1000000000 := by simp; omega
      cases b
      · rw [if_neg (by simp), put_cons] at heq
        by_cases h1 : x ≥ n
        · by_cases h2 : x > n
          · rw [if_pos h1, if_pos h2] at heq
            have EQ := Lib.hid heq
            clear heq hdk
            go_wp2_with (first
              | (at_builtin; refine wpl_appX rfl (.tmp 30) (.tmp 32) rfl Try.underlying65 int_info rfl w.heap.size _ o [n] _ _ _ rfl rfl rfl rfl O.out G.out.size hol (by decide) ?_; intro x1 w1 ho1 hg1 hb1; have hck1 := (hb1.cell (p := ⟨bb, oo + k, none⟩) hbb).trans hck)
              | (at_builtin; refine wpl_appX rfl (.tmp 34) (.tmp 39) rfl Try.underlying65 int_info rfl w.heap.size _ (o ++ [n]) [x] _ _ _ rfl rfl rfl rfl ho1 (Nat.le_trans G.out.size hb1.size) hol2 (by decide) ?_; intro x2 w2 ho2 hg2 hb2))
            go_roundw
            case rel => exact ⟨k + 1, o ++ [n] ++ [x], true, by go_num, rfl, by omega, by simp; omega, ho2, by rw [← EQ.out]; simp, (G.out.trans hb1).trans hb2⟩
            case measure => simp [intOf]; omega
          · rw [if_pos h1, if_neg h2] at heq
            have EQ := Lib.hid heq
            clear heq hdk
            go_wp2_with (at_builtin; refine wpl_appX rfl (.tmp 34) (.tmp 39) rfl Try.underlying65 int_info rfl w.heap.size _ o [x] _ _ _ rfl rfl rfl rfl O.out G.out.size hol (by decide) ?_; intro x2 w2 ho2 hg2 hb2)
            go_roundw
            case rel => exact ⟨k + 1, o ++ [x], true, by go_num, by first | rfl | simp, by omega, by simp; omega, ho2, by rw [← EQ.out]; simp, G.out.trans hb2⟩
            case measure => simp [intOf]; omega
        · rw [if_neg h1] at heq
          have EQ := Lib.hid heq
          clear heq hdk
          go_wp2_with (at_builtin; refine wpl_appX rfl (.tmp 34) (.tmp 39) rfl Try.underlying65 int_info rfl w.heap.size _ o [x] _ _ _ rfl rfl rfl rfl O.out G.out.size hol (by decide) ?_; intro x2 w2 ho2 hg2 hb2)
          go_roundw
          case rel => exact ⟨k + 1, o ++ [x], false, by go_num, by first | rfl | simp, by omega, by simp; omega, ho2, by rw [← EQ.out]; simp, G.out.trans hb2⟩
          case measure => simp [intOf]; omega
      · rw [if_pos rfl] at heq
        have EQ := Lib.hid heq
        clear heq hdk
        go_wp2_with (at_builtin; refine wpl_appX rfl (.tmp 34) (.tmp 39) rfl Try.underlying65 int_info rfl w.heap.size _ o [x] _ _ _ rfl rfl rfl rfl O.out G.out.size hol (by decide) ?_; intro x2 w2 ho2 hg2 hb2)
        go_roundw
        case rel => exact ⟨k + 1, o ++ [x], true, by go_num, by first | rfl | simp, by omega, by simp; omega, ho2, by rw [← EQ.out]; simp, G.out.trans hb2⟩
        case measure => simp [intOf]; omega
    · have hke : k = l.length := by omega
      have hd : l.drop k = [] := List.drop_eq_nil_iff.2 (by omega)
      rw [hd] at heq
      have hol : o.length + 1 ≤ 1000000000 := by omega
      have EQ := Lib.hid heq
      clear heq hd
      cases b
      · go_wp2_with (at_builtin; refine wpl_appX rfl (.tmp 43) (.tmp 45) rfl Try.underlying65 int_info rfl w.heap.size _ o [n] _ _ _ rfl rfl rfl rfl O.out G.out.size hol (by decide) ?_; intro x2 w2 ho2 hg2 hb2)
        go_ret
        exact ⟨_, rfl, by rw [← EQ.out]; exact ho2, G.out.trans hb2⟩
      · go_wp2_with fail
        go_ret
        exact ⟨_, rfl, by rw [← EQ.out]; simpa using O.out, G.out⟩
end Go.Proofs.Ytlpakooogbaclaa
