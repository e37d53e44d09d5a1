/- Layer 1: an argument that is bytes, opened; its first 200. -/
import Derived.Test.YtnapadpkfjpklaaOx
import Derived.Test.YtnapadpkfjpklaaOq
import Derived.ChangeSlices
namespace Go.Proofs.Ytnapadpkfjpklaa
open Go.RowKit Go.ChangeShapes Go.WideShapes Go.ChangeAt Go.Deep
set_option linter.unusedVariables false

theorem cells_u8 : Try.prog.cellsOf 5 = 1 := by kernel_rfl

theorem wf_u8 {n : Int} (h : (Lit.int .u8 n).wf = true) : 0 ≤ n ∧ n ≤ 255 := by
  simpa [Lit.wf, IntKind.min, IntKind.max, IntKind.signed, IntKind.bits] using h

theorem open_bytes {H : Type} {enc : TypeId × Value → H} {W : World} {v : Value} {d : DataW H} {p : List MemPlace} {r : Reach} {b0 : Nat} (hval : Value.okWide Try.prog W r b0 24 v)
    (h : DataW.Trod enc Try.prog W 0 (fun _ => true) true 24 v d p) (hlt : ∀ x ∈ p, x.block < W.heap.size) :
    ∃ l : List UInt8, RdB W W.heap.size v l := by
  obtain ⟨a0, len, cap, rfl⟩ := okWide_slice Try.underlying24 hval
  obtain ⟨fuel, hf⟩ := h
  rcases open_ints Try.underlying24 Try.underlying5 cells_u8 hf with ⟨hcs, hx⟩ | ⟨a, len', cap', zs, hcs, _, hl, hm, hz, hx, hcell, hwz⟩
  · simp [Value.cells] at hcs
    obtain ⟨rfl, rfl, rfl⟩ := hcs
    exact ⟨[], RdB.nil _ _⟩
  · simp [Value.cells] at hcs
    obtain ⟨rfl, rfl, rfl⟩ := hcs
    simp only [Prod.mk.injEq] at hx
    obtain ⟨rfl, rfl⟩ := hx
    simp only [if_true] at hz
    refine ⟨(zs.take len).map fun n => UInt8.ofNat n.toNat, some a, cap, ?_, ?_, by simpa [maxLen] using hm, fun hp => ?_⟩
    · rw [List.length_map, List.length_take, Nat.min_eq_left (by omega)]
    · rw [List.length_map, List.length_take]; omega
    · rw [List.length_map, List.length_take, Nat.min_eq_left (by omega)] at hp
      obtain ⟨b, off, spot⟩ := a
      have hspot : spot = none := by simpa [Addr.add] using World.cell?_spot (hcell 0 (by omega))
      subst hspot
      refine ⟨b, off, rfl, hlt (.cell b off) (MemPlace.mem_row.2 ⟨0, by omega, by simp⟩), fun k u hu => ?_⟩
      rw [List.getElem?_map, Option.map_eq_some_iff] at hu
      obtain ⟨n, hn, rfl⟩ := hu
      rw [List.getElem?_take] at hn
      split at hn
      · have hkl := (List.getElem?_eq_some_iff.1 hn).1
        have h1 := hcell k hkl
        rw [addr_plain] at h1
        rw [h1, List.getD_eq_getElem?_getD, hn]
        have hw := wf_u8 (hwz n (List.mem_of_getElem? hn))
        simp only [Option.getD_some]
        congr 2
        rw [UInt8.toNat_ofNat']
        omega
      · cases hn

theorem sl_head {w : World} {B : Nat} {v : Value} {l : List UInt8} (h : RdB w B v l) (m : Nat) (z : Int) (hz : z = (m : Int)) (hm : m ≤ l.length) :
    ∃ A c, (∀ W, (Instr.slice 24 v none (some (.int .i64 z)) none).run Try.prog W = .ok (.slice A m c) W) ∧ RdB w B (.slice A m c) (l.take m) := by
  subst hz
  obtain ⟨A, c, rfl, h1, h2, h3⟩ := h
  have ht : Try.prog.underlying 24 = some (.slice (Try.prog.elem 24)) := by simp [Program.elem, Try.underlying24]
  have he : Try.prog.elem 24 = 5 := by simp [Program.elem, Try.underlying24]
  have hl : (l.take m).length = m := by rw [List.length_take]; omega
  refine ⟨if c = 0 then A else A.map (·.add 0), c, fun W => ?_, ⟨_, c, by rw [hl], by rw [hl]; omega, by omega, fun hp => ?_⟩⟩
  · rw [run_slice_h W _ _ _ _ ht _ _ (by omega) (by omega), he, u8_size]
    simp [Result.andThen, sliced]
  · rw [hl] at hp
    obtain ⟨b, o, rfl, hb, hc⟩ := h3 (by omega)
    refine ⟨b, o, ?_, hb, fun j u hu => ?_⟩
    · rw [if_neg (by omega)]; simp [Addr.add]
    · rw [List.getElem?_take] at hu
      split at hu
      · exact hc j u hu
      · cases hu

theorem few_any (v : Value) (l : List UInt8) (w : World) (h : RdB w w.heap.size v l) :
    Calls Try.prog 17 #[v] w fun e w' => ∃ v', e = .returned v' ∧ RdB w w.heap.size v' (l.take 200) ∧ w = w' := by
  have H := Lib.hid h
  obtain ⟨A, c, rfl, h1, h2, -⟩ := h
  by_cases hl : 200 < l.length
  · obtain ⟨A2, c2, hsl, hr⟩ := sl_head H.out 200 200 rfl (by omega)
    have HR := Lib.hid hr
    clear hr
    go_enter Try.func17, Try.ntmps17
    go_wp2
    go_ret
    exact ⟨_, rfl, HR.out, rfl⟩
  · have ht := Lib.hid (show l.take 200 = l from List.take_of_length_le (by omega))
    go_enter Try.func17, Try.ntmps17
    go_wp2
    go_ret
    exact ⟨_, rfl, by rw [ht.out]; exact H.out, rfl⟩

theorem cmpParts_self : ∀ l : List PartD, cmpParts l l = 0
  | [] => rfl
  | p :: l => by
    unfold cmpParts
    have : cmpPart p p = 0 := by
      rcases p with ⟨_ | _, n, s⟩
      · simp [cmpPart, cmpInt]
      · simp [cmpPart, cmpStr_eq]
    rw [if_pos this, cmpParts_self l]
end Go.Proofs.Ytnapadpkfjpklaa
