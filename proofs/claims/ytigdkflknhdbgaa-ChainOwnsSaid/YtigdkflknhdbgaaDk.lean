/- Layer 13: what a function tells of a version, asked under a deferred recover; whether a version is among those that go. -/
import Derived.Test.YtigdkflknhdbgaaDb
import Derived.Test.YtigdkflknhdbgaaDc
import Derived.Test.YtigdkflknhdbgaaCe
import Derived.Defers
import Derived.Recover
namespace Go.Proofs.Ytigdkflknhdbgaa
open Go.RowKit Go.Shelf
set_option linter.unusedVariables false

/-- A deferred closure that finds nothing to recover. -/
theorem catch_is (w : World) :
    CallsD Try.prog 51 #[] .returning w fun e u' w' => e = .returned (.tuple #[]) ∧ u' = .returning ∧ w' = w := by
  refine callsD_of_wpS Try.func51 rfl fun c₀ cs hu => ?_
  apply wpS_region
  simp [wpOpsS, go_sem, recoverD, hu, Try.ntmps51]
  cases c₀
  simp_all [bodyPostS, results, Try.results51]
set_option maxHeartbeats 1000000 in
theorem p_stays (fa : Nat) (q : Ver → Bool) (hq : AsksV fa q) (v : Ver) (w : World) :
    Calls Try.prog 33 #[.func (.func fa) #[] #[], verV v] w fun e w' => e = .returned (.bool (q v)) ∧ Below w.heap.size w w' := by
  have hmf : ∀ (fn : Fn) (first cap : Array Value) (w : World), (Instr.makeFunc fn first cap).run Try.prog w = .ok (.func fn first cap) w := fun _ _ _ _ => rfl
  have K := Lib.hid (hq.2 v)
  have ENT := hq.1
  generalize q v = res at *
  obtain ⟨k1, b1, e1, s1, ⟨x1, y1⟩, u1, g1⟩ := v
  unfold verV at *
  simp only at *
  have B1 := Lib.hid (Box.new w #[.string k1, .int .i64 b1, .int .i64 e1, .int .i64 s1, .int .i64 x1, .int .i64 y1, .string u1, .bool g1] 47 w.heap.size rfl)
  have G := Lib.hid (alloc_below w (.cells #[.string k1, .int .i64 b1, .int .i64 e1, .int .i64 s1, .int .i64 x1, .int .i64 y1, .string u1, .bool g1] 47))
  clear hq
  go_enter_defers Try.func33, Try.ntmps33
  go_wp2_with fail
  refine (K.out _).mono ?_
  rintro z w1 ⟨rfl, hw1⟩
  have G1 := Lib.hid (G.out.trans (hw1.mono G.out.size))
  clear hw1
  go_wp2_with fail
  refine leaves_cons (f := 51) (args := #[]) (by simp) (by simp [go_sem]) ?_
  refine (catch_is _).mono ?_
  rintro e u' w2 ⟨rfl, rfl, rfl⟩
  simp only [Leaves, settle]
  rw [results_tmp (Try.results33)]
  go_simp
  exact G1.out

/-- A version is among those that go. -/
def goneA (l : List Ver) (v : Ver) : Bool := l.any (alikeV v)
def GoneW (gb : Nat) (A : Option Addr) (c : Nat) (l : List Ver) (W : World) : Prop := Box W gb #[.slice A l.length c] 24 ∧ RdVr W W.heap.size (.slice A l.length c) l
theorem GoneW.on {gb c : Nat} {A : Option Addr} {l : List Ver} {W W' : World} (h : GoneW gb A c l W) (hb : Below W.heap.size W W') : GoneW gb A c l W' := ⟨h.1.later hb, h.2.on hb⟩
theorem GoneW.keep {gb c : Nat} {A : Option Addr} {l : List Ver} {W W' : World} (h : GoneW gb A c l W) {row : Option Nat} (hg : W.grownBy W' row) (h1 : row ≠ some gb) (h2 : 0 < l.length → row ≠ (Value.slice A l.length c).ownBlock) : GoneW gb A c l W' :=
  ⟨h.1.keep hg (fun e => h1 e.symm), h.2.grown hg fun hp => .inr fun e => h2 hp e.symm⟩
set_option maxHeartbeats 1000000 in
set_option maxRecDepth 100000 in
theorem p_gone (l : List Ver) (hs : AscV l) (hl : l.length ≤ 1000) (gb : Nat) (A : Option Addr) (c : Nat) :
    AsksW 53 #[.pointer (some ⟨gb, 0, none⟩)] (goneA l) (GoneW gb A c l) := fun v W hW => by
  have BS := Lib.hid (fun w h => p_bsearch (.slice A l.length c) l v w h hl)
  have FAN := Lib.hid (fun i (h : FoundV l (fun a => cmpV a v) i) => found_any hs h)
  have HG := Lib.hid (show goneA l v = l.any (alikeV v) from rfl)
  generalize goneA l v = res at *
  rw [← HG.out] at FAN
  have hv : verL.enc v = [.string v.key, .int .i64 v.b, .int .i64 v.e, .int .i64 v.s, .int .i64 v.sp.1, .int .i64 v.sp.2, .string v.val, .bool v.gone] := rfl
  obtain ⟨W0, hW0⟩ : ∃ W0, W.alloc (.cells (verL.enc v).toArray 47) = W0 := ⟨_, rfl⟩
  have BV := Lib.hid (show Box W0 W.heap.size (verL.enc v).toArray 47 from by rw [← hW0]; exact Box.new W _ _ _ rfl)
  have hb0 : Below W.heap.size W W0 := by rw [← hW0]; exact alloc_below _ _
  have GW := Lib.hid (hW.on hb0)
  have G := Lib.hid hb0
  rw [hv] at hW0 BV
  clear hW hb0 hv HG hs hl
  obtain ⟨kk, bb, ee, ss, ⟨xx, yy⟩, uu, gg⟩ := v
  unfold verV at BS ⊢
  simp only at *
  have q0 := GW.out.1.cell 0 _ rfl
  have z0 := BV.out.cell 0 _ rfl
  have z1 := BV.out.cell 1 _ rfl
  have z2 := BV.out.cell 2 _ rfl
  have z3 := BV.out.cell 3 _ rfl
  have z4 := BV.out.cell 4 _ rfl
  have z5 := BV.out.cell 5 _ rfl
  have z6 := BV.out.cell 6 _ rfl
  have z7 := BV.out.cell 7 _ rfl
  go_enter Try.func53, Try.ntmps53
  go_wp2_with fail
  clear hW0
  refine (BS.out _ GW.out.2).mono ?_
  rintro z w1 ⟨i, rfl, hf, hb1⟩
  have FO := Lib.hid (FAN.out i hf)
  have G := Lib.hid (G.out.trans (hb1.mono G.out.size))
  clear hf hb1 q0 z0 z1 z2 z3 z4 z5 z6 z7
  rw [FO.out]
  go_wp2_with fail
  go_ret
  exact ⟨rfl, G.out⟩
end Go.Proofs.Ytigdkflknhdbgaa
