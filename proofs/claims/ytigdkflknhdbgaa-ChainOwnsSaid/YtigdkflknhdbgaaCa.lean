/- Layer 13, plain: versions in one list: Add, Keys, Keep of the document. -/
import Derived.Test.YtigdkflknhdbgaaRR
import Derived.Test.YtigdkflknhdbgaaBE
namespace Go.Proofs.Ytigdkflknhdbgaa
open Go.RowKit
set_option linter.unusedVariables false

theorem ver_info : (Try.prog.info? 47).map (fun i => (i.zero, i.size, i.bytes)) = some (some (.agg #[.string ⟨#[]⟩, .int .i64 0, .int .i64 0, .int .i64 0, .int .i64 0, .int .i64 0, .string ⟨#[]⟩, .bool false]), 8, 80) := by kernel_rfl
abbrev OwnVr (w : World) (base : Nat) (v : Value) (l : List Ver) : Prop := OwnX verL 47 w base v l
/-- Are two versions alike in the order? -/
def alikeV (v x : Ver) : Bool := !lessV v x && !lessV x v
def insA (v : Ver) : List Ver → List Ver
  | [] => [v]
  | x :: r => if lessV v x = true then v :: x :: r else x :: insA v r
def addV (l : List Ver) (v : Ver) : List Ver × Int := if mayV v = true then (if l.any (alikeV v) = true then (l, 9) else (insA v l, 0)) else (l, 1)
theorem insA_drop (v : Ver) {l : List Ver} {k : Nat} (hk : k < l.length) : insA v (l.drop k) = if lessV v l[k] = true then v :: l[k] :: l.drop (k + 1) else l[k] :: insA v (l.drop (k + 1)) := by
  rw [List.drop_eq_getElem_cons hk, insA]
theorem any_dropV (q : Ver → Bool) {l : List Ver} {k : Nat} (hk : k < l.length) : (l.drop k).any q = (q l[k] || (l.drop (k + 1)).any q) := by
  rw [List.drop_eq_getElem_cons hk, List.any_cons]
theorem insA_len (v : Ver) : ∀ l : List Ver, (insA v l).length = l.length + 1
  | [] => rfl
  | x :: r => by
    rw [insA]
    split
    · rfl
    · rw [List.length_cons, insA_len v r, List.length_cons]
theorem addV_len (l : List Ver) (v : Ver) : (addV l v).1.length ≤ l.length + 1 := by
  unfold addV
  split
  · split
    · exact Nat.le_succ _
    · rw [insA_len]; exact Nat.le_refl _
  · exact Nat.le_succ _
def keyStep (out : List ByteArray) (x : Ver) : List ByteArray := if out.getLast? = some x.key then out else out ++ [x.key]
def keysV (l : List Ver) : List ByteArray := l.foldl keyStep []
theorem keys_succ {l : List Ver} {k : Nat} (hk : k < l.length) : keysV (l.take (k + 1)) = keyStep (keysV (l.take k)) l[k] := by
  unfold keysV
  rw [List.take_succ_eq_append_getElem hk, List.foldl_append]
  rfl
theorem keysV_len (l : List Ver) : (keysV l).length ≤ l.length := by
  have h : ∀ (l : List Ver) (out : List ByteArray), (l.foldl keyStep out).length ≤ out.length + l.length := by
    intro l
    induction l with
    | nil => intro out; exact Nat.le_refl _
    | cons x r ih =>
      intro out
      rw [List.foldl_cons, List.length_cons]
      have := ih (keyStep out x)
      have h2 : (keyStep out x).length ≤ out.length + 1 := by unfold keyStep; split <;> simp
      omega
  have := h l []
  simpa [keysV] using this
def stayV (e : Int) (l : List Ver) : List Ver := l.filter fun v => decide (v.e ≤ e)
def goneV (e : Int) (l : List Ver) : List Ver := l.filter fun v => !decide (v.e ≤ e)
end Go.Proofs.Ytigdkflknhdbgaa
