/- Layer 7: a disk of one file: plain facts. -/
import Derived.Test.YtbdaflhmloodfaaIq
namespace Go.Proofs.Ytbdaflhmloodfaa
open Go.RowKit
set_option linter.unusedVariables false

theorem OwnX.kept {α : Type} {L : Lay α} {e : TypeId} {w w' : World} {S : Nat → Prop} {base : Nat} {v : Value} {x : List α} (h : OwnX L e w base v x) (hk : Kept S w w') (he : ∀ cs, projO (.cells cs e (0, 0)) = false) : OwnX L e w' base v x := by
  refine ⟨h.1, ?_⟩
  rcases h.2 with h2 | ⟨g, cap, cur, e1, hg, hc, h3⟩
  · exact .inl h2
  · exact .inr ⟨g, cap, cur, e1, hg, hk.other g _ hc (.inr (he cur)), h3⟩
theorem atF_one (n b : ByteArray) (s : Int) : atF [⟨n, b, s⟩] n = 0 := by unfold atF; simp [List.findIdx?_cons]
theorem atF_nil (n : ByteArray) : atF [] n = -1 := by unfold atF; simp
def oneD (n b : ByteArray) (s mx : Int) : Dk := ⟨[⟨n, b, s⟩], mx, -1, false⟩
theorem oneD_idle (n b : ByteArray) (s mx : Int) : mayD (oneD n b s mx) 0 = (oneD n b s mx, 0) := mayD_idle rfl rfl
theorem create_first (n : ByteArray) (mx : Int) (h : nameB n.data.toList = true) : createD ⟨[], mx, -1, false⟩ n = (oneD n ⟨#[]⟩ 0 mx, 0) := by
  have he : createE ⟨[], mx, -1, false⟩ n = 0 := by
    unfold createE
    rw [if_neg (by simp [h])]
    simp only [atF_nil]
    rw [if_neg (by omega), if_neg (by simp)]
  unfold createD
  rw [he, mayD_idle rfl rfl, if_pos rfl]
  rfl
theorem create_second (n b : ByteArray) (s mx : Int) (h : nameB n.data.toList = true) : createD (oneD n b s mx) n = (oneD n b s mx, 9) := by
  have he : createE (oneD n b s mx) n = 9 := by
    unfold createE oneD
    rw [if_neg (by simp [h])]
    simp only [atF_one]
    rw [if_pos (by omega)]
  unfold createD
  rw [he, mayD_err rfl (by omega), if_neg (by simp)]
theorem create_bad (n : ByteArray) (d : Dk) (hd : d.down = false) (h : nameB n.data.toList = false) : createD d n = (d, 1) := by
  have he : createE d n = 1 := by unfold createE; rw [if_pos h]
  unfold createD
  rw [he, mayD_err hd (by omega), if_neg (by simp)]
theorem append_one (n b c : ByteArray) (s mx : Int) (h : (b.size : Int) + c.size ≤ mx) : appendD (oneD n b s mx) n c = (oneD n (b ++ c) s mx, 0) := by
  have he : appendE (oneD n b s mx) n c = 0 := by
    show (if atF [⟨n, b, s⟩] n < 0 then (8 : Int) else if mx < usedF [⟨n, b, s⟩] + c.size then 6 else 0) = 0
    rw [atF_one, if_neg (by omega), if_neg (by simp [usedF]; omega)]
  unfold appendD
  rw [he, oneD_idle, if_pos (.inl rfl)]
  unfold oneD setBF
  simp [atF_one]
theorem sync_one (n b : ByteArray) (s mx : Int) : endsD (oneD n b s mx) n false = (oneD n b b.size mx, 0) := by
  have he : goneE (oneD n b s mx) n = 0 := by
    unfold goneE oneD
    simp only [atF_one]
    rw [if_neg (by omega)]
  unfold endsD
  rw [he, oneD_idle, if_neg (by simp)]
  unfold oneD syncF
  simp [atF_one]
theorem read_one (n b : ByteArray) (s mx x y : Int) (h : 0 ≤ x ∧ 0 ≤ y) : readD (oneD n b s mx) n x y = (readF b x y, 0) := by
  unfold readD oneD
  simp only [atF_one]
  rw [if_neg (by simp)]
  simp
  omega
theorem ok_one {n b : ByteArray} {s mx : Int} (h1 : 0 ≤ s ∧ s ≤ b.size) (h2 : (b.size : Int) ≤ 16777216) (h3 : 0 ≤ mx ∧ mx ≤ 16777216) : OkD (oneD n b s mx) :=
  ⟨by simp [oneD], by simp [oneD, usedF]; omega, h3, by simp [oneD], fun f hf => by simp [oneD] at hf; subst hf; exact h1⟩
theorem nms_one (n b : ByteArray) (s mx : Int) : nmsF (oneD n b s mx).f = [n] := rfl
theorem empty_app (b : ByteArray) : (⟨#[]⟩ : ByteArray) ++ b = b := by
  have : (⟨#[]⟩ : ByteArray) = ByteArray.empty := rfl
  rw [this, ByteArray.empty_append]
end Go.Proofs.Ytbdaflhmloodfaa
