/- Walks: the rolls of points: the model. -/
import Derived.Test.YtinpndoepppboaaYp
import Derived.Test.YtinpndoepppboaaYl
set_option linter.unusedVariables false
set_option linter.unusedSimpArgs false
namespace Go.Proofs.Ytinpndoepppboaa
open Go.RowKit

/-- a result of the model: a row of its own, not nil -/
def GRow (w : World) (base : Nat) (v : Value) (xs : List R6) : Prop := ∃ g c, v = .slice (some ⟨g, 0, none⟩) xs.length c ∧ RS w w.heap.size ⟨g, 0, none⟩ xs ∧ w.ownsRow base 99 6 v xs.length (rls xs)
theorem GRow.of_own {w : World} {base : Nat} {v : Value} {xs : List R6} (h : w.ownsRow base 99 6 v xs.length (rls xs)) (hp : 0 < xs.length) (hl : xs.length ≤ 1048576) : GRow w base v xs := by
  obtain ⟨g, c, rfl, h1⟩ := RS.of_own h hp hl
  exact ⟨g, c, rfl, h1, h⟩
theorem GRow.made (W : World) {base : Nat} (hb : base ≤ W.heap.size) : GRow (W.alloc (.cells #[] 99)) base (.slice (some ⟨W.heap.size, 0, none⟩) 0 0) [] :=
  ⟨_, _, rfl, ⟨by simp, by simp, fun j u hj => by simp [rls] at hj⟩, made0 W hb⟩
theorem ptsOkB_all {xs : List (Int × Int)} (h : ptsOkB xs = true) (k : Nat) (hk : k < xs.length) : 0 ≤ (xs.getD k (0, 0)).1 ∧ (xs.getD k (0, 0)).1 ≤ 1000000000000 := (ptsOkB_at h hk).1
theorem ptsOkB_len {xs : List (Int × Int)} (h : ptsOkB xs = true) : xs.length ≤ 120 := by
  unfold ptsOkB timesOkB at h
  rw [Bool.and_eq_true, decide_eq_true_iff, List.length_map] at h
  exact h.1


/-- a result: a row, and a flag -/
def RFlagPost (base : Nat) (xs : List R6) (b : Bool) (w : World) (e : Ending) (w' : World) : Prop :=
  ∃ v, e = .returned (.tuple #[v, .bool b]) ∧ w'.ownsRow base 99 6 v xs.length (rls xs) ∧ Below w.heap.size w w'
theorem wdB_in {W : Int} (h : wdB W = true) : 1 ≤ W ∧ W ≤ 1000000 := by
  unfold wdB vIn at h
  simpa using h

end Go.Proofs.Ytinpndoepppboaa
