/- Walks: the program's ReadTimes. -/
import Derived.Test.YtanoohfhifhhaaaDoorSc
import Derived.Test.YtanoohfhifhhaaaDoorHk
set_option linter.unusedVariables false
set_option linter.unusedSimpArgs false
namespace Go.Proofs.YtanoohfhifhhaaaDoor
open Go.RowKit

def fL (L : List Bool) (q : Nat) : Option (Int × Nat) := if q + 40 ≤ L.length then some ((numL L q 40 : Int), q + 40) else none
def timesB (L : List Bool) (n p : Nat) : Option (List Int × Nat) := timesFin (timesG (fL L) (getL L) n p)
theorem timesG_congr {f g f' g' : Nat → Option (Int × Nat)} (hf : ∀ q, f q = f' q) (hg : ∀ q, g q = g' q) : ∀ (k p : Nat), timesG f g k p = timesG f' g' k p
  | 0, p => rfl
  | k + 1, p => by
    rw [timesG, timesG, timesG_congr hf hg k p]
    cases timesG f' g' k p with
    | none => rfl
    | some a => obtain ⟨xs, q⟩ := a; simp only [hf q, hg q]
theorem timesW_L {ws : List Nat} {L : List Bool} (h : BM.Words ws L) (n p : Nat) : timesW ws L.length n p = timesG (fL L) (getL L) n p := by
  unfold timesW
  refine timesG_congr (fun q => ?_) (fun q => getR_L h q) n p
  unfold fW fL numL
  rw [BM.words_get h q 40 (by omega)]
/-- what ReadTimes reads -/
def readTs (s : ByteArray) (N a n : Int) : Option (List Int × Nat) :=
  if (0 ≤ n ∧ n ≤ 120) ∧ hasB s N a 0 = true then timesB (BM.listOf s.data.toList N.toNat) n.toNat a.toNat else none

theorem ReadOut.below {r : Option (List Int × Nat)} {w0 w : World} {e : Ending} {w' : World} (h : ReadOut r w e w') (hb : w0.heap.size ≤ w.heap.size) : ReadOut r w0 e w' := by
  unfold ReadOut at *
  cases r with
  | none => exact h
  | some xq =>
    obtain ⟨v, h1, h2, h3⟩ := h
    exact ⟨v, h1, u_ownsRow_base h2 hb, h3⟩
end Go.Proofs.YtanoohfhifhhaaaDoor
