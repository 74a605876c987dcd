/- Walks: the program's ReadValues. -/
import Derived.Test.YtanoohfhifhhaaaDoorQr
set_option linter.unusedVariables false
set_option linter.unusedSimpArgs false
namespace Go.Proofs.YtanoohfhifhhaaaDoor
open Go.RowKit

theorem tab_rd {w W W' : World} {g : Nat} (hT : Tab w) (hb : Below w.heap.size w W) (hg : w.heap.size ≤ g) (k : W.grownBy W' (some g)) : Tab W' := fun j hj => by
  have h0 := hT j hj
  have hlt := World.block_lt_of_cell? w _ h0
  have h1 := (hb.cell hlt).trans h0
  have hk := k.block _ (World.block_lt_of_cell? W _ h1) (fun e => by injection e with e; omega)
  refine Eq.trans ?_ h1
  simp only [World.cell?, hk]
/-- what ReadValues reads -/
def readVs (s : ByteArray) (N a n : Int) : Option (List Int × Nat) :=
  if (0 ≤ n ∧ n ≤ 120) ∧ hasB s N a 0 = true then valsB (BM.listOf s.data.toList N.toNat) n.toNat a.toNat else none
theorem ReadOut.below {r : Option (List Int × Nat)} {w0 w : World} {e : Ending} {w' : World} (h : ReadOut r w e w') (hb : w0.heap.size ≤ w.heap.size) : ReadOut r w0 e w' := by
  unfold ReadOut at *
  cases r with
  | none => exact h
  | some xq =>
    obtain ⟨v, h1, h2, h3⟩ := h
    exact ⟨v, h1, u_ownsRow_base h2 hb, h3⟩
end Go.Proofs.YtanoohfhifhhaaaDoor
