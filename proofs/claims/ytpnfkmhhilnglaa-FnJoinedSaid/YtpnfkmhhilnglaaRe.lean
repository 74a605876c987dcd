/- Walks: DrawBitsOk, DrawPutBits, DrawGetBits. -/
import Derived.Test.YtpnfkmhhilnglaaRd
import Derived.Deep.RegionLaw
set_option linter.unusedVariables false
set_option linter.unusedSimpArgs false
namespace Go.Proofs.Ytpnfkmhhilnglaa
open Go.RowKit

def IsI (v : Value) : Prop := IsI64 v
/-- a fresh struct variable's block -/
def SB (w : World) (g : Nat) (s : ByteArray) (N : Int) : Prop := w.heap[g]? = some (.cells #[.string s, .int .i64 N] 25 (0, 0))
theorem SB.lt {w : World} {g : Nat} {s : ByteArray} {N : Int} (h : SB w g s N) : g < w.heap.size := by
  unfold SB at h
  rcases Nat.lt_or_ge g w.heap.size with h1 | h1
  · exact h1
  · rw [Array.getElem?_eq_none h1] at h; cases h
theorem SB.c0 {w : World} {g : Nat} {s : ByteArray} {N : Int} (h : SB w g s N) : w.cell? ⟨g, 0, none⟩ = some (.string s) := by rw [cell_of_row w g 0 _ _ _ h]; rfl
theorem SB.c1 {w : World} {g : Nat} {s : ByteArray} {N : Int} (h : SB w g s N) : w.cell? ⟨g, 1, none⟩ = some (.int .i64 N) := by rw [cell_of_row w g 1 _ _ _ h]; rfl
theorem SB.f {w : World} {g : Nat} {s : ByteArray} {N : Int} (h : SB w g s N) (i : Nat) : w.frozen? ⟨g, i, none⟩ = false := frozen_of_row w g i _ _ h
theorem SB.below {w w' : World} {g : Nat} {s : ByteArray} {N : Int} (h : SB w g s N) (hb : Below w.heap.size w w') : SB w' g s N := (hb.block g h.lt).trans h
theorem SB.grown {w w' : World} {g : Nat} {row : Option Nat} {s : ByteArray} {N : Int} (h : SB w g s N) (hb : w.grownBy w' row) (hr : some g ≠ row) : SB w' g s N := (hb.block g h.lt hr).trans h
theorem SB.drew {w : World} {g : Nat} {s : ByteArray} {N : Int} (h : SB w g s N) : SB w.drew g s N := h
theorem SB.new (w : World) (s : ByteArray) (N : Int) : SB (w.alloc (.cells #[.string s, .int .i64 N] 25)) w.heap.size s N := heap_alloc_new w _
theorem SB.res {w : World} {g : Nat} (h : SB w g ⟨#[]⟩ 0) : ResBlk w g := h

def TripPost (w : World) (e : Ending) (w' : World) : Prop :=
  ∃ (s : ByteArray) (N v k : Int), e = .returned (.tuple #[.agg #[.string s, .int .i64 N], .int .i64 v, .int .i64 k]) ∧ s.size ≤ 1000 ∧ IsI64 (.int .i64 N) ∧ IsI64 (.int .i64 v) ∧ IsI64 (.int .i64 k) ∧ Below w.heap.size w w'

end Go.Proofs.Ytpnfkmhhilnglaa
