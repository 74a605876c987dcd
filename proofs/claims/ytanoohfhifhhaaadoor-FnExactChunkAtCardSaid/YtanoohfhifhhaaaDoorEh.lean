/- Walks: the model's bits of values; the law FnExactValuesBits. -/
import Derived.Test.YtanoohfhifhhaaaDoorEg
set_option linter.unusedVariables false
set_option linter.unusedSimpArgs false
namespace Go.Proofs.YtanoohfhifhhaaaDoor
open Go.RowKit

theorem RB.new (w : World) (s : ByteArray) (N : Int) : RB (w.alloc (.cells #[.string s, .int .i64 N] 77)) w.heap.size s N := heap_alloc_new w _
theorem below1 (w : World) (o : Obj) : Below w.heap.size w (w.alloc o) := eb_below1 w o
theorem intsAt_own {w : World} {base g c : Nat} {l : List Bool} (h : w.ownsRow base 2 1 (.slice (some ⟨g, 0, none⟩) l.length c) l.length (bitInts l)) : IntsAt w w.heap.size (some ⟨g, 0, none⟩) (bitInts l) :=
  .inr ⟨g, 0, rfl, (h.lt g rfl).2, fun j u hj => by
    have := h.cells rfl j u hj
    rw [addr_add] at this
    exact this⟩


/-- what ValuesBits returns -/
def vbL (xs : List Int) : List Bool := if xs.length ≤ 120 then (valTo xs xs.length).1 else []
def vbS (xs : List Int) : ByteArray := ⟨(BM.pack (vbL xs)).toArray⟩
theorem pack_nil : BM.pack [] = [] := rfl
theorem vb_bad {xs : List Int} (h : ¬ xs.length ≤ 120) : vbS xs = ⟨#[]⟩ ∧ ((vbL xs).length : Int) = 0 ∧ decide (xs.length ≤ 120) = false := by
  have e : vbL xs = [] := by unfold vbL; rw [if_neg h]
  refine ⟨by unfold vbS; rw [e, pack_nil], by rw [e]; rfl, by simpa using h⟩
theorem vb_good {xs : List Int} (h : xs.length ≤ 120) : vbL xs = (valTo xs xs.length).1 ∧ decide (xs.length ≤ 120) = true := by
  refine ⟨by unfold vbL; rw [if_pos h], by simpa using h⟩
theorem implValuesBits_any (v : Value) (xs : List Int) (w : World) (h : IL w w.heap.size v xs) (hT : Tab w) :
    Calls Tryd.prog 75 #[v] w (BPostV (vbS xs) ((vbL xs).length : Int) (decide (xs.length ≤ 120)) w) := by
  by_cases hl : xs.length ≤ 120
  · rw [(vb_good hl).2]
    exact implValuesBits_good v xs w h hl hT _ _ (Lib.hid ⟨by rw [(vb_good hl).1], by rw [(vb_good hl).1]⟩)
  · obtain ⟨h1, h2, h3⟩ := vb_bad hl
    rw [h1, h2, h3]
    exact implValuesBits_bad v xs w h hl

end Go.Proofs.YtanoohfhifhhaaaDoor
