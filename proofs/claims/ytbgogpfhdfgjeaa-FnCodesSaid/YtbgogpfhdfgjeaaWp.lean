/- Walks: Part of the model and of the program. -/
import Derived.Test.YtbgogpfhdfgjeaaWo
set_option linter.unusedVariables false
set_option linter.unusedSimpArgs false
namespace Go.Proofs.Ytbgogpfhdfgjeaa
open Go.RowKit

def partL (s : ByteArray) (N f n : Int) : List Bool := ((BM.listOf s.data.toList N.toNat).drop f.toNat).take n.toNat
def partS (s : ByteArray) (N f n : Int) : ByteArray := if hasB s N f n then ⟨(BM.pack (partL s N f n)).toArray⟩ else ⟨#[]⟩
def partN (s : ByteArray) (N f n : Int) : Int := if hasB s N f n then n else 0
theorem partS_bad {s : ByteArray} {N f n : Int} (h : hasB s N f n = false) : partS s N f n = ⟨#[]⟩ ∧ partN s N f n = 0 := by
  unfold partS partN; rw [h]; exact ⟨rfl, rfl⟩





end Go.Proofs.Ytbgogpfhdfgjeaa
