/- Walks: the model's lists of bits. -/
import Derived.Test.YtbgogpfhdfgjeabDoorWa
set_option linter.unusedVariables false
set_option linter.unusedSimpArgs false
namespace Go.Proofs.YtbgogpfhdfgjeabDoor
open Go.RowKit

theorem info_i64 : (Tryd.prog.info? 2).map (fun i => (i.zero, i.size, i.bytes)) = some (some (.int .i64 0), 1, 8) := by kernel_rfl

def bitInts (l : List Bool) : List Value := l.map fun b => .int .i64 (b.toNat : Int)
theorem bitInts_length (l : List Bool) : (bitInts l).length = l.length := by simp [bitInts]
theorem listOf_succ (d : List UInt8) (n : Nat) : BM.listOf d (n + 1) = BM.listOf d n ++ [BM.bitAt d n] := by simp [BM.listOf, List.range_succ]
theorem bitInts_succ (d : List UInt8) (n : Nat) : bitInts (BM.listOf d (n + 1)) = bitInts (BM.listOf d n) ++ [.int .i64 ((BM.bitAt d n).toNat : Int)] := by
  rw [listOf_succ]; simp [bitInts]

theorem ownsRow_base {w : World} {base base' : Nat} {e : TypeId} {size : Nat} {v : Value} {n : Nat} {xs : List Value} (h : w.ownsRow base e size v n xs) (hb : base' ≤ base) : w.ownsRow base' e size v n xs := by
  obtain ⟨h1, h2⟩ := h
  refine ⟨h1, ?_⟩
  rcases h2 with h2 | ⟨g, cap, cur, rfl, hg, rest⟩
  · exact .inl h2
  · exact .inr ⟨g, cap, cur, rfl, Nat.le_trans hb hg, rest⟩

def ListPost (base : Nat) (l : List Bool) (w : World) (e : Ending) (w' : World) : Prop :=
  ∃ v, e = .returned v ∧ w'.ownsRow base 2 1 v l.length (bitInts l) ∧ Below w.heap.size w w' ∧ v ≠ .slice none 0 0

end Go.Proofs.YtbgogpfhdfgjeabDoor
