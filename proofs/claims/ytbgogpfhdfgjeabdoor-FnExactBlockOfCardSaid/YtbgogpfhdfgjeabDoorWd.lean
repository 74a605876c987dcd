/- Walks: the model's and the program's BitsOk. -/
import Derived.Test.YtbgogpfhdfgjeabDoorWc
import Derived.Deep.RegionHeld3
set_option linter.unusedVariables false
set_option linter.unusedSimpArgs false
namespace Go.Proofs.YtbgogpfhdfgjeabDoor
open Go.RowKit

def okB (s : ByteArray) (n : Int) : Bool :=
  decide (0 ≤ n ∧ n ≤ 20000 ∧ (s.size : Int) = (n + 7) / 8 ∧ BM.pack (BM.listOf s.data.toList n.toNat) = s.data.toList)

theorem inB_true {n lo hi : Int} (h1 : lo ≤ n) (h2 : n ≤ hi) : inB n lo hi = true := by simp [inB, h1, h2]
theorem inB_false {n lo hi : Int} (h : ¬ (lo ≤ n ∧ n ≤ hi)) : inB n lo hi = false := by simp only [inB, decide_eq_false_iff_not]; exact h

theorem bits_eql (a b : ByteArray) (m n : Int) (w : World) :
    (binOp .eql 53 (.agg #[.string a, .int .i64 m]) (.agg #[.string b, .int .i64 n])).run Tryd.prog w = .ok (.bool (a.toList == b.toList && m == n)) w := by
  have hu := Tryd.underlying53
  have hs := Tryd.underlying9
  have hi := Tryd.underlying2
  rw [run_eql_struct, run_equalIn_agg (P := Tryd.prog) w 9999 _ _ _ (by kernel_rfl) (by kernel_rfl)]
  simp [go_sem, Op.eqFields]
  by_cases h1 : a.toList = b.toList <;> by_cases h2 : m = n <;> simp [h1, h2]
theorem toList_data (s : ByteArray) : s.toList = s.data.toList := ByteArray.toList_eq s

def RetBelow (v : Value) (w : World) (e : Ending) (w' : World) : Prop := e = .returned v ∧ Below w.heap.size w w'




end Go.Proofs.YtbgogpfhdfgjeabDoor
