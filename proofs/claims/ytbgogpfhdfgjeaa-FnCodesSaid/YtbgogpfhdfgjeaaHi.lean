/- Walks: the program reads from bits: readFrom with the codes' get. -/
import Derived.Test.YtbgogpfhdfgjeaaHh
set_option linter.unusedVariables false
set_option linter.unusedSimpArgs false
namespace Go.Proofs.Ytbgogpfhdfgjeaa
open Go.RowKit

def OkB (w : World) (k : Nat) (x : Bool) : Prop := w.heap[k]? = some (.cells #[.bool x] 4 (0, 0))
theorem OkB.c {w : World} {k : Nat} {x : Bool} (h : OkB w k x) : w.cell? ⟨k, 0, none⟩ = some (.bool x) := by rw [cell_of_row w k 0 _ _ _ h]; rfl
theorem OkB.f {w : World} {k : Nat} {x : Bool} (h : OkB w k x) : w.frozen? ⟨k, 0, none⟩ = false := frozen_of_row w k 0 _ _ h
theorem OkB.below {w w' : World} {k : Nat} {x : Bool} (h : OkB w k x) (hb : Below w.heap.size w w') : OkB w' k x := (hb.block k (heap_lt h)).trans h
theorem OkB.grown {w w' : World} {k r : Nat} {x : Bool} (h : OkB w k x) (hb : w.grownBy w' (some r)) (hne : k ≠ r) : OkB w' k x := (hb.block k (heap_lt h) (by intro he; injection he with he; exact hne he)).trans h

set_option maxRecDepth 100000 in
set_option maxHeartbeats 1000000 in
theorem readFrom1_bad (s : ByteArray) (N a : Int) (rv : Value) (w : World) (hs : s.size ≤ maxLen) (h : hasB s N a 0 = false) (hrv : rv.oneCell' = true) :
    Calls Try.prog 52 #[.agg #[.string s, .int .i64 N], .int .i64 a, rv] w (RetBelow (.tuple #[.int .i64 0, .int .i64 0, .bool false]) w) := by
  have H := Lib.hid (fun W => hasBits_any s N a 0 W hs (by omega))
  rw [h] at H
  clear h
  go_enter_defers Try.func52, Try.ntmps52
  go_wp2_with fail
  refine (H.out _).mono ?_
  rintro e w1 ⟨rfl, hb⟩
  have ok0 : OkB ((w.alloc (.cells #[.string s, .int .i64 N] 26)).alloc (.cells #[.bool false] 4)) (w.heap.size + 1) false := heap_alloc2_new _ _ _
  have ok1 := ok0.below hb
  have c1 := ok1.c
  have f1 := ok1.f
  have HF := Lib.hid ((below2 w (.cells #[.string s, .int .i64 N] 26) (.cells #[.bool false] 4)).trans (hb.mono (by simp; omega)))
  clear ok0 ok1 hb
  go_wp2_with fail
  have c2 : (w1.setCell ⟨w.heap.size + 1, 0, none⟩ (.bool false)).cell? ⟨w.heap.size + 1, 0, none⟩ = some (.bool false) := World.cell?_setCell_same' _ _ _ (by rw [c1]; rfl)
  have HF2 := Below.setCell HF.out (show w.heap.size ≤ (⟨w.heap.size + 1, 0, none⟩ : Addr).block by simp) (.bool false)
  simp [bodyPostD, Leaves, results, Try.results52, go_sem, c2]
  exact ⟨rfl, HF2⟩

end Go.Proofs.Ytbgogpfhdfgjeaa
