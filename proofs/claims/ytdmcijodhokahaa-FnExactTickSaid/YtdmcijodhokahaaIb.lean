/- Walks: two slices of int64 compared; marks. -/
import Derived.Test.YtdmcijodhokahaaIa
import Derived.OpenShut
set_option linter.unusedVariables false
set_option linter.unusedSimpArgs false
namespace Go.Proofs.Ytdmcijodhokahaa
open Go.RowKit

def BoolPost (b : Bool) (w : World) (e : Ending) (w' : World) : Prop := e = .returned (.bool b) ∧ Below w.heap.size w w'

theorem ne_of_len {xs ys : List Int} (h : ¬ xs.length = ys.length) : decide (xs = ys) = false := by
  rw [decide_eq_false_iff_not]; intro e; exact h (by rw [e])
theorem ne_of_get {xs ys : List Int} (k : Nat) (h : ¬ xs.getD k 0 = ys.getD k 0) : decide (xs = ys) = false := by
  rw [decide_eq_false_iff_not]; intro e; exact h (by rw [e])


def marks (k : Int) (n : Nat) : List Int := (List.range n).map fun j : Nat => k + (j : Int)
theorem marks_length (k : Int) (n : Nat) : (marks k n).length = n := by simp [marks]
theorem marks_getD (k : Int) (n j : Nat) (h : j < n) : (marks k n).getD j 0 = k + j := by
  simp [marks, List.getD_eq_getElem?_getD, h]

def MarkPost (base : Nat) (v : Value) (n : Nat) (w : World) (e : Ending) (w' : World) : Prop :=
  e = .returned (.int .i64 (1 + (n : Int))) ∧ w'.ownsRow base 2 1 v n (ints (marks 1 n)) ∧ Below base w w' ∧ w.grownBy w' v.ownBlock



/-- a slice that came in, as the frame of a law gives it -/
theorem il_nil (w : World) (c : Nat) (A : Option Addr) : IL w w.heap.size (.slice A 0 c) [] :=
  ⟨fun j => by simpa using rng_zero, by simp, A, c, rfl, .inl rfl⟩
theorem il_of (x : Addr) (n c : Nat) (zs : List Int) (w : World) (hn : n ≤ 1048576) (hl : n ≤ c) (hz : zs.length = c)
    (hcell : ∀ i, i < zs.length → w.cell? (x.add i) = some (.int .i64 (zs.getD i 0))) (hwz : ∀ k ∈ zs, (Lit.int .i64 k).wf = true) :
    ∃ xs : List Int, xs.length = n ∧ IL w w.heap.size (.slice (some x) n c) xs := by
  have hlen : (zs.take n).length = n := by rw [List.length_take]; omega
  by_cases h0 : n = 0
  · subst h0; exact ⟨[], rfl, il_nil _ _ _⟩
  · refine ⟨zs.take n, hlen, ?_, by omega, some x, c, by rw [hlen], .inr ?_⟩
    · refine rng_of fun y hy => ?_
      have := hwz y (List.mem_of_mem_take hy)
      have h2 := bounds_i64 this
      exact ⟨by omega, by omega⟩
    · obtain ⟨b, off, spot⟩ := x
      have hc := hcell 0 (by omega)
      have hspot : spot = none := by simpa [Addr.add] using World.cell?_spot hc
      subst hspot
      refine ⟨b, off, rfl, ?_, fun j hj => ?_⟩
      · have h1 : w.cell? ⟨b, off, none⟩ = some (.int .i64 (zs.getD 0 0)) := by simpa [Addr.add] using hc
        exact World.block_lt_of_cell? w _ h1
      · rw [hlen] at hj
        have h1 := hcell j (by omega)
        have h2 : (zs.take n).getD j 0 = zs.getD j 0 := by simp [List.getD_eq_getElem?_getD, hj]
        have hadd : (⟨b, off, none⟩ : Addr).add j = ⟨b, off + j, none⟩ := by unfold Addr.add; split <;> simp_all
        rw [hadd] at h1
        rw [h2]; exact h1
end Go.Proofs.Ytdmcijodhokahaa
