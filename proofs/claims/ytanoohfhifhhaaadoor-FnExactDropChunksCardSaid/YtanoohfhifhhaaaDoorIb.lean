/- Walks: slices of int64: the laws' own helpers. -/
import Derived.Test.YtanoohfhifhhaaaDoorUa
import Derived.Deep.QuietTactic
import Derived.OpenShut
set_option linter.unusedVariables false
set_option linter.unusedSimpArgs false
namespace Go.Proofs.YtanoohfhifhhaaaDoor
open Go.RowKit

def ints (l : List Int) : List Value := l.map (Value.int .i64)
theorem ints_length (l : List Int) : (ints l).length = l.length := by simp [ints]
theorem ints_append (l m : List Int) : ints (l ++ m) = ints l ++ ints m := by simp [ints]
theorem ints_get (l : List Int) (j : Nat) (h : j < l.length) : (ints l)[j]? = some (.int .i64 (l.getD j 0)) := by
  simp [ints, List.getD_eq_getElem?_getD, h]
theorem ints_set (l : List Int) (k : Nat) (x : Int) : (ints l).set k (.int .i64 x) = ints (l.set k x) := by simp [ints, List.map_set]
def Rng (x : Int) : Prop := -9223372036854775808 ≤ x ∧ x ≤ 9223372036854775807

/-- the slice v reads as xs in the blocks below B -/
def IL (w : World) (B : Nat) (v : Value) (xs : List Int) : Prop :=
  (∀ j, Rng (xs.getD j 0)) ∧ xs.length ≤ 1048576 ∧ ∃ A c, v = .slice A xs.length c ∧
    (xs = [] ∨ ∃ b off, A = some ⟨b, off, none⟩ ∧ b < B ∧ ∀ j, j < xs.length → w.cell? ⟨b, off + j, none⟩ = some (.int .i64 (xs.getD j 0)))
theorem IL.below {w w' : World} {B : Nat} {v : Value} {xs : List Int} (h : IL w B v xs) (hb : Below B w w') : IL w' B v xs := by
  obtain ⟨h1, h2, A, c, rfl, h3⟩ := h
  refine ⟨h1, h2, A, c, rfl, ?_⟩
  rcases h3 with h3 | ⟨b, off, rfl, hlt, hc⟩
  · exact .inl h3
  · exact .inr ⟨b, off, rfl, hlt, fun j hj => (hb.cell (p := ⟨b, off + j, none⟩) hlt).trans (hc j hj)⟩
theorem IL.up {w : World} {B B' : Nat} {v : Value} {xs : List Int} (h : IL w B v xs) (hB : B ≤ B') : IL w B' v xs := by
  obtain ⟨h1, h2, A, c, rfl, h3⟩ := h
  refine ⟨h1, h2, A, c, rfl, ?_⟩
  rcases h3 with h3 | ⟨b, off, rfl, hlt, hc⟩
  · exact .inl h3
  · exact .inr ⟨b, off, rfl, by omega, hc⟩
theorem rng_zero : Rng 0 := ⟨by omega, by omega⟩
theorem rng_of {xs : List Int} (h : ∀ x ∈ xs, Rng x) (j : Nat) : Rng (xs.getD j 0) := by
  rw [List.getD_eq_getElem?_getD]
  by_cases hj : j < xs.length
  · rw [List.getElem?_eq_getElem hj]; exact h _ (List.getElem_mem hj)
  · rw [List.getElem?_eq_none (by omega)]; exact rng_zero
theorem IL.of_own {w : World} {base : Nat} {v : Value} {n : Nat} {xs : List Int} (h : w.ownsRow base 2 1 v n (ints xs)) (hn : n = xs.length) (hr : ∀ j, Rng (xs.getD j 0)) (hl : xs.length ≤ 1048576) : IL w w.heap.size v xs := by
  subst hn
  refine ⟨hr, hl, ?_⟩
  rcases h.2 with ⟨rfl, h0⟩ | ⟨g, cap, cur, rfl, hb, hg, _⟩
  · exact ⟨none, 0, by rw [h0], .inl (List.eq_nil_of_length_eq_zero h0)⟩
  · refine ⟨_, cap, rfl, .inr ⟨g, 0, rfl, (Array.getElem?_eq_some_iff.1 hg).1, fun j hj => ?_⟩⟩
    rw [Nat.zero_add, h.cellAt j (by omega)]
    exact ints_get _ _ hj
theorem ints_ext {xs ys : List Int} (hl : xs.length = ys.length) (h : ∀ j, j < xs.length → xs.getD j 0 = ys.getD j 0) : xs = ys := by
  apply List.ext_getElem hl
  intro j h1 h2
  have := h j h1
  simpa [List.getD_eq_getElem?_getD, h1, h2] using this
theorem getD_set_int (l : List Int) (k j : Nat) (x : Int) (hk : k < l.length) : (l.set k x).getD j 0 = if j = k then x else l.getD j 0 := by
  simp only [List.getD_eq_getElem?_getD, List.getElem?_set]
  by_cases e : k = j
  · subst e; simp [hk]
  · have e' : ¬ j = k := fun h => e h.symm
    simp [e, e']
theorem made_ints (n : Nat) : (madeCells #[Value.int .i64 0] n).toList = ints (List.replicate n 0) := by
  apply List.ext_getElem?
  intro i
  by_cases hi : i < n
  · simp [madeCells, ints, hi, Nat.mod_one]
  · rw [List.getElem?_eq_none (l := ints _) (by simp [ints]; omega), List.getElem?_eq_none (by simp [madeCells]; omega)]

def OwnPost (base : Nat) (xs : List Int) (w : World) (e : Ending) (w' : World) : Prop :=
  ∃ v, e = .returned v ∧ w'.ownsRow base 2 1 v xs.length (ints xs) ∧ Below w.heap.size w w'

end Go.Proofs.YtanoohfhifhhaaaDoor

/- Walks: two slices of int64 compared; marks. -/
set_option linter.unusedVariables false
set_option linter.unusedSimpArgs false
namespace Go.Proofs.YtanoohfhifhhaaaDoor
open Go.RowKit

def BoolPost (b : Bool) (w : World) (e : Ending) (w' : World) : Prop := e = .returned (.bool b) ∧ Below w.heap.size w w'

theorem ne_of_len {xs ys : List Int} (h : ¬ xs.length = ys.length) : decide (xs = ys) = false := by
  rw [decide_eq_false_iff_not]; intro e; exact h (by rw [e])
theorem ne_of_get {xs ys : List Int} (k : Nat) (h : ¬ xs.getD k 0 = ys.getD k 0) : decide (xs = ys) = false := by
  rw [decide_eq_false_iff_not]; intro e; exact h (by rw [e])


def marks (k : Int) (n : Nat) : List Int := (List.range n).map fun j : Nat => k + (j : Int)
theorem marks_length (k : Int) (n : Nat) : (marks k n).length = n := by simp [marks]
theorem marks_getD (k : Int) (n j : Nat) (h : j < n) : (marks k n).getD j 0 = k + j := by
  simp [marks, List.getD_eq_getElem?_getD, h]

def MarkPost (base : Nat) (v : Value) (n : Nat) (w : World) (e : Ending) (w' : World) : Prop :=
  e = .returned (.int .i64 (1 + (n : Int))) ∧ w'.ownsRow base 2 1 v n (ints (marks 1 n)) ∧ Below base w w' ∧ w.grownBy w' v.ownBlock



/-- a slice that came in, as the frame of a law gives it -/
theorem il_nil (w : World) (c : Nat) (A : Option Addr) : IL w w.heap.size (.slice A 0 c) [] :=
  ⟨fun j => by simpa using rng_zero, by simp, A, c, rfl, .inl rfl⟩
theorem il_of (x : Addr) (n c : Nat) (zs : List Int) (w : World) (hn : n ≤ 1048576) (hl : n ≤ c) (hz : zs.length = c)
    (hcell : ∀ i, i < zs.length → w.cell? (x.add i) = some (.int .i64 (zs.getD i 0))) (hwz : ∀ k ∈ zs, (Lit.int .i64 k).wf = true) :
    ∃ xs : List Int, xs.length = n ∧ IL w w.heap.size (.slice (some x) n c) xs := by
  have hlen : (zs.take n).length = n := by rw [List.length_take]; omega
  by_cases h0 : n = 0
  · subst h0; exact ⟨[], rfl, il_nil _ _ _⟩
  · refine ⟨zs.take n, hlen, ?_, by omega, some x, c, by rw [hlen], .inr ?_⟩
    · refine rng_of fun y hy => ?_
      have := hwz y (List.mem_of_mem_take hy)
      have h2 := bounds_i64 this
      exact ⟨by omega, by omega⟩
    · obtain ⟨b, off, spot⟩ := x
      have hc := hcell 0 (by omega)
      have hspot : spot = none := by simpa [Addr.add] using World.cell?_spot hc
      subst hspot
      refine ⟨b, off, rfl, ?_, fun j hj => ?_⟩
      · have h1 : w.cell? ⟨b, off, none⟩ = some (.int .i64 (zs.getD 0 0)) := by simpa [Addr.add] using hc
        exact World.block_lt_of_cell? w _ h1
      · rw [hlen] at hj
        have h1 := hcell j (by omega)
        have h2 : (zs.take n).getD j 0 = zs.getD j 0 := by simp [List.getD_eq_getElem?_getD, hj]
        have hadd : (⟨b, off, none⟩ : Addr).add j = ⟨b, off + j, none⟩ := by unfold Addr.add; split <;> simp_all
        rw [hadd] at h1
        rw [h2]; exact h1
end Go.Proofs.YtanoohfhifhhaaaDoor
