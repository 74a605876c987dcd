/- Walks: the points of a time range. -/
import Derived.Test.YtljmiodkmddllaaGb
set_option linter.unusedVariables false
set_option linter.unusedSimpArgs false
namespace Go.Proofs.Ytljmiodkmddllaa
open Go.RowKit

def inW (f t : Int) (p : Int × Int) : Bool := decide (f ≤ p.1) && decide (p.1 < t)
def btwL (xs : List (Int × Int)) (f t : Int) : List (Int × Int) := xs.filter (inW f t)
def btwM (xs : List (Int × Int)) (f t : Int) : List (Int × Int) := if ptsOkB xs = true then btwL xs f t else []
theorem btwL_succ {xs : List (Int × Int)} {k : Nat} (f t : Int) (hk : k < xs.length) :
    btwL (xs.take (k + 1)) f t = btwL (xs.take k) f t ++ (if inW f t (xs.getD k (0, 0)) = true then [xs.getD k (0, 0)] else []) := by
  unfold btwL
  rw [List.take_add_one, List.filter_append, List.getElem?_eq_getElem hk, List.getD_eq_getElem?_getD, List.getElem?_eq_getElem hk]
  simp [List.filter_cons]
theorem btwL_len (xs : List (Int × Int)) (f t : Int) (k : Nat) : (btwL (xs.take k) f t).length ≤ k := by
  have h1 : (btwL (xs.take k) f t).length ≤ (xs.take k).length := List.length_filter_le _ _
  have h2 : (xs.take k).length ≤ k := List.length_take_le _ _
  omega
theorem prng_mem {xs : List (Int × Int)} (h : ∀ j, Rng (xs.getD j (0, 0)).1 ∧ Rng (xs.getD j (0, 0)).2) : ∀ p ∈ xs, Rng p.1 ∧ Rng p.2 := by
  intro p hp
  obtain ⟨i, hi, rfl⟩ := List.getElem_of_mem hp
  have := h i
  rw [List.getD_eq_getElem?_getD, List.getElem?_eq_getElem hi] at this
  exact this
theorem prng_of {xs : List (Int × Int)} (h : ∀ p ∈ xs, Rng p.1 ∧ Rng p.2) (j : Nat) : Rng (xs.getD j (0, 0)).1 ∧ Rng (xs.getD j (0, 0)).2 := by
  by_cases hj : j < xs.length
  · rw [List.getD_eq_getElem?_getD, List.getElem?_eq_getElem hj]
    exact h _ (List.getElem_mem hj)
  · rw [List.getD_eq_getElem?_getD, List.getElem?_eq_none (by omega)]; exact ⟨rng_zero, rng_zero⟩
theorem btwL_ok (xs : List (Int × Int)) (f t : Int) (h : ∀ j, Rng (xs.getD j (0, 0)).1 ∧ Rng (xs.getD j (0, 0)).2) (hl : xs.length ≤ 1048576) :
    (∀ j, Rng ((btwL xs f t).getD j (0, 0)).1 ∧ Rng ((btwL xs f t).getD j (0, 0)).2) ∧ (btwL xs f t).length ≤ 1048576 :=
  ⟨prng_of fun p hp => prng_mem h p ((List.mem_filter.1 hp).1), Nat.le_trans (List.length_filter_le _ _) hl⟩
theorem btwM_ok (xs : List (Int × Int)) (f t : Int) (h : ∀ j, Rng (xs.getD j (0, 0)).1 ∧ Rng (xs.getD j (0, 0)).2) (hl : xs.length ≤ 1048576) :
    (∀ j, Rng ((btwM xs f t).getD j (0, 0)).1 ∧ Rng ((btwM xs f t).getD j (0, 0)).2) ∧ (btwM xs f t).length ≤ 1048576 := by
  unfold btwM
  split
  · exact btwL_ok xs f t h hl
  · exact ⟨fun j => ⟨rng_zero, rng_zero⟩, Nat.zero_le _⟩
theorem two_cells {w : World} {b : Nat} {x y : Value} (h0 : w.cell? ⟨b, 0, none⟩ = some x) (h1 : w.cell? ⟨b, 1, none⟩ = some y) : ∀ (j : Nat) (u : Value), [x, y][j]? = some u → w.cell? ((⟨b, 0, none⟩ : Addr).add j) = some u := by
  intro j u hj
  match j with
  | 0 => simp at hj; subst hj; exact h0
  | 1 => simp at hj; subst hj; exact h1
  | j + 2 => simp at hj

theorem own_mono {w : World} {base base' sz : Nat} {e : TypeId} {v : Value} {n : Nat} {xs : List Value} (h : w.ownsRow base e sz v n xs) (hb : base' ≤ base) : w.ownsRow base' e sz v n xs :=
  ⟨h.1, h.2.imp id fun ⟨g, cap, cur, a, b, c⟩ => ⟨g, cap, cur, a, Nat.le_trans hb b, c⟩⟩
theorem below_appendN {w wr w1 : World} {B base sz : Nat} {e : TypeId} {v : Value} {n : Nat} {xs : List Value} {o : Obj} (hb : Below B w wr) (hB : B ≤ base) (hBw : B ≤ wr.heap.size) (hown : wr.ownsRow base e sz v n xs) (hgrow : (wr.alloc o).grownBy w1 v.ownBlock) : Below B w w1 :=
  (hb.alloc (by omega) _).grown hgrow (by simp; omega) (fun k hk => by have := (hown.lt _ hk).1; omega)



end Go.Proofs.Ytljmiodkmddllaa
