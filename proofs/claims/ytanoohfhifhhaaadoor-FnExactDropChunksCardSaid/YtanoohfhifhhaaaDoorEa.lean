/- Walks: windows of the bits of a value. -/
import Derived.Test.YtanoohfhifhhaaaDoorVt
import Derived.Test.YtanoohfhifhhaaaDoorWh
import Derived.Test.YtanoohfhifhhaaaDoorWk
import Derived.Test.YtanoohfhifhhaaaDoorWc
set_option linter.unusedVariables false
set_option linter.unusedSimpArgs false
namespace Go.Proofs.YtanoohfhifhhaaaDoor
open Go.RowKit

theorem exists_low (f : Nat → Bool) (n : Nat) (h : ∃ j, j < n ∧ f j = true) : ∃ k, k < n ∧ f k = true ∧ ∀ j, j < k → f j = false := by
  induction n with
  | zero => obtain ⟨j, h, _⟩ := h; omega
  | succ n ih =>
    by_cases hl : ∃ j, j < n ∧ f j = true
    · obtain ⟨k, h1, h2, h3⟩ := ih hl; exact ⟨k, by omega, h2, h3⟩
    · obtain ⟨j, h1, h2⟩ := h
      have hj : j = n := by
        rcases Nat.lt_or_ge j n with h | h
        · exact absurd ⟨j, h, h2⟩ hl
        · omega
      subst hj
      refine ⟨j, h1, h2, fun i hi => ?_⟩
      cases hf : f i with
      | false => rfl
      | true => exact absurd ⟨i, hi, hf⟩ hl
theorem bit_some {u : Nat} (h : u ≠ 0) (hu : u < 2 ^ 64) : ∃ j, j < 64 ∧ u.testBit j = true := by
  by_cases hl : ∃ j, j < 64 ∧ u.testBit j = true
  · exact hl
  · exfalso
    apply h
    apply Nat.eq_of_testBit_eq
    intro i
    rw [Nat.zero_testBit]
    by_cases hi : i < 64
    · cases hf : u.testBit i with
      | false => rfl
      | true => exact absurd ⟨i, hi, hf⟩ hl
    · exact Nat.testBit_lt_two_pow (Nat.lt_of_lt_of_le hu (Nat.pow_le_pow_right (by omega) (by omega)))
theorem u64n_ne {x : Int} (h : x ≠ 0) (h0 : -9223372036854775808 ≤ x) (h1 : x ≤ 9223372036854775807) : u64n x ≠ 0 := by unfold u64n; omega
/-- a number that is not 0 has its bits between its zeros -/
theorem nz_facts {x : Int} (h : x ≠ 0) (h0 : -9223372036854775808 ≤ x) (h1 : x ≤ 9223372036854775807) : ∃ a b : Nat, leadN x = (a : Int) ∧ trailN x = (b : Int) ∧ a + b ≤ 63 := by
  have hu := u64n_lt x
  obtain ⟨b, hb1, hb2, hb3⟩ := exists_low (fun j => (u64n x).testBit j) 64 (bit_some (u64n_ne h h0 h1) hu)
  obtain ⟨a, ha1, ha2, ha3⟩ := exists_low (fun j => (u64n x).testBit (63 - j)) 64 (by
    exact ⟨63 - b, by omega, by show (u64n x).testBit (63 - (63 - b)) = true; rw [show 63 - (63 - b) = b by omega]; exact hb2⟩)
  refine ⟨a, b, leadN_one ha1 ha3 ha2, trailN_one hb3 hb2, ?_⟩
  rcases Nat.lt_or_ge 63 (a + b) with hc | hc
  · have := hb3 (63 - a) (by omega)
    have h2 : (u64n x).testBit (63 - a) = true := ha2
    rw [this] at h2; cases h2
  · exact hc
theorem zero_facts : leadN 0 = 64 ∧ trailN 0 = 64 :=
  ⟨leadN_zero (fun j _ => by simp [u64n]), trailN_zero (fun j _ => by simp [u64n])⟩

def leadK (x : Int) : Nat := (leadN x).toNat
def trailK (x : Int) : Nat := (trailN x).toNat
def winL (x : Int) (l t : Nat) : List Bool := BM.digits (u64of x / 2 ^ t) (64 - l - t)
def inW (x : Int) (l t : Nat) : Bool := decide (l + t < 64 ∧ l ≤ leadK x ∧ t ≤ trailK x)
def stepS (x : Int) (l t : Nat) : Nat × Nat := if x = 0 then (l, t) else if inW x l t = true then (l, t) else (min 31 (leadK x), trailK x)
def newL (x : Int) (l t : Nat) : List Bool := ([true, true] ++ BM.digits l 5) ++ (BM.digits (63 - l - t) 6 ++ winL x l t)
def stepL (x : Int) (l t : Nat) : List Bool := if x = 0 then [false] else if inW x l t = true then [true, false] ++ winL x l t else newL x (min 31 (leadK x)) (trailK x)
/-- a window, or none -/
def OKS (l t : Nat) : Prop := (l = 64 ∧ t = 64) ∨ l + t ≤ 63
def wv (l t : Nat) : Value := if l + t < 64 then .agg #[.int .i64 (l : Int), .int .i64 ((64 - l - t : Nat) : Int)] else .agg #[.int .i64 0, .int .i64 0]
theorem nzK {x : Int} (h : x ≠ 0) (h0 : -9223372036854775808 ≤ x) (h1 : x ≤ 9223372036854775807) : leadN x = (leadK x : Int) ∧ trailN x = (trailK x : Int) ∧ leadK x + trailK x ≤ 63 := by
  obtain ⟨a, b, h2, h3, h4⟩ := nz_facts h h0 h1
  unfold leadK trailK
  rw [h2, h3]
  exact ⟨by simp, by simp, by simpa using h4⟩
theorem stepS_ok {x : Int} {l t : Nat} (h : OKS l t) (h0 : -9223372036854775808 ≤ x) (h1 : x ≤ 9223372036854775807) : OKS (stepS x l t).1 (stepS x l t).2 := by
  unfold stepS
  split
  · exact h
  · split
    · exact h
    · rename_i hx _
      have := (nzK hx h0 h1).2.2
      right
      show min 31 (leadK x) + trailK x ≤ 63
      omega
theorem winL_len (x : Int) (l t : Nat) : (winL x l t).length = 64 - l - t := BM.digits_length _ _
theorem stepL_le (x : Int) (l t : Nat) : (stepL x l t).length ≤ 77 := by
  unfold stepL newL
  split
  · simp
  · split
    · simp [winL_len]; omega
    · simp [winL_len, BM.digits_length]; omega
/-- the model's window is cut out of the digits -/
theorem winL_cut {x : Int} {l t : Nat} (h : l + t ≤ 64) : ((BM.digits (u64of x) 64).drop l).take (64 - l - t) = winL x l t := by
  unfold winL
  apply BM.list_ext_getD
  · rw [List.length_take, List.length_drop, BM.digits_length, BM.digits_length]; omega
  · intro j hj
    rw [List.length_take, List.length_drop, BM.digits_length] at hj
    rw [BM.digits_getD, if_pos (by omega), BM.testBit_shr]
    simp only [List.getD_eq_getElem?_getD, List.getElem?_take, if_pos (show j < 64 - l - t by omega), List.getElem?_drop]
    rw [← List.getD_eq_getElem?_getD, BM.digits_getD, if_pos (by omega)]
    congr 1; omega
end Go.Proofs.YtanoohfhifhhaaaDoor
