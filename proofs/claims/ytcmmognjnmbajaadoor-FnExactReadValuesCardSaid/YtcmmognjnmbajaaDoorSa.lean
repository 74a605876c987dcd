/- Walks: the program's reader of times. -/
import Derived.Test.YtcmmognjnmbajaaDoorHf
import Derived.Test.YtcmmognjnmbajaaDoorTa
import Derived.Test.YtcmmognjnmbajaaDoorDa
set_option linter.unusedVariables false
set_option linter.unusedSimpArgs false
namespace Go.Proofs.YtcmmognjnmbajaaDoor
open Go.RowKit

/-- k times from the place p on, by a reader of the first and a reader of a step's change -/
def timesG (f g : Nat → Option (Int × Nat)) : Nat → Nat → Option (List Int × Nat)
  | 0, p => some ([], p)
  | k + 1, p => match timesG f g k p with
    | none => none
    | some (xs, q) => match (if k = 0 then f q else g q) with
      | none => none
      | some (d, q') => some (xs ++ [if k = 0 then d else xs.getD (k - 1) 0 + (stepAt xs (k - 1) + d)], q')
theorem timesG_none {f g : Nat → Option (Int × Nat)} {k p : Nat} (h : timesG f g k p = none) : ∀ n, k ≤ n → timesG f g n p = none := by
  intro n
  induction n with
  | zero => intro hk; obtain rfl : k = 0 := by omega
            exact h
  | succ n ih =>
    intro hk
    by_cases e : k = n + 1
    · subst e; exact h
    · rw [timesG, ih (by omega)]
theorem timesG_step {f g : Nat → Option (Int × Nat)} {k p q : Nat} {xs : List Int} (h : timesG f g k p = some (xs, q)) :
    timesG f g (k + 1) p = match (if k = 0 then f q else g q) with
      | none => none
      | some (d, q') => some (xs ++ [if k = 0 then d else xs.getD (k - 1) 0 + (stepAt xs (k - 1) + d)], q') := by
  rw [timesG, h]
/-- what the two readers give -/
structure RdOk (f g : Nat → Option (Int × Nat)) (N : Nat) : Prop where
  f : ∀ p d q, p ≤ N → f p = some (d, q) → 0 ≤ d ∧ d < 1099511627776 ∧ p ≤ q ∧ q ≤ N
  g : ∀ p d q, p ≤ N → g p = some (d, q) → -1000000000000 ≤ d ∧ d ≤ 1000000000000 ∧ p ≤ q ∧ q ≤ N
theorem getD_snoc (xs : List Int) (y : Int) (j : Nat) : (xs ++ [y]).getD j 0 = if j < xs.length then xs.getD j 0 else if j = xs.length then y else 0 := by
  simp only [List.getD_eq_getElem?_getD]
  by_cases h : j < xs.length
  · rw [if_pos h, List.getElem?_append_left h]
  · rw [if_neg h, List.getElem?_append_right (by omega)]
    by_cases e : j = xs.length
    · rw [if_pos e, e]; simp
    · rw [if_neg e, List.getElem?_eq_none (by simp; omega)]; rfl
structure TG (xs : List Int) (k p q N : Nat) : Prop where
  len : xs.length = k
  pq : p ≤ q
  qN : q ≤ N
  rng : ∀ j, Rng (xs.getD j 0)
  last : 0 < k → -(1099511627776 + 120000000000000 * (k : Int)) ≤ xs.getD (k - 1) 0 ∧ xs.getD (k - 1) 0 ≤ 1099511627776 + 120000000000000 * (k : Int)
  step : -(1000000000000 * (k : Int)) ≤ stepAt xs (k - 1) ∧ stepAt xs (k - 1) ≤ 1000000000000 * (k : Int)
theorem timesG_ok {f g : Nat → Option (Int × Nat)} {N : Nat} (R : RdOk f g N) {p : Nat} (hp : p ≤ N) : ∀ (k : Nat) (xs : List Int) (q : Nat), k ≤ 120 → timesG f g k p = some (xs, q) → TG xs k p q N := by
  intro k
  induction k with
  | zero =>
    intro xs q _ h
    simp only [timesG, Option.some.injEq, Prod.mk.injEq] at h
    obtain ⟨rfl, rfl⟩ := h
    exact ⟨rfl, Nat.le_refl _, hp, fun j => by simpa using rng_zero, fun h => by omega, by simp [stepAt]⟩
  | succ k ih =>
    intro xs q hk h
    rw [timesG] at h
    cases h0 : timesG f g k p with
    | none => rw [h0] at h; cases h
    | some a =>
      obtain ⟨ys, m⟩ := a
      have T := ih ys m (by omega) h0
      rw [h0] at h
      by_cases e : k = 0
      · subst e
        have hy : ys = [] := List.eq_nil_of_length_eq_zero T.len
        subst hy
        simp only [if_true] at h
        cases h1 : f m with
        | none => rw [h1] at h; cases h
        | some b =>
          obtain ⟨d, q'⟩ := b
          rw [h1] at h
          simp only [Option.some.injEq, Prod.mk.injEq, List.nil_append] at h
          obtain ⟨rfl, rfl⟩ := h
          have hf := R.f m d q' T.qN h1
          refine ⟨rfl, by have := T.pq; omega, hf.2.2.2, fun j => ?_, fun _ => by simp; omega, by simp [stepAt]⟩
          cases j with
          | zero => simp [Rng]; omega
          | succ j => simpa using rng_zero
      · simp only [if_neg e] at h
        cases h1 : g m with
        | none => rw [h1] at h; cases h
        | some b =>
          obtain ⟨d, q'⟩ := b
          rw [h1] at h
          simp only [Option.some.injEq, Prod.mk.injEq] at h
          obtain ⟨rfl, rfl⟩ := h
          have hg := R.g m d q' T.qN h1
          have hl := T.last (by omega)
          have hs := T.step
          have hk0 : 0 < k := by omega
          have e1 : k + 1 - 1 = k := rfl
          have hn : (ys ++ [ys.getD (k - 1) 0 + (stepAt ys (k - 1) + d)]).getD k 0 = ys.getD (k - 1) 0 + (stepAt ys (k - 1) + d) := by
            rw [getD_snoc, T.len, if_neg (by omega), if_pos rfl]
          have ho : (ys ++ [ys.getD (k - 1) 0 + (stepAt ys (k - 1) + d)]).getD (k - 1) 0 = ys.getD (k - 1) 0 := by
            rw [getD_snoc, T.len, if_pos (by omega)]
          have hst : stepAt (ys ++ [ys.getD (k - 1) 0 + (stepAt ys (k - 1) + d)]) k = stepAt ys (k - 1) + d := by
            unfold stepAt at *
            rw [if_neg e, hn, ho]; omega
          refine ⟨by simp [T.len], by have := T.pq; omega, hg.2.2.2, fun j => ?_, fun _ => ?_, ?_⟩
          · rw [getD_snoc, T.len]
            split
            · exact T.rng j
            · split
              · unfold Rng; omega
              · exact rng_zero
          · rw [e1, hn]; omega
          · rw [e1, hst]; omega
theorem stepAt_snoc {ys : List Int} {k : Nat} {d : Int} (hl : ys.length = k) (e : ¬ k = 0) : stepAt (ys ++ [ys.getD (k - 1) 0 + (stepAt ys (k - 1) + d)]) k = stepAt ys (k - 1) + d := by
  have hn : (ys ++ [ys.getD (k - 1) 0 + (stepAt ys (k - 1) + d)]).getD k 0 = ys.getD (k - 1) 0 + (stepAt ys (k - 1) + d) := by
    rw [getD_snoc, hl, if_neg (by omega), if_pos rfl]
  have ho : (ys ++ [ys.getD (k - 1) 0 + (stepAt ys (k - 1) + d)]).getD (k - 1) 0 = ys.getD (k - 1) 0 := by
    rw [getD_snoc, hl, if_pos (by omega)]
  unfold stepAt at *
  rw [if_neg e, hn, ho]; omega
def fW (ws : List Nat) (N q : Nat) : Option (Int × Nat) := if q + 40 ≤ N then some ((BM.getW ws q 40 : Int), q + 40) else none
def timesW (ws : List Nat) (N : Nat) (k p : Nat) : Option (List Int × Nat) := timesG (fW ws N) (getR ws N) k p
def timesFin (r : Option (List Int × Nat)) : Option (List Int × Nat) := match r with
  | none => none
  | some (xs, q) => if timesOkB xs = true then some (xs, q) else none
theorem codeB_lim {d : Int} (h : (codeB d).length ≠ 0) : -1000000000000 ≤ d ∧ d ≤ 1000000000000 := by
  unfold codeB at h
  cases hs : stepB d with
  | false => rw [hs] at h; simp at h
  | true =>
    unfold stepB vIn at hs
    exact of_decide_eq_true hs
theorem onesR_lt (ws : List Nat) (N : Nat) : ∀ (k i p j q : Nat), 0 < k → onesR ws N k i p = some (j, q) → p < q
  | k + 1, i, p, j, q, _, h => by
    rw [onesR] at h
    split at h
    · split at h
      · simp only [Option.some.injEq, Prod.mk.injEq] at h; omega
      · cases k with
        | zero => simp only [onesR, Option.some.injEq, Prod.mk.injEq] at h; omega
        | succ k => have := onesR_lt ws N (k + 1) (i + 1) (p + 1) j q (by omega) h; omega
    · cases h
theorem rdOk_W {ws : List Nat} {N : Nat} (hw : RdW ws N) : RdOk (fW ws N) (getR ws N) N where
  f := fun p d q hp h => by
    unfold fW at h
    split at h
    · simp only [Option.some.injEq, Prod.mk.injEq] at h
      have := hw.v p 40 (by omega)
      omega
    · cases h
  g := fun p d q hp h => by
    unfold getR at h
    cases h1 : onesR ws N 4 0 p with
    | none => rw [h1] at h; cases h
    | some a =>
      obtain ⟨i, m⟩ := a
      rw [h1] at h
      have hm := onesR_lt ws N 4 0 p i m (by omega) h1
      simp only at h
      split at h
      · split at h
        · rename_i hc hn
          simp only [Option.some.injEq, Prod.mk.injEq] at h
          obtain ⟨rfl, rfl⟩ := h
          have := codeB_lim (d := (BM.getW ws m (bitsI i) : Int) - offI i) (by omega)
          omega
        · cases h
      · cases h
end Go.Proofs.YtcmmognjnmbajaaDoor
