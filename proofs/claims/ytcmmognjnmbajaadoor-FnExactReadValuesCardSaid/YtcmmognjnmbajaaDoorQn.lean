/- Plain facts: what the program's reader of values reads, and when it agrees with its bits. -/
import Derived.Test.YtcmmognjnmbajaaDoorQl
set_option linter.unusedVariables false
set_option linter.unusedSimpArgs false
namespace Go.Proofs.YtcmmognjnmbajaaDoor
open Go.RowKit

/-- the window, before and size, of what stands ahead and behind -/
def winB (l t : Nat) : Nat × Nat := if l + t ≤ 63 then (l, 64 - l - t) else (0, 0)
/-- a step of the program's reader over any numbers -/
def stepI (num : Nat → Nat → Nat) (N p b z : Nat) : Option (Int × Nat × Nat × Nat) :=
  if p + 1 ≤ N then
    if num p 1 = 0 then some (0, p + 1, b, z)
    else if p + 2 ≤ N then
      if num (p + 1) 1 = 1 then
        if p + 13 ≤ N ∧ num (p + 2) 5 + (num (p + 7) 6 + 1) ≤ 64 then
          if p + 13 + (num (p + 7) 6 + 1) ≤ N then
            some (wrap64 ((num (p + 13) (num (p + 7) 6 + 1) * 2 ^ (64 - num (p + 2) 5 - (num (p + 7) 6 + 1)) : Nat) : Int), p + 13 + (num (p + 7) 6 + 1), num (p + 2) 5, num (p + 7) 6 + 1)
          else none
        else none
      else if p + 2 + z ≤ N then some (wrap64 ((num (p + 2) z * 2 ^ (64 - b - z) : Nat) : Int), p + 2 + z, b, z)
      else none
    else none
  else none
def valI (num : Nat → Nat → Nat) (N : Nat) : Nat → Nat → Option (List Int × Nat × Nat × Nat)
  | 0, p => some ([], p, 0, 0)
  | k + 1, p => match valI num N k p with
    | none => none
    | some (xs, q, b, z) =>
      if k = 0 then (if q + 64 ≤ N then some (xs ++ [wrap64 ((num q 64 : Nat) : Int)], q + 64, 0, 0) else none)
      else match stepI num N q b z with
        | none => none
        | some (x, q', b', z') => some (xs ++ [bits .xor .i64 (xs.getD (k - 1) 0) x], q', b', z')
theorem valI_none {num : Nat → Nat → Nat} {N k p : Nat} (h : valI num N k p = none) : ∀ n, k ≤ n → valI num N n p = none := by
  intro n
  induction n with
  | zero => intro hk; obtain rfl : k = 0 := by omega
            exact h
  | succ n ih =>
    intro hk
    by_cases e : k = n + 1
    · subst e; exact h
    · rw [valI, ih (by omega)]
theorem stepI_congr {f g : Nat → Nat → Nat} {N : Nat} (h : ∀ q k, k ≤ 64 → f q k = g q k) {p b z : Nat} (hz : z ≤ 64) : stepI f N p b z = stepI g N p b z := by
  unfold stepI
  rw [h p 1 (by omega), h (p + 1) 1 (by omega), h (p + 2) 5 (by omega), h (p + 7) 6 (by omega), h (p + 2) z hz]
  by_cases c : g (p + 2) 5 + (g (p + 7) 6 + 1) ≤ 64
  · rw [h (p + 13) (g (p + 7) 6 + 1) (by omega)]
  · have hc : ∀ P : Prop, ¬ (P ∧ g (p + 2) 5 + (g (p + 7) 6 + 1) ≤ 64) := fun P hh => c hh.2
    simp only [if_neg (hc _)]
/-- what a step keeps -/
theorem stepI_ok {num : Nat → Nat → Nat} {N p b z : Nat} {x : Int} {q b' z' : Nat} (hbz : b + z ≤ 64) (hz0 : z = 0 → b = 0) (h : stepI num N p b z = some (x, q, b', z')) :
    Rng x ∧ p < q ∧ q ≤ N ∧ b' + z' ≤ 64 ∧ (z' = 0 → b' = 0) := by
  have hr : ∀ y : Int, Rng (wrap64 y) := fun y => by unfold Rng wrap64; omega
  unfold stepI at h
  split at h
  · split at h
    · simp only [Option.some.injEq, Prod.mk.injEq] at h
      obtain ⟨rfl, rfl, rfl, rfl⟩ := h
      exact ⟨⟨by omega, by omega⟩, by omega, by omega, hbz, hz0⟩
    · split at h
      · split at h
        · split at h
          · split at h
            · simp only [Option.some.injEq, Prod.mk.injEq] at h
              obtain ⟨rfl, rfl, rfl, rfl⟩ := h
              exact ⟨hr _, by omega, by omega, by omega, by omega⟩
            · cases h
          · cases h
        · split at h
          · simp only [Option.some.injEq, Prod.mk.injEq] at h
            obtain ⟨rfl, rfl, rfl, rfl⟩ := h
            exact ⟨hr _, by omega, by omega, hbz, hz0⟩
          · cases h
      · cases h
  · cases h
structure VG (xs : List Int) (k p q b z N : Nat) : Prop where
  len : xs.length = k
  pq : p ≤ q
  qN : q ≤ N
  rng : ∀ j, Rng (xs.getD j 0)
  bz : b + z ≤ 64
  z0 : z = 0 → b = 0
theorem rng_nil (j : Nat) : Rng (([] : List Int).getD j 0) := by
  have : ([] : List Int).getD j 0 = 0 := by simp
  rw [this]; exact ⟨by omega, by omega⟩
theorem rng_snoc {xs : List Int} {y : Int} (h : ∀ j, Rng (xs.getD j 0)) (hy : Rng y) (j : Nat) : Rng ((xs ++ [y]).getD j 0) := by
  simp only [List.getD_eq_getElem?_getD]
  by_cases hj : j < xs.length
  · rw [List.getElem?_append_left hj, ← List.getD_eq_getElem?_getD]; exact h j
  · rw [List.getElem?_append_right (by omega)]
    by_cases e : j = xs.length
    · subst e; simpa using hy
    · rw [List.getElem?_eq_none (by simp; omega)]; exact ⟨by simp, by simp⟩
theorem valI_ok {num : Nat → Nat → Nat} {N p : Nat} (hp : p ≤ N) : ∀ (k : Nat) (xs : List Int) (q b z : Nat), valI num N k p = some (xs, q, b, z) → VG xs k p q b z N := by
  intro k
  induction k with
  | zero =>
    intro xs q b z h
    simp only [valI, Option.some.injEq, Prod.mk.injEq] at h
    obtain ⟨rfl, rfl, rfl, rfl⟩ := h
    exact ⟨rfl, Nat.le_refl _, hp, rng_nil, by omega, by omega⟩
  | succ k ih =>
    intro xs q b z h
    rw [valI] at h
    cases h0 : valI num N k p with
    | none => rw [h0] at h; cases h
    | some a =>
      obtain ⟨ys, m, b0, z0⟩ := a
      have T := ih ys m b0 z0 h0
      rw [h0] at h
      simp only at h
      by_cases e : k = 0
      · rw [if_pos e] at h
        split at h
        · simp only [Option.some.injEq, Prod.mk.injEq] at h
          obtain ⟨rfl, rfl, rfl, rfl⟩ := h
          exact ⟨by simp [T.len], by have := T.pq; omega, by omega, rng_snoc T.rng (by unfold Rng wrap64; omega), by omega, by omega⟩
        · cases h
      · rw [if_neg e] at h
        cases h1 : stepI num N m b0 z0 with
        | none => rw [h1] at h; cases h
        | some s =>
          obtain ⟨x, q', b', z'⟩ := s
          rw [h1] at h
          simp only [Option.some.injEq, Prod.mk.injEq] at h
          obtain ⟨rfl, rfl, rfl, rfl⟩ := h
          obtain ⟨k1, k2, k3, k4, k5⟩ := stepI_ok T.bz T.z0 h1
          exact ⟨by simp [T.len], by have := T.pq; omega, k3, rng_snoc T.rng (xor_rng _ _), k4, k5⟩
theorem valI_congr {f g : Nat → Nat → Nat} {N p : Nat} (hp : p ≤ N) (h : ∀ q k, k ≤ 64 → f q k = g q k) : ∀ k, valI f N k p = valI g N k p
  | 0 => rfl
  | k + 1 => by
    rw [valI, valI, valI_congr hp h k]
    cases h0 : valI g N k p with
    | none => rfl
    | some a =>
      obtain ⟨ys, m, b0, z0⟩ := a
      have T := valI_ok hp k ys m b0 z0 h0
      simp only
      rw [h m 64 (by omega), stepI_congr h (by have := T.bz; omega)]
theorem valI_step {num : Nat → Nat → Nat} {N k p q b z : Nat} {xs : List Int} (h : valI num N k p = some (xs, q, b, z)) :
    valI num N (k + 1) p = if k = 0 then (if q + 64 ≤ N then some (xs ++ [wrap64 ((num q 64 : Nat) : Int)], q + 64, 0, 0) else none)
      else match stepI num N q b z with
        | none => none
        | some (x, q', b', z') => some (xs ++ [bits .xor .i64 (xs.getD (k - 1) 0) x], q', b', z') := by
  rw [valI, h]
/-- what the document's step reads, the program's reads too -/
theorem stepI_of {L : List Bool} {p l t : Nat} {x : Int} {q l' t' : Nat} (hok : l + t ≤ 63 ∨ l = 64 ∧ t = 64) (h : stepR L p l t = some (x, q, l', t')) :
    stepI (numB L) L.length p (winB l t).1 (winB l t).2 = some (x, q, (winB l' t').1, (winB l' t').2) ∧ (l' + t' ≤ 63 ∨ l' = 64 ∧ t' = 64) := by
  have hb1 : numB L (p + 1) 1 < 2 := BM.ofBits_lt _ _
  have h5 : numB L (p + 2) 5 < 32 := BM.ofBits_lt _ _
  have h6 : numB L (p + 7) 6 < 64 := BM.ofBits_lt _ _
  unfold stepR at h
  unfold stepI
  split at h
  · rename_i c1
    rw [if_pos c1]
    split at h
    · rename_i c2
      simp only [Option.some.injEq, Prod.mk.injEq] at h
      obtain ⟨rfl, rfl, rfl, rfl⟩ := h
      rw [if_pos c2]
      exact ⟨rfl, hok⟩
    · rename_i c2
      rw [if_neg c2]
      split at h
      · rename_i c3
        rw [if_pos c3]
        split at h
        · rename_i c4
          rw [if_neg (by omega)]
          split at h
          · rename_i c5
            simp only [Option.some.injEq, Prod.mk.injEq] at h
            obtain ⟨rfl, rfl, rfl, rfl⟩ := h
            have e : winB l t = (l, 64 - l - t) := by unfold winB; rw [if_pos c5.1]
            rw [e]
            simp only
            rw [if_pos (by omega), show 64 - l - (64 - l - t) = t by omega]
            exact ⟨rfl, .inl c5.1⟩
          · cases h
        · rename_i c4
          rw [if_pos (by omega)]
          split at h
          · rename_i c5
            split at h
            · rename_i c6
              simp only [Option.some.injEq, Prod.mk.injEq] at h
              obtain ⟨rfl, rfl, rfl, rfl⟩ := h
              generalize numB L (p + 2) 5 = V at *
              generalize numB L (p + 7) 6 = S at *
              have e : winB V (63 - V - S) = (V, S + 1) := by unfold winB; rw [if_pos (by omega)]; congr 1; omega
              rw [if_pos ⟨c5, by omega⟩, if_pos (by omega), e, show 64 - V - (S + 1) = 63 - V - S by omega]
              exact ⟨rfl, .inl (by omega)⟩
            · cases h
          · cases h
      · cases h
  · cases h
theorem valI_of {L : List Bool} {p : Nat} : ∀ (k : Nat) (xs : List Int) (q l t : Nat), valG L k p = some (xs, q, l, t) →
    valI (numB L) L.length k p = some (xs, q, (winB l t).1, (winB l t).2) ∧ (l + t ≤ 63 ∨ l = 64 ∧ t = 64) := by
  intro k
  induction k with
  | zero =>
    intro xs q l t h
    simp only [valG, Option.some.injEq, Prod.mk.injEq] at h
    obtain ⟨rfl, rfl, rfl, rfl⟩ := h
    exact ⟨rfl, .inr ⟨rfl, rfl⟩⟩
  | succ k ih =>
    intro xs q l t h
    rw [valG] at h
    cases h0 : valG L k p with
    | none => rw [h0] at h; cases h
    | some a =>
      obtain ⟨ys, m, l0, t0⟩ := a
      obtain ⟨e0, ok0⟩ := ih ys m l0 t0 h0
      rw [h0] at h
      simp only at h
      rw [valI, e0]
      simp only
      by_cases e : k = 0
      · rw [if_pos e] at h ⊢
        split at h
        · rename_i c
          simp only [Option.some.injEq, Prod.mk.injEq] at h
          obtain ⟨rfl, rfl, rfl, rfl⟩ := h
          rw [if_pos c]
          exact ⟨rfl, .inr ⟨rfl, rfl⟩⟩
        · cases h
      · rw [if_neg e] at h ⊢
        cases h1 : stepR L m l0 t0 with
        | none => rw [h1] at h; cases h
        | some s =>
          obtain ⟨x, q', l', t'⟩ := s
          rw [h1] at h
          simp only [Option.some.injEq, Prod.mk.injEq] at h
          obtain ⟨rfl, rfl, rfl, rfl⟩ := h
          obtain ⟨k1, k2⟩ := stepI_of ok0 h1
          rw [k1]
          exact ⟨rfl, k2⟩
/-- a list and the place behind it that agree with the bits -/
def fitB (L : List Bool) (p : Nat) (r : Option (List Int × Nat × Nat × Nat)) : Option (List Int × Nat) := match r with
  | some (xs, q, _, _) => if (valTo xs xs.length).1 = (L.drop p).take (q - p) then some (xs, q) else none
  | none => none
/-- the values that stand in the bits L from the place p on -/
def valsB (L : List Bool) (n p : Nat) : Option (List Int × Nat) := fitB L p (valG L n p)
theorem fit_eq {L : List Bool} {p : Nat} (hp : p ≤ L.length) (n : Nat) : fitB L p (valI (numB L) L.length n p) = valsB L n p := by
  unfold valsB
  cases h : valG L n p with
  | some a =>
    obtain ⟨xs, q, l, t⟩ := a
    rw [(valI_of n xs q l t h).1]
    rfl
  | none =>
    cases hI : valI (numB L) L.length n p with
    | none => rfl
    | some a =>
      obtain ⟨xs, q, b, z⟩ := a
      have T := valI_ok hp n xs q b z hI
      have hpq := T.pq
      have hqN := T.qN
      show (if _ then _ else _) = none
      rw [if_neg]
      intro he
      have hA : (L.take p).length = p := by rw [List.length_take]; omega
      have hL : L = L.take p ++ ((valTo xs xs.length).1 ++ L.drop q) := by
        rw [he]
        have e2 : (L.drop p).take (q - p) ++ L.drop q = L.drop p := by
          have := List.take_append_drop (q - p) (L.drop p)
          rw [List.drop_drop, show p + (q - p) = q by omega] at this
          exact this
        rw [e2, List.take_append_drop]
      have hb := valG_back (xs := xs) T.rng (L.take p) (L.drop q) xs.length (Nat.le_refl _)
      rw [← hL, hA, T.len, h] at hb
      cases hb
end Go.Proofs.YtcmmognjnmbajaaDoor
