/- Round trip: a value's step, read. -/
import Derived.Test.YtanoohfhifhhaaaDoorEa
import Derived.Test.YtanoohfhifhhaaaDoorEe
set_option linter.unusedVariables false
set_option linter.unusedSimpArgs false
namespace Go.Proofs.YtanoohfhifhhaaaDoor
open Go.RowKit

theorem u64_is (x : Int) : u64of x = u64n x := rfl
theorem mod_of_zeros {u b : Nat} (h : ∀ j, j < b → u.testBit j = false) : u % 2 ^ b = 0 := by
  apply Nat.eq_of_testBit_eq
  intro j
  rw [Nat.testBit_mod_two_pow, Nat.zero_testBit]
  by_cases hj : j < b
  · rw [h j hj, Bool.and_false]
  · simp [hj]
/-- a number that is not 0 lies between its zeros -/
theorem nz_between {x : Int} (h : x ≠ 0) (h0 : -9223372036854775808 ≤ x) (h1 : x ≤ 9223372036854775807) : u64of x < 2 ^ (64 - leadK x) ∧ u64of x % 2 ^ trailK x = 0 ∧ leadK x + trailK x ≤ 63 := by
  rw [u64_is]
  have hu := u64n_lt x
  obtain ⟨b, hb1, hb2, hb3⟩ := exists_low (fun j => (u64n x).testBit j) 64 (bit_some (u64n_ne h h0 h1) hu)
  obtain ⟨a, ha1, ha2, ha3⟩ := exists_low (fun j => (u64n x).testBit (63 - j)) 64 (by
    exact ⟨63 - b, by omega, by show (u64n x).testBit (63 - (63 - b)) = true; rw [show 63 - (63 - b) = b by omega]; exact hb2⟩)
  have hl : leadK x = a := by unfold leadK; rw [leadN_one ha1 ha3 ha2]; simp
  have ht : trailK x = b := by unfold trailK; rw [trailN_one hb3 hb2]; simp
  have h3 := (nzK h h0 h1).2.2
  exact ⟨by rw [hl]; exact lt_of_zeros hu (by omega) ha3, by rw [ht]; exact mod_of_zeros hb3, h3⟩
/-- within a window the bits are kept -/
theorem win_keeps {x : Int} {l t : Nat} (h : x ≠ 0) (h0 : -9223372036854775808 ≤ x) (h1 : x ≤ 9223372036854775807) (hl : l ≤ leadK x) (ht : t ≤ trailK x) (hlt : l + t ≤ 63) :
    u64of x / 2 ^ t < 2 ^ (64 - l - t) ∧ u64of x / 2 ^ t * 2 ^ t = u64of x := by
  obtain ⟨g1, g2, g3⟩ := nz_between h h0 h1
  constructor
  · rw [Nat.div_lt_iff_lt_mul (Nat.two_pow_pos t), ← Nat.pow_add, show 64 - l - t + t = 64 - l by omega]
    exact Nat.lt_of_lt_of_le g1 (Nat.pow_le_pow_right (by omega) (by omega))
  · have hd : 2 ^ t ∣ u64of x := Nat.dvd_trans (Nat.pow_dvd_pow 2 ht) (Nat.dvd_of_mod_eq_zero g2)
    exact Nat.div_mul_cancel hd
def numB (L : List Bool) (p k : Nat) : Nat := BM.ofBits (fun j => L.getD (p + j) false) k
theorem numB_mid (A C : List Bool) (v n : Nat) (hv : v < 2 ^ n) : numB (A ++ (BM.digits v n ++ C)) A.length n = v := by
  unfold numB
  refine Eq.trans (BM.ofBits_congr (g := fun i => v.testBit (n - 1 - i)) fun i hi => ?_) (BM.ofBits_testBit v n hv)
  simp only [List.getD_eq_getElem?_getD]
  rw [List.getElem?_append_right (by omega), Nat.add_sub_cancel_left, List.getElem?_append_left (by rw [BM.digits_length]; exact hi)]
  have h := BM.digits_getD v n i
  rw [if_pos hi, List.getD_eq_getElem?_getD] at h
  exact h
theorem numB_bit (A C : List Bool) (b : Bool) : numB (A ++ b :: C) A.length 1 = b.toNat := by
  have h := numB_mid A C b.toNat 1 (by cases b <;> decide)
  have e : BM.digits b.toNat 1 = [b] := by cases b <;> decide
  rw [e] at h
  simpa using h
/-- the number of a step's bits back as a change -/
theorem change_back {x : Int} (h0 : -9223372036854775808 ≤ x) (h1 : x ≤ 9223372036854775807) : wrap64 ((u64of x : Nat) : Int) = x := by
  unfold wrap64 u64of; omega
/-- a step: the first bit, the second, the window's two numbers, the window's bits -/
def stepR (L : List Bool) (p l t : Nat) : Option (Int × Nat × Nat × Nat) :=
  if p + 1 ≤ L.length then
    if numB L p 1 = 0 then some (0, p + 1, l, t)
    else if p + 2 ≤ L.length then
      if numB L (p + 1) 1 = 0 then
        (if l + t ≤ 63 ∧ p + 2 + (64 - l - t) ≤ L.length then some (wrap64 ((numB L (p + 2) (64 - l - t) * 2 ^ t : Nat) : Int), p + 2 + (64 - l - t), l, t) else none)
      else if p + 13 ≤ L.length then
        (if numB L (p + 2) 5 + numB L (p + 7) 6 ≤ 63 ∧ p + 13 + (numB L (p + 7) 6 + 1) ≤ L.length then
          some (wrap64 ((numB L (p + 13) (numB L (p + 7) 6 + 1) * 2 ^ (63 - numB L (p + 2) 5 - numB L (p + 7) 6) : Nat) : Int), p + 13 + (numB L (p + 7) 6 + 1), numB L (p + 2) 5, 63 - numB L (p + 2) 5 - numB L (p + 7) 6)
        else none)
      else none
    else none
  else none
theorem stepR_back {x : Int} {l t : Nat} (hx0 : -9223372036854775808 ≤ x) (hx1 : x ≤ 9223372036854775807) (A C : List Bool) :
    stepR (A ++ (stepL x l t ++ C)) A.length l t = some (x, A.length + (stepL x l t).length, (stepS x l t).1, (stepS x l t).2) := by
  by_cases h : x = 0
  · have e : stepL x l t = [false] := by unfold stepL; rw [if_pos h]
    have e2 : stepS x l t = (l, t) := by unfold stepS; rw [if_pos h]
    rw [e, e2]
    unfold stepR
    rw [if_pos (by simp), show A ++ ([false] ++ C) = A ++ false :: C from rfl, numB_bit A C false, if_pos (by decide), h]
    rfl
  · by_cases hw : inW x l t = true
    · have e : stepL x l t = [true, false] ++ winL x l t := by unfold stepL; rw [if_neg h, if_pos hw]
      have e2 : stepS x l t = (l, t) := by unfold stepS; rw [if_neg h, if_pos hw]
      have hw' := hw
      unfold inW at hw'
      simp only [decide_eq_true_eq] at hw'
      obtain ⟨k1, k2⟩ := win_keeps h hx0 hx1 hw'.2.1 hw'.2.2 (by omega)
      have hlen : (winL x l t).length = 64 - l - t := by unfold winL; rw [BM.digits_length]
      rw [e, e2]
      have b1 : numB (A ++ ([true, false] ++ winL x l t ++ C)) A.length 1 = 1 := numB_bit A _ true
      have b2 : numB (A ++ ([true, false] ++ winL x l t ++ C)) (A.length + 1) 1 = 0 := by
        have := numB_bit (A ++ [true]) (winL x l t ++ C) false
        simpa using this
      have b3 : numB (A ++ ([true, false] ++ winL x l t ++ C)) (A.length + 2) (64 - l - t) = u64of x / 2 ^ t := by
        have := numB_mid (A ++ [true, false]) C (u64of x / 2 ^ t) (64 - l - t) k1
        unfold winL
        simpa using this
      unfold stepR
      rw [if_pos (by simp), b1, if_neg (by decide), if_pos (by simp), b2, if_pos rfl, if_pos ⟨by omega, by simp [hlen]; omega⟩, b3, k2, change_back hx0 hx1]
      simp [hlen]; omega
    · have e : stepL x l t = newL x (min 31 (leadK x)) (trailK x) := by unfold stepL; rw [if_neg h, if_neg hw]
      have e2 : stepS x l t = (min 31 (leadK x), trailK x) := by unfold stepS; rw [if_neg h, if_neg hw]
      have g3 := (nz_between h hx0 hx1).2.2
      obtain ⟨k1, k2⟩ := win_keeps h hx0 hx1 (l := min 31 (leadK x)) (t := trailK x) (by omega) (Nat.le_refl _) (by omega)
      rw [e, e2]
      have hl31 : min 31 (leadK x) ≤ 31 := by omega
      have hsum : min 31 (leadK x) + trailK x ≤ 63 := by omega
      generalize min 31 (leadK x) = l' at *
      generalize trailK x = t' at *
      have hlen : (winL x l' t').length = 64 - l' - t' := by unfold winL; rw [BM.digits_length]
      have hnew : newL x l' t' = true :: true :: (BM.digits l' 5 ++ (BM.digits (63 - l' - t') 6 ++ winL x l' t')) := by unfold newL; simp
      have hnl : (newL x l' t').length = 13 + (64 - l' - t') := by rw [hnew]; simp [hlen, BM.digits_length]; omega
      have b1 : numB (A ++ (newL x l' t' ++ C)) A.length 1 = 1 := by rw [hnew]; exact numB_bit A _ true
      have b2 : numB (A ++ (newL x l' t' ++ C)) (A.length + 1) 1 = 1 := by
        have := numB_bit (A ++ [true]) ((BM.digits l' 5 ++ (BM.digits (63 - l' - t') 6 ++ winL x l' t')) ++ C) true
        rw [hnew]; simpa using this
      have b3 : numB (A ++ (newL x l' t' ++ C)) (A.length + 2) 5 = l' := by
        have := numB_mid (A ++ [true, true]) ((BM.digits (63 - l' - t') 6 ++ winL x l' t') ++ C) l' 5 (by omega)
        rw [hnew]; simpa using this
      have b4 : numB (A ++ (newL x l' t' ++ C)) (A.length + 7) 6 = 63 - l' - t' := by
        have := numB_mid (A ++ [true, true] ++ BM.digits l' 5) (winL x l' t' ++ C) (63 - l' - t') 6 (by omega)
        rw [hnew]; simpa [BM.digits_length] using this
      have b5 : numB (A ++ (newL x l' t' ++ C)) (A.length + 13) (63 - l' - t' + 1) = u64of x / 2 ^ t' := by
        have := numB_mid (A ++ [true, true] ++ BM.digits l' 5 ++ BM.digits (63 - l' - t') 6) C (u64of x / 2 ^ t') (64 - l' - t') k1
        rw [show 63 - l' - t' + 1 = 64 - l' - t' by omega, hnew]
        unfold winL
        simpa [BM.digits_length] using this
      unfold stepR
      rw [if_pos (by simp [hnl]; omega), b1, if_neg (by decide), if_pos (by simp [hnl]; omega), b2, if_neg (by decide), if_pos (by simp [hnl]; omega), b3, b4, if_pos ⟨by omega, by simp [hnl]; omega⟩, b5,
        show 63 - l' - (63 - l' - t') = t' by omega, k2, change_back hx0 hx1, hnl]
      simp only [Option.some.injEq, Prod.mk.injEq, true_and, and_true]
      omega
/-- k values from the place p on -/
def valG (L : List Bool) : Nat → Nat → Option (List Int × Nat × Nat × Nat)
  | 0, p => some ([], p, 64, 64)
  | k + 1, p => match valG L k p with
    | none => none
    | some (xs, q, l, t) =>
      if k = 0 then (if q + 64 ≤ L.length then some (xs ++ [wrap64 ((numB L q 64 : Nat) : Int)], q + 64, 64, 64) else none)
      else match stepR L q l t with
        | none => none
        | some (x, q', l', t') => some (xs ++ [bits .xor .i64 (xs.getD (k - 1) 0) x], q', l', t')
end Go.Proofs.YtanoohfhifhhaaaDoor

/- Round trip: the bits of values, read. -/
set_option linter.unusedVariables false
set_option linter.unusedSimpArgs false
namespace Go.Proofs.YtanoohfhifhhaaaDoor
open Go.RowKit

theorem ql_ofInt_wrap (x : Int) : BitVec.ofInt 64 (IntKind.i64.wrap x) = BitVec.ofInt 64 x := by
  apply BitVec.eq_of_toNat_eq
  rw [BitVec.toNat_ofInt, BitVec.toNat_ofInt, u_i64_wrap]
  unfold wrap64
  omega
theorem ql_ofInt_toNat (v : BitVec 64) : BitVec.ofInt 64 (v.toNat : Int) = v := by
  apply BitVec.eq_of_toNat_eq
  rw [BitVec.toNat_ofInt]
  have := v.isLt
  omega
theorem xor_back {a x : Int} (h0 : -9223372036854775808 ≤ x) (h1 : x ≤ 9223372036854775807) : bits .xor .i64 a (bits .xor .i64 x a) = x := by
  show IntKind.i64.wrap ((BitVec.ofInt 64 a ^^^ BitVec.ofInt 64 (IntKind.i64.wrap ((BitVec.ofInt 64 x ^^^ BitVec.ofInt 64 a).toNat : Int))).toNat : Int) = x
  rw [ql_ofInt_wrap, ql_ofInt_toNat, BitVec.xor_comm (BitVec.ofInt 64 x), ← BitVec.xor_assoc, BitVec.xor_self, BitVec.zero_xor, BitVec.toNat_ofInt, u_i64_wrap]
  unfold wrap64
  omega
theorem valTo_split (xs : List Int) {k n : Nat} (hk : k ≤ n) : ∃ R, (valTo xs n).1 = (valTo xs k).1 ++ R := by
  induction n with
  | zero => obtain rfl : k = 0 := by omega
            exact ⟨[], by simp⟩
  | succ n ih =>
    by_cases e : k = n + 1
    · subst e; exact ⟨[], by simp⟩
    · obtain ⟨R, hR⟩ := ih (by omega)
      rw [valTo]
      by_cases e0 : n = 0
      · subst e0
        obtain rfl : k = 0 := by omega
        exact ⟨BM.digits (u64of (xs.getD 0 0)) 64, by rw [if_pos rfl]; rfl⟩
      · rw [if_neg e0]
        exact ⟨R ++ _, by rw [hR, List.append_assoc]⟩
theorem ql_take_succ (xs : List Int) (k : Nat) (hk : k < xs.length) : xs.take (k + 1) = xs.take k ++ [xs.getD k 0] := by
  rw [List.take_add_one, List.getD_eq_getElem?_getD]
  congr 1
  rw [List.getElem?_eq_getElem hk]; rfl
theorem valG_back {xs : List Int} (hr : ∀ j, Rng (xs.getD j 0)) (A C : List Bool) : ∀ k, k ≤ xs.length →
    valG (A ++ ((valTo xs xs.length).1 ++ C)) k A.length = some (xs.take k, A.length + (valTo xs k).1.length, (valTo xs k).2.1, (valTo xs k).2.2) := by
  intro k
  induction k with
  | zero => intro _; simp [valG, valTo]
  | succ k ih =>
    intro hk
    rw [valG, ih (by omega)]
    simp only
    obtain ⟨R, hR⟩ := valTo_split xs (show k + 1 ≤ xs.length from hk)
    have hlen : A.length + (valTo xs k).1.length = (A ++ (valTo xs k).1).length := by simp
    rw [ql_take_succ xs k (by omega), hlen]
    by_cases e : k = 0
    · subst e
      have h1 : valTo xs (0 + 1) = (BM.digits (u64of (xs.getD 0 0)) 64, 64, 64) := rfl
      have h0 : (valTo xs 0).1 = [] := rfl
      have hL : A ++ ((valTo xs xs.length).1 ++ C) = A ++ (BM.digits (u64of (xs.getD 0 0)) 64 ++ (R ++ C)) := by rw [hR, h1]; simp
      have hg := hr 0
      rw [hL, h0, List.append_nil, if_pos rfl, if_pos (by simp [BM.digits_length]), numB_mid _ _ _ 64 (u64of_lt _), change_back hg.1 hg.2, h1]
      simp [BM.digits_length]
    · have h1 : valTo xs (k + 1) = ((valTo xs k).1 ++ stepL (xr xs k) (valTo xs k).2.1 (valTo xs k).2.2, stepS (xr xs k) (valTo xs k).2.1 (valTo xs k).2.2) := by rw [valTo, if_neg e]
      have hL : A ++ ((valTo xs xs.length).1 ++ C) = (A ++ (valTo xs k).1) ++ (stepL (xr xs k) (valTo xs k).2.1 (valTo xs k).2.2 ++ (R ++ C)) := by
        rw [hR, h1]; simp only [List.append_assoc]
      have hx : -9223372036854775808 ≤ xr xs k ∧ xr xs k ≤ 9223372036854775807 := xor_rng (xs.getD k 0) (xs.getD (k - 1) 0)
      rw [if_neg e, hL, stepR_back hx.1 hx.2, h1]
      simp only
      have ht : (xs.take k).getD (k - 1) 0 = xs.getD (k - 1) 0 := by
        simp only [List.getD_eq_getElem?_getD, List.getElem?_take]
        rw [if_pos (by omega)]
      rw [ht]
      unfold xr
      rw [xor_back (hr k).1 (hr k).2]
      simp; omega
end Go.Proofs.YtanoohfhifhhaaaDoor

/- Plain facts: what the program's reader of values reads, and when it agrees with its bits. -/
set_option linter.unusedVariables false
set_option linter.unusedSimpArgs false
namespace Go.Proofs.YtanoohfhifhhaaaDoor
open Go.RowKit

/-- the window, before and size, of what stands ahead and behind -/
def winB (l t : Nat) : Nat × Nat := if l + t ≤ 63 then (l, 64 - l - t) else (0, 0)
/-- a step of the program's reader over any numbers -/
def stepI (num : Nat → Nat → Nat) (N p b z : Nat) : Option (Int × Nat × Nat × Nat) :=
  if p + 1 ≤ N then
    if num p 1 = 0 then some (0, p + 1, b, z)
    else if p + 2 ≤ N then
      if num (p + 1) 1 = 1 then
        if p + 13 ≤ N ∧ num (p + 2) 5 + (num (p + 7) 6 + 1) ≤ 64 then
          if p + 13 + (num (p + 7) 6 + 1) ≤ N then
            some (wrap64 ((num (p + 13) (num (p + 7) 6 + 1) * 2 ^ (64 - num (p + 2) 5 - (num (p + 7) 6 + 1)) : Nat) : Int), p + 13 + (num (p + 7) 6 + 1), num (p + 2) 5, num (p + 7) 6 + 1)
          else none
        else none
      else if p + 2 + z ≤ N then some (wrap64 ((num (p + 2) z * 2 ^ (64 - b - z) : Nat) : Int), p + 2 + z, b, z)
      else none
    else none
  else none
def valI (num : Nat → Nat → Nat) (N : Nat) : Nat → Nat → Option (List Int × Nat × Nat × Nat)
  | 0, p => some ([], p, 0, 0)
  | k + 1, p => match valI num N k p with
    | none => none
    | some (xs, q, b, z) =>
      if k = 0 then (if q + 64 ≤ N then some (xs ++ [wrap64 ((num q 64 : Nat) : Int)], q + 64, 0, 0) else none)
      else match stepI num N q b z with
        | none => none
        | some (x, q', b', z') => some (xs ++ [bits .xor .i64 (xs.getD (k - 1) 0) x], q', b', z')
theorem valI_none {num : Nat → Nat → Nat} {N k p : Nat} (h : valI num N k p = none) : ∀ n, k ≤ n → valI num N n p = none := by
  intro n
  induction n with
  | zero => intro hk; obtain rfl : k = 0 := by omega
            exact h
  | succ n ih =>
    intro hk
    by_cases e : k = n + 1
    · subst e; exact h
    · rw [valI, ih (by omega)]
theorem stepI_congr {f g : Nat → Nat → Nat} {N : Nat} (h : ∀ q k, k ≤ 64 → f q k = g q k) {p b z : Nat} (hz : z ≤ 64) : stepI f N p b z = stepI g N p b z := by
  unfold stepI
  rw [h p 1 (by omega), h (p + 1) 1 (by omega), h (p + 2) 5 (by omega), h (p + 7) 6 (by omega), h (p + 2) z hz]
  by_cases c : g (p + 2) 5 + (g (p + 7) 6 + 1) ≤ 64
  · rw [h (p + 13) (g (p + 7) 6 + 1) (by omega)]
  · have hc : ∀ P : Prop, ¬ (P ∧ g (p + 2) 5 + (g (p + 7) 6 + 1) ≤ 64) := fun P hh => c hh.2
    simp only [if_neg (hc _)]
/-- what a step keeps -/
theorem stepI_ok {num : Nat → Nat → Nat} {N p b z : Nat} {x : Int} {q b' z' : Nat} (hbz : b + z ≤ 64) (hz0 : z = 0 → b = 0) (h : stepI num N p b z = some (x, q, b', z')) :
    Rng x ∧ p < q ∧ q ≤ N ∧ b' + z' ≤ 64 ∧ (z' = 0 → b' = 0) := by
  have hr : ∀ y : Int, Rng (wrap64 y) := fun y => by unfold Rng wrap64; omega
  unfold stepI at h
  split at h
  · split at h
    · simp only [Option.some.injEq, Prod.mk.injEq] at h
      obtain ⟨rfl, rfl, rfl, rfl⟩ := h
      exact ⟨⟨by omega, by omega⟩, by omega, by omega, hbz, hz0⟩
    · split at h
      · split at h
        · split at h
          · split at h
            · simp only [Option.some.injEq, Prod.mk.injEq] at h
              obtain ⟨rfl, rfl, rfl, rfl⟩ := h
              exact ⟨hr _, by omega, by omega, by omega, by omega⟩
            · cases h
          · cases h
        · split at h
          · simp only [Option.some.injEq, Prod.mk.injEq] at h
            obtain ⟨rfl, rfl, rfl, rfl⟩ := h
            exact ⟨hr _, by omega, by omega, hbz, hz0⟩
          · cases h
      · cases h
  · cases h
structure VG (xs : List Int) (k p q b z N : Nat) : Prop where
  len : xs.length = k
  pq : p ≤ q
  qN : q ≤ N
  rng : ∀ j, Rng (xs.getD j 0)
  bz : b + z ≤ 64
  z0 : z = 0 → b = 0
theorem rng_nil (j : Nat) : Rng (([] : List Int).getD j 0) := by
  have : ([] : List Int).getD j 0 = 0 := by simp
  rw [this]; exact ⟨by omega, by omega⟩
theorem rng_snoc {xs : List Int} {y : Int} (h : ∀ j, Rng (xs.getD j 0)) (hy : Rng y) (j : Nat) : Rng ((xs ++ [y]).getD j 0) := by
  simp only [List.getD_eq_getElem?_getD]
  by_cases hj : j < xs.length
  · rw [List.getElem?_append_left hj, ← List.getD_eq_getElem?_getD]; exact h j
  · rw [List.getElem?_append_right (by omega)]
    by_cases e : j = xs.length
    · subst e; simpa using hy
    · rw [List.getElem?_eq_none (by simp; omega)]; exact ⟨by simp, by simp⟩
theorem valI_ok {num : Nat → Nat → Nat} {N p : Nat} (hp : p ≤ N) : ∀ (k : Nat) (xs : List Int) (q b z : Nat), valI num N k p = some (xs, q, b, z) → VG xs k p q b z N := by
  intro k
  induction k with
  | zero =>
    intro xs q b z h
    simp only [valI, Option.some.injEq, Prod.mk.injEq] at h
    obtain ⟨rfl, rfl, rfl, rfl⟩ := h
    exact ⟨rfl, Nat.le_refl _, hp, rng_nil, by omega, by omega⟩
  | succ k ih =>
    intro xs q b z h
    rw [valI] at h
    cases h0 : valI num N k p with
    | none => rw [h0] at h; cases h
    | some a =>
      obtain ⟨ys, m, b0, z0⟩ := a
      have T := ih ys m b0 z0 h0
      rw [h0] at h
      simp only at h
      by_cases e : k = 0
      · rw [if_pos e] at h
        split at h
        · simp only [Option.some.injEq, Prod.mk.injEq] at h
          obtain ⟨rfl, rfl, rfl, rfl⟩ := h
          exact ⟨by simp [T.len], by have := T.pq; omega, by omega, rng_snoc T.rng (by unfold Rng wrap64; omega), by omega, by omega⟩
        · cases h
      · rw [if_neg e] at h
        cases h1 : stepI num N m b0 z0 with
        | none => rw [h1] at h; cases h
        | some s =>
          obtain ⟨x, q', b', z'⟩ := s
          rw [h1] at h
          simp only [Option.some.injEq, Prod.mk.injEq] at h
          obtain ⟨rfl, rfl, rfl, rfl⟩ := h
          obtain ⟨k1, k2, k3, k4, k5⟩ := stepI_ok T.bz T.z0 h1
          exact ⟨by simp [T.len], by have := T.pq; omega, k3, rng_snoc T.rng (xor_rng _ _), k4, k5⟩
theorem valI_congr {f g : Nat → Nat → Nat} {N p : Nat} (hp : p ≤ N) (h : ∀ q k, k ≤ 64 → f q k = g q k) : ∀ k, valI f N k p = valI g N k p
  | 0 => rfl
  | k + 1 => by
    rw [valI, valI, valI_congr hp h k]
    cases h0 : valI g N k p with
    | none => rfl
    | some a =>
      obtain ⟨ys, m, b0, z0⟩ := a
      have T := valI_ok hp k ys m b0 z0 h0
      simp only
      rw [h m 64 (by omega), stepI_congr h (by have := T.bz; omega)]
theorem valI_step {num : Nat → Nat → Nat} {N k p q b z : Nat} {xs : List Int} (h : valI num N k p = some (xs, q, b, z)) :
    valI num N (k + 1) p = if k = 0 then (if q + 64 ≤ N then some (xs ++ [wrap64 ((num q 64 : Nat) : Int)], q + 64, 0, 0) else none)
      else match stepI num N q b z with
        | none => none
        | some (x, q', b', z') => some (xs ++ [bits .xor .i64 (xs.getD (k - 1) 0) x], q', b', z') := by
  rw [valI, h]
/-- what the document's step reads, the program's reads too -/
theorem stepI_of {L : List Bool} {p l t : Nat} {x : Int} {q l' t' : Nat} (hok : l + t ≤ 63 ∨ l = 64 ∧ t = 64) (h : stepR L p l t = some (x, q, l', t')) :
    stepI (numB L) L.length p (winB l t).1 (winB l t).2 = some (x, q, (winB l' t').1, (winB l' t').2) ∧ (l' + t' ≤ 63 ∨ l' = 64 ∧ t' = 64) := by
  have hb1 : numB L (p + 1) 1 < 2 := BM.ofBits_lt _ _
  have h5 : numB L (p + 2) 5 < 32 := BM.ofBits_lt _ _
  have h6 : numB L (p + 7) 6 < 64 := BM.ofBits_lt _ _
  unfold stepR at h
  unfold stepI
  split at h
  · rename_i c1
    rw [if_pos c1]
    split at h
    · rename_i c2
      simp only [Option.some.injEq, Prod.mk.injEq] at h
      obtain ⟨rfl, rfl, rfl, rfl⟩ := h
      rw [if_pos c2]
      exact ⟨rfl, hok⟩
    · rename_i c2
      rw [if_neg c2]
      split at h
      · rename_i c3
        rw [if_pos c3]
        split at h
        · rename_i c4
          rw [if_neg (by omega)]
          split at h
          · rename_i c5
            simp only [Option.some.injEq, Prod.mk.injEq] at h
            obtain ⟨rfl, rfl, rfl, rfl⟩ := h
            have e : winB l t = (l, 64 - l - t) := by unfold winB; rw [if_pos c5.1]
            rw [e]
            simp only
            rw [if_pos (by omega), show 64 - l - (64 - l - t) = t by omega]
            exact ⟨rfl, .inl c5.1⟩
          · cases h
        · rename_i c4
          rw [if_pos (by omega)]
          split at h
          · rename_i c5
            split at h
            · rename_i c6
              simp only [Option.some.injEq, Prod.mk.injEq] at h
              obtain ⟨rfl, rfl, rfl, rfl⟩ := h
              generalize numB L (p + 2) 5 = V at *
              generalize numB L (p + 7) 6 = S at *
              have e : winB V (63 - V - S) = (V, S + 1) := by unfold winB; rw [if_pos (by omega)]; congr 1; omega
              rw [if_pos ⟨c5, by omega⟩, if_pos (by omega), e, show 64 - V - (S + 1) = 63 - V - S by omega]
              exact ⟨rfl, .inl (by omega)⟩
            · cases h
          · cases h
      · cases h
  · cases h
theorem valI_of {L : List Bool} {p : Nat} : ∀ (k : Nat) (xs : List Int) (q l t : Nat), valG L k p = some (xs, q, l, t) →
    valI (numB L) L.length k p = some (xs, q, (winB l t).1, (winB l t).2) ∧ (l + t ≤ 63 ∨ l = 64 ∧ t = 64) := by
  intro k
  induction k with
  | zero =>
    intro xs q l t h
    simp only [valG, Option.some.injEq, Prod.mk.injEq] at h
    obtain ⟨rfl, rfl, rfl, rfl⟩ := h
    exact ⟨rfl, .inr ⟨rfl, rfl⟩⟩
  | succ k ih =>
    intro xs q l t h
    rw [valG] at h
    cases h0 : valG L k p with
    | none => rw [h0] at h; cases h
    | some a =>
      obtain ⟨ys, m, l0, t0⟩ := a
      obtain ⟨e0, ok0⟩ := ih ys m l0 t0 h0
      rw [h0] at h
      simp only at h
      rw [valI, e0]
      simp only
      by_cases e : k = 0
      · rw [if_pos e] at h ⊢
        split at h
        · rename_i c
          simp only [Option.some.injEq, Prod.mk.injEq] at h
          obtain ⟨rfl, rfl, rfl, rfl⟩ := h
          rw [if_pos c]
          exact ⟨rfl, .inr ⟨rfl, rfl⟩⟩
        · cases h
      · rw [if_neg e] at h ⊢
        cases h1 : stepR L m l0 t0 with
        | none => rw [h1] at h; cases h
        | some s =>
          obtain ⟨x, q', l', t'⟩ := s
          rw [h1] at h
          simp only [Option.some.injEq, Prod.mk.injEq] at h
          obtain ⟨rfl, rfl, rfl, rfl⟩ := h
          obtain ⟨k1, k2⟩ := stepI_of ok0 h1
          rw [k1]
          exact ⟨rfl, k2⟩
/-- a list and the place behind it that agree with the bits -/
def fitB (L : List Bool) (p : Nat) (r : Option (List Int × Nat × Nat × Nat)) : Option (List Int × Nat) := match r with
  | some (xs, q, _, _) => if (valTo xs xs.length).1 = (L.drop p).take (q - p) then some (xs, q) else none
  | none => none
/-- the values that stand in the bits L from the place p on -/
def valsB (L : List Bool) (n p : Nat) : Option (List Int × Nat) := fitB L p (valG L n p)
theorem fit_eq {L : List Bool} {p : Nat} (hp : p ≤ L.length) (n : Nat) : fitB L p (valI (numB L) L.length n p) = valsB L n p := by
  unfold valsB
  cases h : valG L n p with
  | some a =>
    obtain ⟨xs, q, l, t⟩ := a
    rw [(valI_of n xs q l t h).1]
    rfl
  | none =>
    cases hI : valI (numB L) L.length n p with
    | none => rfl
    | some a =>
      obtain ⟨xs, q, b, z⟩ := a
      have T := valI_ok hp n xs q b z hI
      have hpq := T.pq
      have hqN := T.qN
      show (if _ then _ else _) = none
      rw [if_neg]
      intro he
      have hA : (L.take p).length = p := by rw [List.length_take]; omega
      have hL : L = L.take p ++ ((valTo xs xs.length).1 ++ L.drop q) := by
        rw [he]
        have e2 : (L.drop p).take (q - p) ++ L.drop q = L.drop p := by
          have := List.take_append_drop (q - p) (L.drop p)
          rw [List.drop_drop, show p + (q - p) = q by omega] at this
          exact this
        rw [e2, List.take_append_drop]
      have hb := valG_back (xs := xs) T.rng (L.take p) (L.drop q) xs.length (Nat.le_refl _)
      rw [← hL, hA, T.len, h] at hb
      cases hb
end Go.Proofs.YtanoohfhifhhaaaDoor
