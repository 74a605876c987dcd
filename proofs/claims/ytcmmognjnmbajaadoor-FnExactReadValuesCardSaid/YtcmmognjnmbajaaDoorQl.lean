/- Round trip: a value's step, read. -/
import Derived.Test.YtcmmognjnmbajaaDoorEa
import Derived.Test.YtcmmognjnmbajaaDoorEe
set_option linter.unusedVariables false
set_option linter.unusedSimpArgs false
namespace Go.Proofs.YtcmmognjnmbajaaDoor
open Go.RowKit

theorem u64_is (x : Int) : u64of x = u64n x := rfl
theorem mod_of_zeros {u b : Nat} (h : ∀ j, j < b → u.testBit j = false) : u % 2 ^ b = 0 := by
  apply Nat.eq_of_testBit_eq
  intro j
  rw [Nat.testBit_mod_two_pow, Nat.zero_testBit]
  by_cases hj : j < b
  · rw [h j hj, Bool.and_false]
  · simp [hj]
/-- a number that is not 0 lies between its zeros -/
theorem nz_between {x : Int} (h : x ≠ 0) (h0 : -9223372036854775808 ≤ x) (h1 : x ≤ 9223372036854775807) : u64of x < 2 ^ (64 - leadK x) ∧ u64of x % 2 ^ trailK x = 0 ∧ leadK x + trailK x ≤ 63 := by
  rw [u64_is]
  have hu := u64n_lt x
  obtain ⟨b, hb1, hb2, hb3⟩ := exists_low (fun j => (u64n x).testBit j) 64 (bit_some (u64n_ne h h0 h1) hu)
  obtain ⟨a, ha1, ha2, ha3⟩ := exists_low (fun j => (u64n x).testBit (63 - j)) 64 (by
    exact ⟨63 - b, by omega, by show (u64n x).testBit (63 - (63 - b)) = true; rw [show 63 - (63 - b) = b by omega]; exact hb2⟩)
  have hl : leadK x = a := by unfold leadK; rw [leadN_one ha1 ha3 ha2]; simp
  have ht : trailK x = b := by unfold trailK; rw [trailN_one hb3 hb2]; simp
  have h3 := (nzK h h0 h1).2.2
  exact ⟨by rw [hl]; exact lt_of_zeros hu (by omega) ha3, by rw [ht]; exact mod_of_zeros hb3, h3⟩
/-- within a window the bits are kept -/
theorem win_keeps {x : Int} {l t : Nat} (h : x ≠ 0) (h0 : -9223372036854775808 ≤ x) (h1 : x ≤ 9223372036854775807) (hl : l ≤ leadK x) (ht : t ≤ trailK x) (hlt : l + t ≤ 63) :
    u64of x / 2 ^ t < 2 ^ (64 - l - t) ∧ u64of x / 2 ^ t * 2 ^ t = u64of x := by
  obtain ⟨g1, g2, g3⟩ := nz_between h h0 h1
  constructor
  · rw [Nat.div_lt_iff_lt_mul (Nat.two_pow_pos t), ← Nat.pow_add, show 64 - l - t + t = 64 - l by omega]
    exact Nat.lt_of_lt_of_le g1 (Nat.pow_le_pow_right (by omega) (by omega))
  · have hd : 2 ^ t ∣ u64of x := Nat.dvd_trans (Nat.pow_dvd_pow 2 ht) (Nat.dvd_of_mod_eq_zero g2)
    exact Nat.div_mul_cancel hd
def numB (L : List Bool) (p k : Nat) : Nat := BM.ofBits (fun j => L.getD (p + j) false) k
theorem numB_mid (A C : List Bool) (v n : Nat) (hv : v < 2 ^ n) : numB (A ++ (BM.digits v n ++ C)) A.length n = v := by
  unfold numB
  refine Eq.trans (BM.ofBits_congr (g := fun i => v.testBit (n - 1 - i)) fun i hi => ?_) (BM.ofBits_testBit v n hv)
  simp only [List.getD_eq_getElem?_getD]
  rw [List.getElem?_append_right (by omega), Nat.add_sub_cancel_left, List.getElem?_append_left (by rw [BM.digits_length]; exact hi)]
  have h := BM.digits_getD v n i
  rw [if_pos hi, List.getD_eq_getElem?_getD] at h
  exact h
theorem numB_bit (A C : List Bool) (b : Bool) : numB (A ++ b :: C) A.length 1 = b.toNat := by
  have h := numB_mid A C b.toNat 1 (by cases b <;> decide)
  have e : BM.digits b.toNat 1 = [b] := by cases b <;> decide
  rw [e] at h
  simpa using h
/-- the number of a step's bits back as a change -/
theorem change_back {x : Int} (h0 : -9223372036854775808 ≤ x) (h1 : x ≤ 9223372036854775807) : wrap64 ((u64of x : Nat) : Int) = x := by
  unfold wrap64 u64of; omega
/-- a step: the first bit, the second, the window's two numbers, the window's bits -/
def stepR (L : List Bool) (p l t : Nat) : Option (Int × Nat × Nat × Nat) :=
  if p + 1 ≤ L.length then
    if numB L p 1 = 0 then some (0, p + 1, l, t)
    else if p + 2 ≤ L.length then
      if numB L (p + 1) 1 = 0 then
        (if l + t ≤ 63 ∧ p + 2 + (64 - l - t) ≤ L.length then some (wrap64 ((numB L (p + 2) (64 - l - t) * 2 ^ t : Nat) : Int), p + 2 + (64 - l - t), l, t) else none)
      else if p + 13 ≤ L.length then
        (if numB L (p + 2) 5 + numB L (p + 7) 6 ≤ 63 ∧ p + 13 + (numB L (p + 7) 6 + 1) ≤ L.length then
          some (wrap64 ((numB L (p + 13) (numB L (p + 7) 6 + 1) * 2 ^ (63 - numB L (p + 2) 5 - numB L (p + 7) 6) : Nat) : Int), p + 13 + (numB L (p + 7) 6 + 1), numB L (p + 2) 5, 63 - numB L (p + 2) 5 - numB L (p + 7) 6)
        else none)
      else none
    else none
  else none
theorem stepR_back {x : Int} {l t : Nat} (hx0 : -9223372036854775808 ≤ x) (hx1 : x ≤ 9223372036854775807) (A C : List Bool) :
    stepR (A ++ (stepL x l t ++ C)) A.length l t = some (x, A.length + (stepL x l t).length, (stepS x l t).1, (stepS x l t).2) := by
  by_cases h : x = 0
  · have e : stepL x l t = [false] := by unfold stepL; rw [if_pos h]
    have e2 : stepS x l t = (l, t) := by unfold stepS; rw [if_pos h]
    rw [e, e2]
    unfold stepR
    rw [if_pos (by simp), show A ++ ([false] ++ C) = A ++ false :: C from rfl, numB_bit A C false, if_pos (by decide), h]
    rfl
  · by_cases hw : inW x l t = true
    · have e : stepL x l t = [true, false] ++ winL x l t := by unfold stepL; rw [if_neg h, if_pos hw]
      have e2 : stepS x l t = (l, t) := by unfold stepS; rw [if_neg h, if_pos hw]
      have hw' := hw
      unfold inW at hw'
      simp only [decide_eq_true_eq] at hw'
      obtain ⟨k1, k2⟩ := win_keeps h hx0 hx1 hw'.2.1 hw'.2.2 (by omega)
      have hlen : (winL x l t).length = 64 - l - t := by unfold winL; rw [BM.digits_length]
      rw [e, e2]
      have b1 : numB (A ++ ([true, false] ++ winL x l t ++ C)) A.length 1 = 1 := numB_bit A _ true
      have b2 : numB (A ++ ([true, false] ++ winL x l t ++ C)) (A.length + 1) 1 = 0 := by
        have := numB_bit (A ++ [true]) (winL x l t ++ C) false
        simpa using this
      have b3 : numB (A ++ ([true, false] ++ winL x l t ++ C)) (A.length + 2) (64 - l - t) = u64of x / 2 ^ t := by
        have := numB_mid (A ++ [true, false]) C (u64of x / 2 ^ t) (64 - l - t) k1
        unfold winL
        simpa using this
      unfold stepR
      rw [if_pos (by simp), b1, if_neg (by decide), if_pos (by simp), b2, if_pos rfl, if_pos ⟨by omega, by simp [hlen]; omega⟩, b3, k2, change_back hx0 hx1]
      simp [hlen]; omega
    · have e : stepL x l t = newL x (min 31 (leadK x)) (trailK x) := by unfold stepL; rw [if_neg h, if_neg hw]
      have e2 : stepS x l t = (min 31 (leadK x), trailK x) := by unfold stepS; rw [if_neg h, if_neg hw]
      have g3 := (nz_between h hx0 hx1).2.2
      obtain ⟨k1, k2⟩ := win_keeps h hx0 hx1 (l := min 31 (leadK x)) (t := trailK x) (by omega) (Nat.le_refl _) (by omega)
      rw [e, e2]
      have hl31 : min 31 (leadK x) ≤ 31 := by omega
      have hsum : min 31 (leadK x) + trailK x ≤ 63 := by omega
      generalize min 31 (leadK x) = l' at *
      generalize trailK x = t' at *
      have hlen : (winL x l' t').length = 64 - l' - t' := by unfold winL; rw [BM.digits_length]
      have hnew : newL x l' t' = true :: true :: (BM.digits l' 5 ++ (BM.digits (63 - l' - t') 6 ++ winL x l' t')) := by unfold newL; simp
      have hnl : (newL x l' t').length = 13 + (64 - l' - t') := by rw [hnew]; simp [hlen, BM.digits_length]; omega
      have b1 : numB (A ++ (newL x l' t' ++ C)) A.length 1 = 1 := by rw [hnew]; exact numB_bit A _ true
      have b2 : numB (A ++ (newL x l' t' ++ C)) (A.length + 1) 1 = 1 := by
        have := numB_bit (A ++ [true]) ((BM.digits l' 5 ++ (BM.digits (63 - l' - t') 6 ++ winL x l' t')) ++ C) true
        rw [hnew]; simpa using this
      have b3 : numB (A ++ (newL x l' t' ++ C)) (A.length + 2) 5 = l' := by
        have := numB_mid (A ++ [true, true]) ((BM.digits (63 - l' - t') 6 ++ winL x l' t') ++ C) l' 5 (by omega)
        rw [hnew]; simpa using this
      have b4 : numB (A ++ (newL x l' t' ++ C)) (A.length + 7) 6 = 63 - l' - t' := by
        have := numB_mid (A ++ [true, true] ++ BM.digits l' 5) (winL x l' t' ++ C) (63 - l' - t') 6 (by omega)
        rw [hnew]; simpa [BM.digits_length] using this
      have b5 : numB (A ++ (newL x l' t' ++ C)) (A.length + 13) (63 - l' - t' + 1) = u64of x / 2 ^ t' := by
        have := numB_mid (A ++ [true, true] ++ BM.digits l' 5 ++ BM.digits (63 - l' - t') 6) C (u64of x / 2 ^ t') (64 - l' - t') k1
        rw [show 63 - l' - t' + 1 = 64 - l' - t' by omega, hnew]
        unfold winL
        simpa [BM.digits_length] using this
      unfold stepR
      rw [if_pos (by simp [hnl]; omega), b1, if_neg (by decide), if_pos (by simp [hnl]; omega), b2, if_neg (by decide), if_pos (by simp [hnl]; omega), b3, b4, if_pos ⟨by omega, by simp [hnl]; omega⟩, b5,
        show 63 - l' - (63 - l' - t') = t' by omega, k2, change_back hx0 hx1, hnl]
      simp only [Option.some.injEq, Prod.mk.injEq, true_and, and_true]
      omega
/-- k values from the place p on -/
def valG (L : List Bool) : Nat → Nat → Option (List Int × Nat × Nat × Nat)
  | 0, p => some ([], p, 64, 64)
  | k + 1, p => match valG L k p with
    | none => none
    | some (xs, q, l, t) =>
      if k = 0 then (if q + 64 ≤ L.length then some (xs ++ [wrap64 ((numB L q 64 : Nat) : Int)], q + 64, 64, 64) else none)
      else match stepR L q l t with
        | none => none
        | some (x, q', l', t') => some (xs ++ [bits .xor .i64 (xs.getD (k - 1) 0) x], q', l', t')
end Go.Proofs.YtcmmognjnmbajaaDoor

/- Round trip: the bits of values, read. -/
set_option linter.unusedVariables false
set_option linter.unusedSimpArgs false
namespace Go.Proofs.YtcmmognjnmbajaaDoor
open Go.RowKit

theorem ql_ofInt_wrap (x : Int) : BitVec.ofInt 64 (IntKind.i64.wrap x) = BitVec.ofInt 64 x := by
  apply BitVec.eq_of_toNat_eq
  rw [BitVec.toNat_ofInt, BitVec.toNat_ofInt, u_i64_wrap]
  unfold wrap64
  omega
theorem ql_ofInt_toNat (v : BitVec 64) : BitVec.ofInt 64 (v.toNat : Int) = v := by
  apply BitVec.eq_of_toNat_eq
  rw [BitVec.toNat_ofInt]
  have := v.isLt
  omega
theorem xor_back {a x : Int} (h0 : -9223372036854775808 ≤ x) (h1 : x ≤ 9223372036854775807) : bits .xor .i64 a (bits .xor .i64 x a) = x := by
  show IntKind.i64.wrap ((BitVec.ofInt 64 a ^^^ BitVec.ofInt 64 (IntKind.i64.wrap ((BitVec.ofInt 64 x ^^^ BitVec.ofInt 64 a).toNat : Int))).toNat : Int) = x
  rw [ql_ofInt_wrap, ql_ofInt_toNat, BitVec.xor_comm (BitVec.ofInt 64 x), ← BitVec.xor_assoc, BitVec.xor_self, BitVec.zero_xor, BitVec.toNat_ofInt, u_i64_wrap]
  unfold wrap64
  omega
theorem valTo_split (xs : List Int) {k n : Nat} (hk : k ≤ n) : ∃ R, (valTo xs n).1 = (valTo xs k).1 ++ R := by
  induction n with
  | zero => obtain rfl : k = 0 := by omega
            exact ⟨[], by simp⟩
  | succ n ih =>
    by_cases e : k = n + 1
    · subst e; exact ⟨[], by simp⟩
    · obtain ⟨R, hR⟩ := ih (by omega)
      rw [valTo]
      by_cases e0 : n = 0
      · subst e0
        obtain rfl : k = 0 := by omega
        exact ⟨BM.digits (u64of (xs.getD 0 0)) 64, by rw [if_pos rfl]; rfl⟩
      · rw [if_neg e0]
        exact ⟨R ++ _, by rw [hR, List.append_assoc]⟩
theorem ql_take_succ (xs : List Int) (k : Nat) (hk : k < xs.length) : xs.take (k + 1) = xs.take k ++ [xs.getD k 0] := by
  rw [List.take_add_one, List.getD_eq_getElem?_getD]
  congr 1
  rw [List.getElem?_eq_getElem hk]; rfl
theorem valG_back {xs : List Int} (hr : ∀ j, Rng (xs.getD j 0)) (A C : List Bool) : ∀ k, k ≤ xs.length →
    valG (A ++ ((valTo xs xs.length).1 ++ C)) k A.length = some (xs.take k, A.length + (valTo xs k).1.length, (valTo xs k).2.1, (valTo xs k).2.2) := by
  intro k
  induction k with
  | zero => intro _; simp [valG, valTo]
  | succ k ih =>
    intro hk
    rw [valG, ih (by omega)]
    simp only
    obtain ⟨R, hR⟩ := valTo_split xs (show k + 1 ≤ xs.length from hk)
    have hlen : A.length + (valTo xs k).1.length = (A ++ (valTo xs k).1).length := by simp
    rw [ql_take_succ xs k (by omega), hlen]
    by_cases e : k = 0
    · subst e
      have h1 : valTo xs (0 + 1) = (BM.digits (u64of (xs.getD 0 0)) 64, 64, 64) := rfl
      have h0 : (valTo xs 0).1 = [] := rfl
      have hL : A ++ ((valTo xs xs.length).1 ++ C) = A ++ (BM.digits (u64of (xs.getD 0 0)) 64 ++ (R ++ C)) := by rw [hR, h1]; simp
      have hg := hr 0
      rw [hL, h0, List.append_nil, if_pos rfl, if_pos (by simp [BM.digits_length]), numB_mid _ _ _ 64 (u64of_lt _), change_back hg.1 hg.2, h1]
      simp [BM.digits_length]
    · have h1 : valTo xs (k + 1) = ((valTo xs k).1 ++ stepL (xr xs k) (valTo xs k).2.1 (valTo xs k).2.2, stepS (xr xs k) (valTo xs k).2.1 (valTo xs k).2.2) := by rw [valTo, if_neg e]
      have hL : A ++ ((valTo xs xs.length).1 ++ C) = (A ++ (valTo xs k).1) ++ (stepL (xr xs k) (valTo xs k).2.1 (valTo xs k).2.2 ++ (R ++ C)) := by
        rw [hR, h1]; simp only [List.append_assoc]
      have hx : -9223372036854775808 ≤ xr xs k ∧ xr xs k ≤ 9223372036854775807 := xor_rng (xs.getD k 0) (xs.getD (k - 1) 0)
      rw [if_neg e, hL, stepR_back hx.1 hx.2, h1]
      simp only
      have ht : (xs.take k).getD (k - 1) 0 = xs.getD (k - 1) 0 := by
        simp only [List.getD_eq_getElem?_getD, List.getElem?_take]
        rw [if_pos (by omega)]
      rw [ht]
      unfold xr
      rw [xor_back (hr k).1 (hr k).2]
      simp; omega
end Go.Proofs.YtcmmognjnmbajaaDoor
