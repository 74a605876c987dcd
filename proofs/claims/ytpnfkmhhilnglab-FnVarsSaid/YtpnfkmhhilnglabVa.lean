/- Plain facts on the encoding of numbers in bytes of seven bits. -/
namespace Go.Proofs.Ytpnfkmhhilnglab.VM

def var (u : Nat) : List Nat := if u < 128 then [u] else (u % 128 + 128) :: var (u / 128)
termination_by u
decreasing_by omega

theorem var_lt {u : Nat} (h : u < 128) : var u = [u] := by rw [var, if_pos h]
theorem var_ge {u : Nat} (h : 128 ≤ u) : var u = (u % 128 + 128) :: var (u / 128) := by rw [var, if_neg (by omega)]
theorem var_ne (u : Nat) : var u ≠ [] := by
  by_cases h : u < 128
  · rw [var_lt h]; simp
  · rw [var_ge (by omega)]; simp
theorem var_pos (u : Nat) : 0 < (var u).length := List.length_pos_iff.2 (var_ne u)
theorem var_len (k : Nat) : ∀ u : Nat, u < 2 ^ (7 * (k + 1)) → (var u).length ≤ k + 1 := by
  induction k with
  | zero => intro u h; rw [var_lt (by simpa using h)]; simp
  | succ k ih =>
    intro u h
    by_cases hu : u < 128
    · rw [var_lt hu]; simp
    · rw [var_ge (by omega)]
      have : u / 128 < 2 ^ (7 * (k + 1)) := by
        rw [Nat.div_lt_iff_lt_mul (by decide)]
        have e : 2 ^ (7 * (k + 1 + 1)) = 2 ^ (7 * (k + 1)) * 128 := by rw [show 7 * (k + 1 + 1) = 7 * (k + 1) + 7 from by omega, Nat.pow_add]
        omega
      have := ih _ this
      simp; omega
theorem var_len64 (u : Nat) (h : u < 2 ^ 64) : (var u).length ≤ 10 := var_len 9 u (by omega)
theorem var_byte (u : Nat) : ∀ x ∈ var u, x < 256 := by
  induction u using Nat.strongRecOn with
  | ind u ih =>
    by_cases h : u < 128
    · rw [var_lt h]; simp; omega
    · rw [var_ge (by omega)]
      intro x hx
      rcases List.mem_cons.1 hx with rfl | hx
      · omega
      · exact ih _ (by omega) x hx
/-- All bytes but the last one are at least 128, the last one is less. -/
theorem var_shape (u : Nat) : ∀ k, k < (var u).length → ((var u).getD k 0 < 128 ↔ k + 1 = (var u).length) := by
  induction u using Nat.strongRecOn with
  | ind u ih =>
    intro k hk
    by_cases h : u < 128
    · rw [var_lt h] at hk ⊢
      obtain rfl : k = 0 := by simpa using hk
      simp [h]
    · rw [var_ge (by omega)] at hk ⊢
      cases k with
      | zero =>
        have := var_pos (u / 128)
        simp only [List.getD_cons_zero, List.length_cons]
        omega
      | succ k =>
        have := ih (u / 128) (by omega) k (by simpa using hk)
        simpa using this

def toN (l : List UInt8) : List Nat := l.map UInt8.toNat
theorem toN_length (l : List UInt8) : (toN l).length = l.length := by simp [toN]
theorem toN_inj {l m : List UInt8} (h : toN l = toN m) : l = m := (List.map_inj_right (fun _ _ h => UInt8.toNat_inj.1 h)).1 h
def varU (u : Nat) : List UInt8 := (var u).map UInt8.ofNat
theorem toN_varU (u : Nat) : toN (varU u) = var u := by
  unfold toN varU
  rw [List.map_map]
  conv => rhs; rw [← List.map_id (var u)]
  exact List.map_congr_left fun x hx => by
    have := var_byte u x hx
    simp [UInt8.toNat_ofNat']; omega
theorem varU_length (u : Nat) : (varU u).length = (var u).length := by simp [varU]

theorem varU_getD (u k : Nat) : ((varU u).getD k 0).toNat = (var u).getD k 0 := by
  have h := toN_varU u
  rw [← h]
  simp only [toN, List.getD_eq_getElem?_getD, List.getElem?_map]
  cases (varU u)[k]? <;> rfl

/-- What has been read after k bytes. -/
def acc (l : List UInt8) : Nat → Nat
  | 0 => 0
  | k + 1 => acc l k ||| (l.getD k 0).toNat % 128 * 2 ^ (7 * k) % 2 ^ 64
theorem acc_lt (l : List UInt8) (k : Nat) : acc l k < 2 ^ 64 := by
  induction k with
  | zero => simp [acc]
  | succ k ih => exact Nat.or_lt_two_pow ih (Nat.mod_lt _ (by decide))

def Go128 (l : List UInt8) (k : Nat) : Prop := ∀ j, j < k → 128 ≤ (l.getD j 0).toNat
theorem go128_zero (l : List UInt8) : Go128 l 0 := fun _ h => by omega
theorem go128_succ {l : List UInt8} {k : Nat} (h : Go128 l k) (hk : 128 ≤ (l.getD k 0).toNat) : Go128 l (k + 1) := fun j hj => by
  by_cases e : j = k
  · rw [e]; exact hk
  · exact h j (by omega)

/-- Where the first byte below 128 stands, from k on with at most f steps. -/
def endFrom (l : List UInt8) : Nat → Nat → Option Nat
  | 0, _ => none
  | f + 1, k => if l.length ≤ k then none else if (l.getD k 0).toNat < 128 then some k else endFrom l f (k + 1)
theorem endFrom_at {l : List UInt8} (f : Nat) : ∀ k j : Nat, k ≤ j → j < k + f → j < l.length → (∀ i, k ≤ i → i < j → 128 ≤ (l.getD i 0).toNat) → (l.getD j 0).toNat < 128 → endFrom l f k = some j := by
  induction f with
  | zero => intro k j h1 h2; omega
  | succ f ih =>
    intro k j h1 h2 h3 h4 h5
    rw [endFrom, if_neg (by omega)]
    by_cases e : k = j
    · subst e; rw [if_pos h5]
    · rw [if_neg (by have := h4 k (Nat.le_refl _) (by omega); omega)]
      exact ih (k + 1) j (by omega) (by omega) h3 (fun i hi => h4 i (by omega)) h5
theorem endFrom_none {l : List UInt8} (f : Nat) : ∀ k : Nat, (∀ i, k ≤ i → i < k + f → i < l.length → 128 ≤ (l.getD i 0).toNat) → endFrom l f k = none := by
  induction f with
  | zero => intro k _; rfl
  | succ f ih =>
    intro k h
    rw [endFrom]
    by_cases e : l.length ≤ k
    · rw [if_pos e]
    · rw [if_neg e, if_neg (by have := h k (Nat.le_refl _) (by omega) (by omega); omega)]
      exact ih (k + 1) fun i h1 h2 h3 => h i (by omega) (by omega) h3

/-- The number at the head of the bytes, and how many bytes it takes. -/
def readV (l : List UInt8) : Option (Nat × Nat) :=
  match endFrom l 10 0 with
  | none => none
  | some k => if varU (acc l (k + 1)) = l.take (k + 1) then some (acc l (k + 1), k + 1) else none

theorem readV_end {l : List UInt8} {k : Nat} (h : Go128 l k) (hk : k < 10) (hl : k < l.length) (hb : (l.getD k 0).toNat < 128) :
    readV l = if varU (acc l (k + 1)) = l.take (k + 1) then some (acc l (k + 1), k + 1) else none := by
  rw [readV, endFrom_at 10 0 k (by omega) (by omega) hl (fun i _ hi => h i hi) hb]
theorem readV_stop {l : List UInt8} {k : Nat} (h : Go128 l k) (hk : k = 10 ∨ k = l.length) : readV l = none := by
  rw [readV, endFrom_none 10 0 (fun i _ h2 h3 => h i (by omega))]

/-- A code that stands ahead ends at the first byte below 128. -/
theorem prefix_iff {l : List UInt8} {k : Nat} (h : Go128 l k) (hb : (l.getD k 0).toNat < 128) (u : Nat) :
    varU u <+: l ↔ varU u = l.take (k + 1) := by
  constructor
  · intro hp
    have hle := hp.length_le
    have heq : l.take (varU u).length = varU u := by rw [List.prefix_iff_eq_take] at hp; exact hp.symm
    have hget : ∀ j, j < (varU u).length → (l.getD j 0).toNat = (var u).getD j 0 := fun j hj => by
      rw [← varU_getD]
      conv => rhs; rw [← heq]
      simp [List.getD_eq_getElem?_getD, hj]
    have hpos := var_pos u
    have hlen := varU_length u
    have hsh := var_shape u
    have hk1 : (varU u).length = k + 1 := by
      have hlast := (hsh ((var u).length - 1) (by omega)).2 (by omega)
      have a1 : k ≤ (var u).length - 1 := by
        apply Nat.le_of_not_lt
        intro hlt
        have := h _ hlt
        rw [hget _ (by omega)] at this
        omega
      have a2 : k < (varU u).length := by omega
      have := (hsh k (by omega)).1 (by rw [← hget k a2]; exact hb)
      omega
    rw [← hk1, heq]
  · intro e
    rw [e]
    exact List.take_prefix _ _

theorem readV_spec {l : List UInt8} {u k : Nat} (h : readV l = some (u, k)) : u < 2 ^ 64 ∧ varU u = l.take k ∧ 0 < k ∧ k ≤ 10 ∧ k ≤ l.length := by
  unfold readV at h
  split at h
  · cases h
  · rename_i j hj
    split at h
    · rename_i e
      cases h
      have hlen : (varU (acc l (j + 1))).length = (l.take (j + 1)).length := by rw [e]
      have h1 := var_len64 _ (acc_lt l (j + 1))
      rw [varU_length] at hlen
      have h2 : j < l.length := by
        have : ∀ f k, endFrom l f k = some j → j < l.length := by
          intro f
          induction f with
          | zero => intro k h; cases h
          | succ f ih =>
            intro k h
            rw [endFrom] at h
            split at h
            · cases h
            · split at h
              · cases h; omega
              · exact ih _ h
        exact this _ _ hj
      rw [List.length_take, Nat.min_eq_left (by omega)] at hlen
      exact ⟨acc_lt _ _, e, by omega, by omega, by omega⟩
    · cases h

theorem or_low {a m : Nat} {x : Nat} (ha : a < 2 ^ m) : a ||| x * 2 ^ m = a + x * 2 ^ m := by
  rw [Nat.or_comm, Nat.mul_comm x, Nat.two_pow_add_eq_or_of_lt ha x |>.symm, Nat.add_comm]

theorem acc_small {l : List UInt8} (k : Nat) (h : k ≤ 9) : acc l k < 2 ^ (7 * k) := by
  induction k with
  | zero => simp [acc]
  | succ k ih =>
    have := ih (by omega)
    rw [acc]
    have h1 : acc l k < 2 ^ (7 * (k + 1)) := Nat.lt_of_lt_of_le this (Nat.pow_le_pow_right (by decide) (by omega))
    have h2 : (l.getD k 0).toNat % 128 * 2 ^ (7 * k) < 2 ^ (7 * (k + 1)) := by
      have e : 2 ^ (7 * (k + 1)) = 128 * 2 ^ (7 * k) := by rw [show 7 * (k + 1) = 7 * k + 7 from by omega, Nat.pow_add, Nat.mul_comm]
      rw [e]
      exact Nat.mul_lt_mul_of_pos_right (Nat.mod_lt _ (by decide)) (Nat.two_pow_pos _)
    exact Nat.or_lt_two_pow h1 (Nat.lt_of_le_of_lt (Nat.mod_le _ _) h2)

/-- Reading the code of a number reads the number. -/
theorem acc_var (l : List UInt8) (u : Nat) : ∀ k : Nat, k ≤ 9 → (∀ j, j < (var u).length → (l.getD (k + j) 0).toNat = (var u).getD j 0) → u * 2 ^ (7 * k) < 2 ^ 64 → k + (var u).length ≤ 10 →
    acc l (k + (var u).length) = acc l k + u * 2 ^ (7 * k) := by
  induction u using Nat.strongRecOn with
  | ind u ih =>
    intro k hk hg hu hlen
    have hs := acc_small (l := l) k hk
    by_cases h : u < 128
    · rw [var_lt h] at hg ⊢
      have g0 := hg 0 (by simp)
      simp at g0
      show acc l (k + 1) = _
      rw [acc, List.getD_eq_getElem?_getD, g0, Nat.mod_eq_of_lt h, Nat.mod_eq_of_lt hu, or_low hs]
    · have hge : 128 ≤ u := by omega
      rw [var_ge hge] at hg hlen ⊢
      have g0 := hg 0 (by simp)
      simp at g0
      have hpos := var_pos (u / 128)
      simp only [List.length_cons] at hlen
      have hk8 : k + 1 ≤ 9 := by omega
      have e1 : 2 ^ (7 * (k + 1)) = 128 * 2 ^ (7 * k) := by rw [show 7 * (k + 1) = 7 * k + 7 from by omega, Nat.pow_add, Nat.mul_comm]
      have hu' : u / 128 * 2 ^ (7 * (k + 1)) ≤ u * 2 ^ (7 * k) := by
        rw [e1, ← Nat.mul_assoc]
        exact Nat.mul_le_mul_right _ (Nat.div_mul_le_self u 128)
      have hm : u % 128 * 2 ^ (7 * k) ≤ u * 2 ^ (7 * k) := Nat.mul_le_mul_right _ (Nat.mod_le _ _)
      have := ih (u / 128) (by omega) (k + 1) hk8 (fun j hj => by
        have := hg (j + 1) (by simpa using hj)
        simp only [List.getD_cons_succ] at this
        rw [show k + 1 + j = k + (j + 1) from by omega]; exact this) (by omega) (by omega)
      rw [List.length_cons, show k + ((var (u / 128)).length + 1) = k + 1 + (var (u / 128)).length from by omega, this]
      rw [acc, List.getD_eq_getElem?_getD, g0]
      have e2 : (u % 128 + 128) % 128 = u % 128 := by omega
      rw [e2, Nat.mod_eq_of_lt (show u % 128 * 2 ^ (7 * k) < 2 ^ 64 from by omega), or_low hs, e1, Nat.add_assoc]
      congr 1
      rw [← Nat.mul_assoc, ← Nat.add_mul]
      congr 1
      omega

/-- A number comes back from its bytes, whatever stands behind them. -/
theorem readV_var (u : Nat) (h : u < 2 ^ 64) (t : List UInt8) : readV (varU u ++ t) = some (u, (var u).length) := by
  have hlen := varU_length u
  have hpos := var_pos u
  have h10 := var_len64 u h
  have hg : ∀ j, j < (var u).length → ((varU u ++ t).getD j 0).toNat = (var u).getD j 0 := fun j hj => by
    rw [← varU_getD, List.getD_eq_getElem?_getD, List.getElem?_append_left (by omega), List.getD_eq_getElem?_getD]
  have hsh := var_shape u
  have hgo : Go128 (varU u ++ t) ((var u).length - 1) := fun j hj => by
    rw [hg j (by omega)]
    apply Nat.le_of_not_lt
    intro hlt
    have := (hsh j (by omega)).1 hlt
    omega
  have hb : ((varU u ++ t).getD ((var u).length - 1) 0).toNat < 128 := by
    rw [hg _ (by omega)]
    exact (hsh _ (by omega)).2 (by omega)
  have hacc := acc_var (varU u ++ t) u 0 (by omega) (fun j hj => by rw [Nat.zero_add]; exact hg j hj) (by simpa using h) (by omega)
  rw [Nat.zero_add] at hacc
  simp only [acc, Nat.mul_zero, Nat.pow_zero, Nat.mul_one, Nat.zero_add] at hacc
  rw [readV_end hgo (by omega) (by simp; omega) hb, show (var u).length - 1 + 1 = (var u).length from by omega, hacc, if_pos]
  rw [List.take_append_of_le_length (by omega), List.take_of_length_le (by omega)]
end Go.Proofs.Ytpnfkmhhilnglab.VM
