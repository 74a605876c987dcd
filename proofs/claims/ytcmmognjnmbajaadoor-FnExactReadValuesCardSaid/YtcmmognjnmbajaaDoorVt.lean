/- Walks: the number of trailing zeros, under the library's table. -/
import Derived.Test.YtcmmognjnmbajaaDoorVm
import Derived.Lib.TrailingZeros
import Derived.Laws.Bits64b
set_option linter.unusedVariables false
set_option linter.unusedSimpArgs false
namespace Go.Proofs.YtcmmognjnmbajaaDoor
open Go.RowKit

/-- the library's table in its variable -/
def Tab (w : World) : Prop := ∀ j, j < 64 → w.cell? ⟨0, j, none⟩ = some (.int .u8 ((Lib.deBruijn64tab.getD j 0 : Nat) : Int))

set_option maxRecDepth 100000 in
set_option maxHeartbeats 1000000 in
theorem tz64_core (x k idx : Nat) (w : World) (hx0 : ((x : Int) == 0) = false)
    (key : IntKind.u64.wrap (bits BinOp.and IntKind.u64 (x : Int) (IntKind.u64.wrap (-(x : Int))) * 285870213051353865) / 288230376151711744 = (idx : Int))
    (hi : idx < 64) (hk : k < 64) (hcell : w.cell? ⟨0, idx, none⟩ = some (.int .u8 (k : Int))) :
    Calls Tryd.prog 133 #[.int .u64 x] w fun e w' => e = .returned (.int .i64 k) ∧ w = w' := by
  go_enter Tryd.func133, Tryd.ntmps133
  go_wp2_with (simp only [key])
  go_ret
  exact ⟨rfl, rfl⟩
set_option maxHeartbeats 1000000 in
theorem tz64_zero (w : World) :
    Calls Tryd.prog 133 #[.int .u64 0] w fun e w' => e = .returned (.int .i64 64) ∧ w = w' := by
  go_enter Tryd.func133, Tryd.ntmps133
  go_wp2
  go_ret
  exact ⟨rfl, rfl⟩
theorem tz64_key' (x a : Nat) (hx : x < 18446744073709551616) (hlow : x &&& (18446744073709551616 - x) = a) (hx0 : x ≠ 0) :
    IntKind.u64.wrap (bits BinOp.and IntKind.u64 (x : Int) (IntKind.u64.wrap (-(x : Int))) * 285870213051353865) / 288230376151711744 = ((a * 285870213051353865 % 18446744073709551616 / 288230376151711744 : Nat) : Int) := by
  have e1 : IntKind.u64.wrap (-(x : Int)) = ((18446744073709551616 - x : Nat) : Int) := by rw [IntKind.wrap_u64]; omega
  rw [e1, bits_and_u64_nat x _ hx (by omega), hlow, IntKind.wrap_u64]
  omega
theorem tz64_any (x : Nat) (hx : x < 18446744073709551616) (w : World) (hT : Tab w) :
    Calls Tryd.prog 133 #[.int .u64 x] w fun e w' => e = .returned (.int .i64 (Lib.ctz 64 x : Nat)) ∧ w = w' := by
  by_cases hx0 : x = 0
  · subst hx0
    exact tz64_zero w
  · obtain ⟨hlow, hk⟩ := Lib.lowest_bit 64 x hx0 hx
    obtain ⟨hi, htab⟩ := Lib.deBruijn64_at _ hk
    have hcell := hT _ hi
    rw [htab] at hcell
    exact tz64_core x _ _ w (by simp; omega) (tz64_key' x _ hx hlow hx0) hi hk hcell

def trailN (n : Int) : Int := (Lib.ctz 64 (u64n n) : Nat)
theorem ctz_of {u k : Nat} (hu : u < 2 ^ 64) (h0 : ∀ j, j < k → u.testBit j = false) (hk : u.testBit k = true) : Lib.ctz 64 u = k := by
  have hne : u ≠ 0 := by intro e; rw [e] at hk; simp at hk
  unfold Lib.ctz
  rw [if_neg hne]
  obtain ⟨m, hm, _⟩ := Lib.ctzFrom_spec 64 u (by omega) hu
  generalize Lib.ctzFrom 64 u = c at *
  have hb : ∀ i, u.testBit i = (decide (c ≤ i) && (2 * m + 1).testBit (i - c)) := fun i => by rw [hm, Nat.testBit_two_pow_mul]
  have h1 : u.testBit c = true := by rw [hb]; simp
  rcases Nat.lt_trichotomy c k with h | h | h
  · rw [h0 c h] at h1; cases h1
  · exact h
  · rw [hb k] at hk; simp at hk; omega
theorem trailN_one {n : Int} {k : Nat} (h : ∀ j, j < k → (u64n n).testBit j = false) (hb : (u64n n).testBit k = true) : trailN n = (k : Int) := by
  unfold trailN; rw [ctz_of (u64n_lt n) h hb]
theorem trailN_zero {n : Int} (h : ∀ j, j < 64 → (u64n n).testBit j = false) : trailN n = 64 := by
  have h0 : u64n n = 0 := by
    apply Nat.eq_of_testBit_eq
    intro i
    rw [Nat.zero_testBit]
    by_cases hi : i < 64
    · exact h i hi
    · exact Nat.testBit_lt_two_pow (Nat.lt_of_lt_of_le (u64n_lt n) (Nat.pow_le_pow_right (by decide) (by omega)))
  unfold trailN; rw [h0]; rfl

set_option maxRecDepth 100000 in
set_option maxHeartbeats 1000000 in
theorem specL4Trail_any (n : Int) (w : World) (h0 : -9223372036854775808 ≤ n) (h1 : n ≤ 9223372036854775807) :
    Calls Tryd.prog 93 #[.int .i64 n] w fun e w' => e = .returned (.int .i64 (trailN n)) ∧ w = w' := by
  have hbit := Lib.hid (fun j hj => shr_bit n h0 h1 j hj)
  have hand := Lib.hid (fun x => zand_one x)
  clear h0 h1
  go_enter Tryd.func93, Tryd.ntmps93
  go_wp2
  go_loop [3] (fun i => ∃ k : Nat, k ≤ 64 ∧ i = .int .i64 k ∧ ∀ j, j < k → (u64n n).testBit j = false) (fun i => 64 - (intOf i).toNat)
  case atStart => exact ⟨0, by omega, rfl, fun j hj => by omega⟩
  case round =>
    obtain ⟨k, hk, rfl, hz⟩ := hrel
    have Hz := Lib.hid hz
    clear hz
    by_cases hlt : k < 64
    · have hb := hbit.out k (by omega)
      have hA := hand.out (n / 2 ^ k)
      rw [hb] at hA
      cases hbb : (u64n n).testBit k with
      | false =>
        rw [hbb] at hA
        have hA2 : bits .and .i64 (n / 2 ^ k) 1 = 0 := by rw [hA]; rfl
        have Hbb := Lib.hid hbb
        clear hb hA hbb
        go_wp2_with fail
        go_round
        case rel =>
          refine ⟨k + 1, by omega, by go_num, fun j hj => ?_⟩
          by_cases e : j = k
          · subst e; exact Hbb.out
          · exact Hz.out j (by omega)
        case measure => simp [intOf]; omega
      | true =>
        rw [hbb] at hA
        have hA2 : bits .and .i64 (n / 2 ^ k) 1 = 1 := by rw [hA]; rfl
        have E := Lib.hid (trailN_one Hz.out hbb)
        clear hb hA hbb
        go_wp2_with fail
        go_ret
        exact ⟨by rw [E.out]; rfl, rfl⟩
    · obtain rfl : k = 64 := by omega
      have E := Lib.hid (trailN_zero Hz.out)
      go_wp2_with fail
      go_ret
      exact ⟨by rw [E.out]; rfl, rfl⟩

set_option maxHeartbeats 1000000 in
theorem implTrail_any (n : Int) (w : World) (hT : Tab w) :
    Calls Tryd.prog 122 #[.int .i64 n] w fun e w' => e = .returned (.int .i64 (trailN n)) ∧ w = w' := by
  have hu := u64n_lt n
  have hc := Lib.hid (fun W h => tz64_any (u64n n) (by omega) W h)
  have hw := u64n_wrap n
  have E := Lib.hid (show trailN n = ((Lib.ctz 64 (u64n n) : Nat) : Int) from rfl)
  have HT := Lib.hid hT
  clear hu hT
  generalize (Lib.ctz 64 (u64n n) : Nat) = r at *
  generalize ((u64n n : Nat) : Int) = u at *
  go_enter Tryd.func122, Tryd.ntmps122
  go_wp2_with fail
  refine (hc.out _ HT.out).mono ?_
  rintro e w1 ⟨rfl, rfl⟩
  go_wp2_with fail
  go_ret
  exact ⟨by rw [E.out]; rfl, rfl⟩
end Go.Proofs.YtcmmognjnmbajaaDoor
