/- Walks: fitsIn, l1Fits. -/
import Derived.Test.YtanoohfhifhhaaaDoorWe
set_option linter.unusedVariables false
set_option linter.unusedSimpArgs false
namespace Go.Proofs.YtanoohfhifhhaaaDoor
open Go.RowKit

def fitsB (v k : Int) : Bool := decide (k = 64 ∨ (0 ≤ k ∧ k < 64 ∧ 0 ≤ v ∧ v < 2 ^ k.toNat))
theorem fitsB_64 (v : Int) : fitsB v 64 = true := by simp [fitsB]
theorem fitsB_no {v k : Int} (h : ¬ (k = 64 ∨ (0 ≤ k ∧ k < 64 ∧ 0 ≤ v))) : fitsB v k = false := by
  unfold fitsB; rw [decide_eq_false_iff_not]; intro hh; apply h
  rcases hh with hh | hh
  · exact .inl hh
  · exact .inr ⟨hh.1, hh.2.1, hh.2.2.1⟩
theorem fitsB_nat {v k : Nat} (hk : k < 64) : fitsB v k = decide (v < 2 ^ k) := by
  have e : ((v : Int) < 2 ^ k) ↔ v < 2 ^ k := by
    rw [show ((2 : Int) ^ k) = ((2 ^ k : Nat) : Int) by simp]; exact Int.ofNat_lt
  unfold fitsB
  rw [Bool.eq_iff_iff, decide_eq_true_iff, decide_eq_true_iff, Int.toNat_natCast, e]
  constructor
  · intro h; rcases h with h | h
    · omega
    · exact h.2.2.2
  · intro h; exact .inr ⟨by omega, by omega, by omega, h⟩

set_option maxRecDepth 100000 in
set_option maxHeartbeats 400000 in
theorem fitsIn_no (v k : Int) (w : World) (h64 : ¬ k = 64) (h : ¬ (0 ≤ k ∧ k < 64 ∧ 0 ≤ v)) :
    Calls Tryd.prog 126 #[.int .i64 v, .int .i64 k] w fun e w' => e = .returned (.bool (fitsB v k)) ∧ w = w' := by
  have hr := fitsB_no (v := v) (k := k) (by omega)
  have Hr := Lib.hid hr
  have hb : (k == 64) = false := by simpa using h64
  clear hr
  by_cases h1 : 0 ≤ k
  · by_cases h2 : k < 64
    · have h3 : v < 0 := by omega
      have h3' : ¬ 0 ≤ v := by omega
      have h3d : decide (0 ≤ v) = false := by simp; omega
      go_enter Tryd.func126, Tryd.ntmps126
      go_wp2
      go_ret
      exact ⟨by rw [Hr.out]; try rfl, rfl⟩
    · have h2d : decide (k < 64) = false := by simp; omega
      go_enter Tryd.func126, Tryd.ntmps126
      go_wp2
      go_ret
      exact ⟨by rw [Hr.out]; try rfl, rfl⟩
  · have h1d : decide (0 ≤ k) = false := by simp; omega
    go_enter Tryd.func126, Tryd.ntmps126
    go_wp2
    go_ret
    exact ⟨by rw [Hr.out]; try rfl, rfl⟩

set_option maxRecDepth 100000 in
set_option maxHeartbeats 400000 in
theorem fitsIn_64 (v : Int) (w : World) :
    Calls Tryd.prog 126 #[.int .i64 v, .int .i64 64] w fun e w' => e = .returned (.bool (fitsB v 64)) ∧ w = w' := by
  have Hr := Lib.hid (fitsB_64 v)
  go_enter Tryd.func126, Tryd.ntmps126
  go_wp2
  go_ret
  exact ⟨by rw [Hr.out]; try rfl, rfl⟩

set_option maxRecDepth 100000 in
set_option maxHeartbeats 400000 in
theorem fitsIn_nat (v k : Nat) (w : World) (hk : k < 64) :
    Calls Tryd.prog 126 #[.int .i64 v, .int .i64 k] w fun e w' => e = .returned (.bool (fitsB v k)) ∧ w = w' := by
  have hr : fitsB v k = (((v : Int) / 2 ^ k) == 0) := by
    rw [fitsB_nat hk, show ((v : Int) / 2 ^ k) = ((v / 2 ^ k : Nat) : Int) by simp, Bool.eq_iff_iff, decide_eq_true_iff, beq_iff_eq]
    have := Nat.div_eq_zero_iff (a := v) (b := 2 ^ k)
    have hp : 2 ^ k ≠ 0 := Nat.pos_iff_ne_zero.1 (Nat.two_pow_pos k)
    omega
  have Hr := Lib.hid hr
  clear hr
  have hb : ((k : Int) == 64) = false := by simp; omega
  have h1 : (0 : Int) ≤ (k : Int) := by omega
  have h2 : (k : Int) < 64 := by omega
  have h3 : (0 : Int) ≤ (v : Int) := by omega
  go_enter Tryd.func126, Tryd.ntmps126
  go_wp2
  go_ret
  exact ⟨by rw [Hr.out]; try rfl, rfl⟩

theorem fitsIn_any (v k : Int) (w : World) :
    Calls Tryd.prog 126 #[.int .i64 v, .int .i64 k] w fun e w' => e = .returned (.bool (fitsB v k)) ∧ w = w' := by
  by_cases h64 : k = 64
  · subst h64; exact fitsIn_64 v w
  · by_cases h : 0 ≤ k ∧ k < 64 ∧ 0 ≤ v
    · obtain ⟨K, rfl⟩ := Int.eq_ofNat_of_zero_le h.1
      obtain ⟨V, rfl⟩ := Int.eq_ofNat_of_zero_le h.2.2
      exact fitsIn_nat V K w (by omega)
    · exact fitsIn_no v k w h64 h





end Go.Proofs.YtanoohfhifhhaaaDoor
