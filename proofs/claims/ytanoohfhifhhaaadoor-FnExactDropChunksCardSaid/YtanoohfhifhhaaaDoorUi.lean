/- Walks: l1In. -/
import Derived.Test.YtanoohfhifhhaaaDoorUa
set_option linter.unusedVariables false
set_option linter.unusedSimpArgs false
namespace Go.Proofs.YtanoohfhifhhaaaDoor
open Go.RowKit

theorem v_ret_bool {a b : Bool} (h : a = b) : Ending.returned (.bool a) = .returned (.bool b) := by rw [h]
def vIn (n lo hi : Int) : Bool := decide (lo ≤ n ∧ n ≤ hi)
set_option maxRecDepth 100000 in
set_option maxHeartbeats 1000000 in
theorem v_l1In_any (n lo hi : Int) (w : World) :
    Calls Tryd.prog 50 #[.int .i64 n, .int .i64 lo, .int .i64 hi] w fun e w' => e = .returned (.bool (vIn n lo hi)) ∧ w = w' := by
  by_cases h1 : lo ≤ n
  · go_enter Tryd.func50, Tryd.ntmps50
    go_wp2
    go_ret
    exact ⟨v_ret_bool (by simp [vIn, h1]), rfl⟩
  · go_enter Tryd.func50, Tryd.ntmps50
    go_wp2
    go_ret
    exact ⟨v_ret_bool (by simp [vIn]; omega), rfl⟩

theorem v_l1In_q (n lo hi : Int) (w : World) :
    Calls Tryd.prog 50 #[.int .i64 n, .int .i64 lo, .int .i64 hi] w fun e w' => e = .returned (.bool (vIn n lo hi)) ∧ w' = w :=
  (v_l1In_any n lo hi w).mono fun _ _ ⟨h, h'⟩ => ⟨h, h'.symm⟩
theorem vIn_true {n lo hi : Int} (h1 : lo ≤ n) (h2 : n ≤ hi) : vIn n lo hi = true := by simp [vIn, h1, h2]
theorem vIn_false {n lo hi : Int} (h : ¬ (lo ≤ n ∧ n ≤ hi)) : vIn n lo hi = false := by simp only [vIn, decide_eq_false_iff_not]; exact h
end Go.Proofs.YtanoohfhifhhaaaDoor
