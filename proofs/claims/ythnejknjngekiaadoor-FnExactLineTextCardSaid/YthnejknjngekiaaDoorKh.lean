/- Walks: small values alone (out of Yb, for a seat without rolls). -/
import Derived.Test.YthnejknjngekiaaDoorNd
import Derived.Test.YthnejknjngekiaaDoorUi
set_option linter.unusedVariables false
set_option linter.unusedSimpArgs false
namespace Go.Proofs.YthnejknjngekiaaDoor
open Go.RowKit

def smB (v : Int) : Bool := vIn v (-1000000000) 1000000000
set_option maxRecDepth 100000 in
set_option maxHeartbeats 400000 in
theorem isSmall_any (v : Int) (w : World) : Calls Tryd.prog 25 #[.int .i64 v] w fun e w' => e = .returned (.bool (smB v)) ∧ w = w' := by
  by_cases h1 : (-1000000000) ≤ v
  · by_cases h2 : v ≤ 1000000000
    · rw [show smB v = true from vIn_true h1 h2]
      go_enter Tryd.func25, Tryd.ntmps25
      go_wp2
      go_ret
      exact ⟨rfl, rfl⟩
    · rw [show smB v = false from vIn_false (fun h => h2 h.2)]
      go_enter Tryd.func25, Tryd.ntmps25
      go_wp2
      go_ret
      exact ⟨rfl, rfl⟩
  · rw [show smB v = false from vIn_false (fun h => h1 h.1)]
    go_enter Tryd.func25, Tryd.ntmps25
    go_wp2
    go_ret
    exact ⟨rfl, rfl⟩
theorem isSmall_q (v : Int) (w : World) : Calls Tryd.prog 25 #[.int .i64 v] w fun e w' => e = .returned (.bool (smB v)) ∧ w' = w :=
  (isSmall_any v w).mono fun _ _ ⟨h, h'⟩ => ⟨h, h'.symm⟩

set_option maxRecDepth 100000 in
set_option maxHeartbeats 400000 in
theorem l7Val_any (v : Int) (w : World) : Calls Tryd.prog 19 #[.int .i64 v] w fun e w' => e = .returned (.bool (smB v)) ∧ w = w' := by
  go_enter Tryd.func19, Tryd.ntmps19
  go_wp2_with (go_at_call 20; refine (v_l1In_any v (-1000000000) 1000000000 _).mono ?_; rintro e w' ⟨rfl, rfl⟩)
  go_ret
  exact ⟨rfl, rfl⟩
theorem l7Val_q (v : Int) (w : World) : Calls Tryd.prog 19 #[.int .i64 v] w fun e w' => e = .returned (.bool (smB v)) ∧ w' = w :=
  (l7Val_any v w).mono fun _ _ ⟨h, h'⟩ => ⟨h, h'.symm⟩

end Go.Proofs.YthnejknjngekiaaDoor
