/- The walk of the law FnExactPutBits. -/
import Derived.Test.YtpnfkmhhilnglaaWo
import Derived.OpenShut
set_option linter.unusedVariables false
set_option linter.unusedSimpArgs false
namespace Go.Proofs.Ytpnfkmhhilnglaa
open Go.RowKit

set_option maxRecDepth 100000 in
set_option maxHeartbeats 400000 in
theorem eqBits_same (R : ByteArray) (M : Int) (w : World) :
    Calls Try.prog 23 #[.agg #[.string R, .int .i64 M], .agg #[.string R, .int .i64 M]] w (RetBelow (.bool true) w) := by
  go_enter Try.func23, Try.ntmps23
  go_wp2
  go_ret
  exact ⟨rfl, below2 w _ _⟩

end Go.Proofs.Ytpnfkmhhilnglaa
