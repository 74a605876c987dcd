/- Walks: PutBits of the program. -/
import Derived.Test.YtanoohfhifhhaaaDoorWn
set_option linter.unusedVariables false
set_option linter.unusedSimpArgs false
namespace Go.Proofs.YtanoohfhifhhaaaDoor
open Go.RowKit




theorem u64_of (v : Int) : IntKind.u64.wrap v = (u64of v : Int) := by rw [IntKind.wrap_u64]; unfold u64of; omega


end Go.Proofs.YtanoohfhifhhaaaDoor
