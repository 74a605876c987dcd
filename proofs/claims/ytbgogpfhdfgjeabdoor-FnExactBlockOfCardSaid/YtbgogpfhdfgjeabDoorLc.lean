/- The walk of the law FnExactPutBits. -/
import Derived.Test.YtbgogpfhdfgjeabDoorWo
import Derived.OpenShut
set_option linter.unusedVariables false
set_option linter.unusedSimpArgs false
namespace Go.Proofs.YtbgogpfhdfgjeabDoor
open Go.RowKit


end Go.Proofs.YtbgogpfhdfgjeabDoor
