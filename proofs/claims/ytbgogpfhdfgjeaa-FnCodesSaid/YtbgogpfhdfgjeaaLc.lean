/- The walk of the law FnExactPutBits. -/
import Derived.Test.YtbgogpfhdfgjeaaWo
import Derived.OpenShut
set_option linter.unusedVariables false
set_option linter.unusedSimpArgs false
namespace Go.Proofs.Ytbgogpfhdfgjeaa
open Go.RowKit


end Go.Proofs.Ytbgogpfhdfgjeaa
