/- Walks: rolls, added one by one: the model's walks (2). -/
import Derived.Test.YtinpndoepppboaaYi
set_option linter.unusedVariables false
set_option linter.unusedSimpArgs false
namespace Go.Proofs.Ytinpndoepppboaa
open Go.RowKit


end Go.Proofs.Ytinpndoepppboaa
