/- Walks: rolls, added one by one: the model's walks (3). -/
import Derived.Test.YtinpndoepppboaaYk
set_option linter.unusedVariables false
set_option linter.unusedSimpArgs false
namespace Go.Proofs.Ytinpndoepppboaa
open Go.RowKit

end Go.Proofs.Ytinpndoepppboaa
