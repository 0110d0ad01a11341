/- By whom a message came (layer 20): Parse, the document's, of a right version. -/
import Derived.Test.YtkfpioadimkogaaDoorVae
namespace Go.Proofs.YtkfpioadimkogaaDoor
open Go.RowKit
set_option linter.unusedVariables false
set_option linter.unusedSimpArgs false

end Go.Proofs.YtkfpioadimkogaaDoor
