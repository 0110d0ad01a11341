/- Fields without some names, the document's; fields with one more (layer 10), on both sides. -/
import Derived.Test.YtkfpioadimkogaaGreatDoorHde
import Derived.Laws.MakeOwn
namespace Go.Proofs.YtkfpioadimkogaaGreatDoor
open Go.RowKit
set_option linter.unusedVariables false
set_option linter.unusedSimpArgs false

end Go.Proofs.YtkfpioadimkogaaGreatDoor
