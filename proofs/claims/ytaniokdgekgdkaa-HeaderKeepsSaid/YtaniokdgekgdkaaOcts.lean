/- Layer 1: Trim, as the document's answer has it. -/
import Derived.Test.YtaniokdgekgdkaaOctr
import Derived.Test.YtaniokdgekgdkaaPb
namespace Go.Proofs.Ytaniokdgekgdkaa
open Go.RowKit
set_option linter.unusedVariables false
set_option linter.unusedSimpArgs false

end Go.Proofs.Ytaniokdgekgdkaa
