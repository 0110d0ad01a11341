/- Layer 1: Trim, as the document's answer has it. -/
import Derived.Test.YtahehpgnemanmaaOctr
import Derived.Test.YtahehpgnemanmaaPb
namespace Go.Proofs.Ytahehpgnemanmaa
open Go.RowKit
set_option linter.unusedVariables false
set_option linter.unusedSimpArgs false

end Go.Proofs.Ytahehpgnemanmaa
