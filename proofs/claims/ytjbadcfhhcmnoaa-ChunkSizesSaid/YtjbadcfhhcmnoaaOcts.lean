/- Layer 1: Trim, as the document's answer has it. -/
import Derived.Test.YtjbadcfhhcmnoaaOctr
import Derived.Test.YtjbadcfhhcmnoaaPb
namespace Go.Proofs.Ytjbadcfhhcmnoaa
open Go.RowKit
set_option linter.unusedVariables false
set_option linter.unusedSimpArgs false

end Go.Proofs.Ytjbadcfhhcmnoaa
