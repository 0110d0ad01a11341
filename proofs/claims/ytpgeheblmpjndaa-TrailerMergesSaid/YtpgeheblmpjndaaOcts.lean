/- Layer 1: Trim, as the document's answer has it. -/
import Derived.Test.YtpgeheblmpjndaaOctr
import Derived.Test.YtpgeheblmpjndaaPb
namespace Go.Proofs.Ytpgeheblmpjndaa
open Go.RowKit
set_option linter.unusedVariables false
set_option linter.unusedSimpArgs false

end Go.Proofs.Ytpgeheblmpjndaa
