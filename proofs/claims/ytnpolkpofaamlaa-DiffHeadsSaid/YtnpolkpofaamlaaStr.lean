/- First lines (layer 15): two the same; the document's examples; heads that came in. -/
import Derived.Test.YtnpolkpofaamlaaStn
import Derived.Test.YtnpolkpofaamlaaStp
import Derived.Test.YtnpolkpofaamlaaStb
namespace Go.Proofs.Ytnpolkpofaamlaa
open Go.RowKit
set_option linter.unusedVariables false
set_option linter.unusedSimpArgs false

end Go.Proofs.Ytnpolkpofaamlaa
