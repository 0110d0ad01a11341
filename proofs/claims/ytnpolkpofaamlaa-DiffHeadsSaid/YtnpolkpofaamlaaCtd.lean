/- strings.Cut at the octet 32. -/
import Derived.Test.YtnpolkpofaamlaaProg
import Derived.Test.YtnpolkpofaamlaaUps
import Derived.Lib.Bytealg
import Derived.RegionTactic
import Derived.ChangeAlike
import Derived.Deep.QuietTactic
import Derived.BigQuiet
namespace Go.Proofs.Ytnpolkpofaamlaa
open Go.RowKit
set_option linter.unusedVariables false
set_option linter.unusedSimpArgs false

end Go.Proofs.Ytnpolkpofaamlaa
