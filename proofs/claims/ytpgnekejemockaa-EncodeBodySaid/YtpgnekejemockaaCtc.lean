/- strings.Cut at the octet 58. -/
import Derived.Test.YtpgnekejemockaaProg
import Derived.Test.YtpgnekejemockaaUps
import Derived.Lib.Bytealg
import Derived.RegionTactic
import Derived.ChangeAlike
import Derived.Deep.QuietTactic
import Derived.BigQuiet
namespace Go.Proofs.Ytpgnekejemockaa
open Go.RowKit
set_option linter.unusedVariables false
set_option linter.unusedSimpArgs false

end Go.Proofs.Ytpgnekejemockaa
