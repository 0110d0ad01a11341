/- First lines (layer 15): what is asked of a request's line, one by one. -/
import Derived.Test.YtnpolkpofaamlaaStj
import Derived.Test.YtnpolkpofaamlaaKeeps
import Derived.Laws.EntriesVeiled
namespace Go.Proofs.Ytnpolkpofaamlaa
open Go.RowKit
set_option linter.unusedVariables false
set_option linter.unusedSimpArgs false

theorem eqz (e : Int) : (e == 0) = decide (e = 0) := rfl
end Go.Proofs.Ytnpolkpofaamlaa
