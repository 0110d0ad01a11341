/- First lines (layer 15): what is asked of a request's line, one by one. -/
import Derived.Test.YtlpcjnjhpgddmaaStj
import Derived.Test.YtlpcjnjhpgddmaaKeeps
import Derived.Laws.EntriesVeiled
namespace Go.Proofs.Ytlpcjnjhpgddmaa
open Go.RowKit
set_option linter.unusedVariables false
set_option linter.unusedSimpArgs false

theorem eqz (e : Int) : (e == 0) = decide (e = 0) := rfl
end Go.Proofs.Ytlpcjnjhpgddmaa
