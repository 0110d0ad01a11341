/- First lines (layer 15): the version's text, on both sides. -/
import Derived.Test.YtlpcjnjhpgddmaaGb
import Derived.Test.YtlpcjnjhpgddmaaProg
namespace Go.Proofs.Ytlpcjnjhpgddmaa
open Go.RowKit
set_option linter.unusedVariables false
set_option linter.unusedSimpArgs false

/-- P15.1: a version's text. -/
def verS (m : Int) : ByteArray := if m ≤ 0 then ⟨#[72, 84, 84, 80, 47, 49, 46, 48]⟩ else ⟨#[72, 84, 84, 80, 47, 49, 46, 49]⟩
end Go.Proofs.Ytlpcjnjhpgddmaa
