/- Words with parameters: Parse as the document has it; lists of parameters that are the same (layer 8). -/
import Derived.Test.YtjocmjmfkgogiaaPrj
import Derived.Test.YtjocmjmfkgogiaaPre
import Derived.Deep.QuietTactic
import Derived.BigQuiet
namespace Go.Proofs.Ytjocmjmfkgogiaa
open Go.RowKit
set_option linter.unusedVariables false
set_option linter.unusedSimpArgs false

def RPPost (s : ByteArray) (w : World) (e : Ending) (w' : World) : Prop :=
  ∃ v, e = .returned (.tuple #[.string (prmAll s).2.1, v, .int .i64 (prmAll s).1]) ∧ w'.ownsRow w.heap.size 49 2 v (prmAll s).2.2.length (pcells (prmAll s).2.2) ∧ Below w.heap.size w w'

end Go.Proofs.Ytjocmjmfkgogiaa
