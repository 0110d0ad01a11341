/- Words with parameters: a parameter, as the document has it, on (layer 8). -/
import Derived.Test.YtjocmjmfkgogiaaPrf
import Derived.Deep.RegionWith
namespace Go.Proofs.Ytjocmjmfkgogiaa
open Go.RowKit
set_option linter.unusedVariables false
set_option linter.unusedSimpArgs false

theorem rpar_dummy : True := trivial
end Go.Proofs.Ytjocmjmfkgogiaa
