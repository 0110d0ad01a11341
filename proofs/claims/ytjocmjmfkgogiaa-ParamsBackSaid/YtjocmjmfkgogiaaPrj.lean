/- Words with parameters: a parameter, as the document has it, whole (layer 8). -/
import Derived.Test.YtjocmjmfkgogiaaPrg
import Derived.Test.YtjocmjmfkgogiaaPrh
import Derived.Test.YtjocmjmfkgogiaaPria
import Derived.Test.YtjocmjmfkgogiaaPrib
import Derived.Test.YtjocmjmfkgogiaaPric
namespace Go.Proofs.Ytjocmjmfkgogiaa
open Go.RowKit
end Go.Proofs.Ytjocmjmfkgogiaa
