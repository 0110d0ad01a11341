/- Words with parameters: a parameter, as the document has it, whole (layer 8). -/
import Derived.Test.YtjbadcfhhcmnoaaPrg
import Derived.Test.YtjbadcfhhcmnoaaPrh
import Derived.Test.YtjbadcfhhcmnoaaPria
import Derived.Test.YtjbadcfhhcmnoaaPrib
import Derived.Test.YtjbadcfhhcmnoaaPric
namespace Go.Proofs.Ytjbadcfhhcmnoaa
open Go.RowKit
theorem rpar_any (x : ByteArray) (w : World) (hs : x.size ≤ 1000000) :
    Calls Try.prog 65 #[.string x] w (RParPost x w) := by
  cases h1 : hasSemi x
  · by_cases hy : (fromB x (preN blankN x)).size = 0
    · exact rpar_a1 x w hs h1 hy
    · exact rpar_a2 x w hs h1 (by omega)
  · by_cases h2 : nameLen x = 0
    · exact rpar_b x w hs h1 h2
    · cases h3 : hasEq x
      · by_cases hk : preN blankN (fromB x (nameEnd x)) = (fromB x (nameEnd x)).size
        · exact rpar_c1 x w hs h1 (by omega) h3 hk
        · exact rpar_c2 x w hs h1 (by omega) h3 (by have := preN_le blankN (fromB x (nameEnd x)); omega)
      · by_cases h4 : valLen x = 0
        · by_cases h5 : quotedN (fromB x (valAt x)) = 0
          · exact rpar_e0 x w hs h1 (by omega) h3 h4 h5
          · exact rpar_e1 x w hs h1 (by omega) h3 h4 (by omega)
        · exact rpar_d x w hs h1 (by omega) h3 (by omega)
end Go.Proofs.Ytjbadcfhhcmnoaa
