/- Connections (layer 17): the words, the document's; whether a word is one of them, whether the connection goes on, on both sides. -/
import Derived.Test.YtkfpioadimkogaaGreatDoorCnb
import Derived.Test.YtkfpioadimkogaaGreatDoorQs
import Derived.RegionTactic
import Derived.BigQuiet
namespace Go.Proofs.YtkfpioadimkogaaGreatDoor
open Go.RowKit
set_option linter.unusedVariables false
set_option linter.unusedSimpArgs false

def lowP (L : List ByteArray) (k : Nat) : List ByteArray := (L.take k).map lowB
theorem lowP_step {L : List ByteArray} {k : Nat} (h : k < L.length) : lowP L (k + 1) = lowP L k ++ [lowB L[k]] := low_step h
theorem lowP_len (L : List ByteArray) (k : Nat) : (lowP L k).length ≤ k := by unfold lowP; rw [List.length_map, List.length_take]; omega
theorem lowP_all {L : List ByteArray} {k : Nat} (h : L.length ≤ k) : lowP L k = L.map lowB := by unfold lowP; rw [List.take_of_length_le h]
end Go.Proofs.YtkfpioadimkogaaGreatDoor
