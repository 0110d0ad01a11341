/- First lines (layer 15): the law StartRequests. -/
import Derived.Test.YtcbfhlnnfnpkdaaGreatDoorStr
import Derived.Test.YtcbfhlnnfnpkdaaGreatDoorStc
import Derived.Deep.DeepCutAuto
namespace Go.Proofs.YtcbfhlnnfnpkdaaGreatDoor
open Go.RowKit
set_option linter.unusedVariables false
set_option linter.unusedSimpArgs false

theorem ext_toS (s : ByteArray) (n : Nat) : (s.extract 0 n).size ≤ n := by rw [ba_size', Lib.extract_data]; simp; omega
def LMid (w : World) (s : Value) (wx : World) : Prop := ∃ x : ByteArray, s = .string x ∧ x.size ≤ 1000 ∧ wx = w
end Go.Proofs.YtcbfhlnnfnpkdaaGreatDoor
