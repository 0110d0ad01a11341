/- First lines (layer 15): a version read, on both sides. -/
import Derived.Test.YtnpolkpofaamlaaSti
import Derived.Test.YtnpolkpofaamlaaSth
namespace Go.Proofs.Ytnpolkpofaamlaa
open Go.RowKit
set_option linter.unusedVariables false
set_option linter.unusedSimpArgs false

def MinPost (s : ByteArray) (w : World) (e : Ending) (w' : World) : Prop := e = .returned (.tuple #[.int .i64 (minN s), .int .i64 (minE s)]) ∧ w' = w
/-- What stands behind the beginning, where there are eight octets. -/
theorem minor_tail {s : ByteArray} (h8 : s.size = 8) : (s.extract 5 s.size).size = 3 ∧ bt (s.extract 5 s.size) 0 = bt s 5 ∧ bt (s.extract 5 s.size) 1 = bt s 6 ∧ bt (s.extract 5 s.size) 2 = bt s 7 :=
  ⟨by rw [ext_len s (Nat.le_refl _)]; omega, bt_ext s (by omega) (Nat.le_refl _), bt_ext s (by omega) (Nat.le_refl _), bt_ext s (by omega) (Nat.le_refl _)⟩
end Go.Proofs.Ytnpolkpofaamlaa
