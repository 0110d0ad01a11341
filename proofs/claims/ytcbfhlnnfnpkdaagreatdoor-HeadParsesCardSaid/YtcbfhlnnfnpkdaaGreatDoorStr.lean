/- First lines (layer 15): two the same; the document's examples; heads that came in. -/
import Derived.Test.YtcbfhlnnfnpkdaaGreatDoorStn
import Derived.Test.YtcbfhlnnfnpkdaaGreatDoorStp
import Derived.Test.YtcbfhlnnfnpkdaaGreatDoorStb
namespace Go.Proofs.YtcbfhlnnfnpkdaaGreatDoor
open Go.RowKit
set_option linter.unusedVariables false
set_option linter.unusedSimpArgs false

set_option maxRecDepth 100000 in
set_option maxHeartbeats 1000000 in
theorem same15_any (m t : ByteArray) (mi st : Int) (r : ByteArray) (a1 a2 : Option Addr) (n1 n2 c1 c2 : Nat) (w : World) :
    Calls Tryz.prog 32 #[.agg #[.string m, .string t, .int .i64 mi, .int .i64 st, .string r, .slice a1 n1 c1], .agg #[.string m, .string t, .int .i64 mi, .int .i64 st, .string r, .slice a2 n2 c2]] w fun e w' => e = .returned (.bool true) ∧ Below w.heap.size w w' := by
  have e1 : (m.toList == m.toList) = true := beq_self_eq_true _
  have e2 : (t.toList == t.toList) = true := beq_self_eq_true _
  have e3 : (r.toList == r.toList) = true := beq_self_eq_true _
  have e4 : (mi == mi) = true := beq_self_eq_true _
  have e5 : (st == st) = true := beq_self_eq_true _
  go_enter Tryz.func32, Tryz.ntmps32
  go_wp2_with fail
  go_ret
  exact ⟨rfl, ((Below.refl _ _).alloc (Nat.le_refl _) _).alloc (by simp) _⟩
end Go.Proofs.YtcbfhlnnfnpkdaaGreatDoor
