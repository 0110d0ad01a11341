/- First lines (layer 15): the version's text, on both sides. -/
import Derived.Test.YtnpolkpofaamlaaGb
import Derived.Test.YtnpolkpofaamlaaProg
namespace Go.Proofs.Ytnpolkpofaamlaa
open Go.RowKit
set_option linter.unusedVariables false
set_option linter.unusedSimpArgs false

/-- P15.1: a version's text. -/
def verS (m : Int) : ByteArray := if m ≤ 0 then ⟨#[72, 84, 84, 80, 47, 49, 46, 48]⟩ else ⟨#[72, 84, 84, 80, 47, 49, 46, 49]⟩
theorem version_any (m : Int) (w : World) : Calls Try.prog 139 #[.int .i64 m] w fun e w' => e = .returned (.string (verS m)) ∧ w' = w := by
  go_enter Try.func139, Try.ntmps139
  by_cases h : m ≤ 0
  · have HV : verS m = ⟨#[72, 84, 84, 80, 47, 49, 46, 48]⟩ := if_pos h
    rw [HV]
    go_wp2_with fail
    go_ret
    exact ⟨rfl, rfl⟩
  · have HV : verS m = ⟨#[72, 84, 84, 80, 47, 49, 46, 49]⟩ := if_neg h
    rw [HV]
    go_wp2_with fail
    go_ret
    exact ⟨rfl, rfl⟩
theorem rversion_any (m : Int) (w : World) : Calls Try.prog 141 #[.int .i64 m] w fun e w' => e = .returned (.string (verS m)) ∧ w' = w := by
  go_enter Try.func141, Try.ntmps141
  by_cases h : m ≤ 0
  · have HV : verS m = ⟨#[72, 84, 84, 80, 47, 49, 46, 48]⟩ := if_pos h
    have h2 : ¬ 0 < m := by omega
    rw [HV]
    go_wp2_with fail
    go_ret
    exact ⟨rfl, rfl⟩
  · have HV : verS m = ⟨#[72, 84, 84, 80, 47, 49, 46, 49]⟩ := if_neg h
    have h2 : 0 < m := by omega
    rw [HV]
    go_wp2_with fail
    go_ret
    exact ⟨rfl, rfl⟩
end Go.Proofs.Ytnpolkpofaamlaa
