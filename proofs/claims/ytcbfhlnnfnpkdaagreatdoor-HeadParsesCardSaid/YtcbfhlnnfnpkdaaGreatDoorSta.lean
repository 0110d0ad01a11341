/- First lines (layer 15): the version's text, on both sides. -/
import Derived.Test.YtcbfhlnnfnpkdaaGreatDoorGb
import Derived.Test.YtcbfhlnnfnpkdaaGreatDoorProg
namespace Go.Proofs.YtcbfhlnnfnpkdaaGreatDoor
open Go.RowKit
set_option linter.unusedVariables false
set_option linter.unusedSimpArgs false

/-- P15.1: a version's text. -/
def verS (m : Int) : ByteArray := if m ≤ 0 then ⟨#[72, 84, 84, 80, 47, 49, 46, 48]⟩ else ⟨#[72, 84, 84, 80, 47, 49, 46, 49]⟩
theorem version_any (m : Int) (w : World) : Calls Tryz.prog 86 #[.int .i64 m] w fun e w' => e = .returned (.string (verS m)) ∧ w' = w := by
  go_enter Tryz.func86, Tryz.ntmps86
  by_cases h : m ≤ 0
  · have HV : verS m = ⟨#[72, 84, 84, 80, 47, 49, 46, 48]⟩ := if_pos h
    rw [HV]
    go_wp2_with fail
    go_ret
    exact ⟨rfl, rfl⟩
  · have HV : verS m = ⟨#[72, 84, 84, 80, 47, 49, 46, 49]⟩ := if_neg h
    rw [HV]
    go_wp2_with fail
    go_ret
    exact ⟨rfl, rfl⟩
theorem rversion_any (m : Int) (w : World) : Calls Tryz.prog 88 #[.int .i64 m] w fun e w' => e = .returned (.string (verS m)) ∧ w' = w := by
  go_enter Tryz.func88, Tryz.ntmps88
  by_cases h : m ≤ 0
  · have HV : verS m = ⟨#[72, 84, 84, 80, 47, 49, 46, 48]⟩ := if_pos h
    have h2 : ¬ 0 < m := by omega
    rw [HV]
    go_wp2_with fail
    go_ret
    exact ⟨rfl, rfl⟩
  · have HV : verS m = ⟨#[72, 84, 84, 80, 47, 49, 46, 49]⟩ := if_neg h
    have h2 : 0 < m := by omega
    rw [HV]
    go_wp2_with fail
    go_ret
    exact ⟨rfl, rfl⟩
end Go.Proofs.YtcbfhlnnfnpkdaaGreatDoor
