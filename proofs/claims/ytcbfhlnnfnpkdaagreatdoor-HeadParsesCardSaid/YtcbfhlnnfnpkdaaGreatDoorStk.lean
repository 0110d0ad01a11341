/- First lines (layer 15): what is asked of a request's line, one by one. -/
import Derived.Test.YtcbfhlnnfnpkdaaGreatDoorStj
import Derived.Test.YtcbfhlnnfnpkdaaGreatDoorKeeps
import Derived.Laws.EntriesVeiled
namespace Go.Proofs.YtcbfhlnnfnpkdaaGreatDoor
open Go.RowKit
set_option linter.unusedVariables false
set_option linter.unusedSimpArgs false

theorem req1_any (s : ByteArray) (b : Nat) (w : World) (h : w.cell? ⟨b, 0, none⟩ = some (.string s)) :
    Calls Tryz.prog 64 #[.pointer (some ⟨b, 0, none⟩)] w fun e w' => e = .returned (.bool (decide (cnt32 s = 2))) ∧ Below w.heap.size w w' := by
  by_cases h2 : cnt32 s = 2
  · have q : ((cnt32 s : Int) == 2) = true := by rw [h2]; rfl
    have HR := Kp.mk (decide_eq_true h2)
    clear h2
    go_enter Tryz.func64, Tryz.ntmps64
    go_wp2_with fail
    refine (countS_any s _).mono ?_
    rintro e w1 ⟨rfl, rfl⟩
    go_wp2_with fail
    go_ret
    exact ⟨by rw [HR.out]; rfl, Below.refl _ _⟩
  · have q : ((cnt32 s : Int) == 2) = false := by rw [beq_eq_false_iff_ne]; omega
    have HR := Kp.mk (decide_eq_false h2)
    clear h2
    go_enter Tryz.func64, Tryz.ntmps64
    go_wp2_with fail
    refine (countS_any s _).mono ?_
    rintro e w1 ⟨rfl, rfl⟩
    go_wp2_with fail
    go_ret
    exact ⟨by rw [HR.out]; rfl, Below.refl _ _⟩
theorem req2_any (s : ByteArray) (b : Nat) (w : World) (hs : s.size ≤ 100000000) (h : w.cell? ⟨b, 0, none⟩ = some (.string s)) :
    Calls Tryz.prog 66 #[.pointer (some ⟨b, 0, none⟩)] w fun e w' => e = .returned (.bool (tokenB s)) ∧ Below w.heap.size w w' := by
  go_enter Tryz.func66, Tryz.ntmps66
  go_wp2_with fail
  refine (oct_token_any s _ (by unfold maxLen; omega)).mono ?_
  rintro e w1 ⟨rfl, hb⟩
  go_wp2_with fail
  go_ret
  exact ⟨rfl, hb⟩
theorem req3_any (s : ByteArray) (b : Nat) (w : World) (hs : s.size ≤ 100000000) (h : w.cell? ⟨b, 0, none⟩ = some (.string s)) :
    Calls Tryz.prog 67 #[.pointer (some ⟨b, 0, none⟩)] w fun e w' => e = .returned (.bool (visibleB s)) ∧ Below w.heap.size w w' := by
  go_enter Tryz.func67, Tryz.ntmps67
  go_wp2_with fail
  refine (oct_visible_any s _ (by unfold maxLen; omega)).mono ?_
  rintro e w1 ⟨rfl, hb⟩
  go_wp2_with fail
  go_ret
  exact ⟨rfl, hb⟩
theorem eqz (e : Int) : (e == 0) = decide (e = 0) := rfl
theorem req4_any (x : Int) (b : Nat) (w : World) (h : w.cell? ⟨b, 0, none⟩ = some (.int .i64 x)) :
    Calls Tryz.prog 68 #[.pointer (some ⟨b, 0, none⟩)] w fun e w' => e = .returned (.bool (decide (x = 0))) ∧ Below w.heap.size w w' := by
  by_cases h0 : x = 0
  · subst h0
    go_enter Tryz.func68, Tryz.ntmps68
    go_wp2_with fail
    go_ret
    exact ⟨rfl, Below.refl _ _⟩
  · have q : (x == 0) = false := by rw [beq_eq_false_iff_ne]; exact h0
    have HR := Kp.mk (decide_eq_false h0)
    clear h0
    go_enter Tryz.func68, Tryz.ntmps68
    go_wp2_with fail
    go_ret
    exact ⟨by rw [HR.out]; rfl, Below.refl _ _⟩
end Go.Proofs.YtcbfhlnnfnpkdaaGreatDoor
