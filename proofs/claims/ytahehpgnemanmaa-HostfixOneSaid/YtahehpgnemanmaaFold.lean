/- Layer 1: Fold of the program. -/
import Derived.Test.YtahehpgnemanmaaLow
namespace Go.Proofs.Ytahehpgnemanmaa
open Go.RowKit
set_option linter.unusedVariables false
set_option linter.unusedSimpArgs false


def foldB (a b : ByteArray) : Bool := (lowB a).toList == (lowB b).toList
theorem foldB_size {a b : ByteArray} (h : a.size ≠ b.size) : foldB a b = false := by
  unfold foldB
  rw [beq_eq_false_iff_ne]
  intro e
  rw [ByteArray.toList_eq, ByteArray.toList_eq] at e
  have := congrArg List.length e
  simp [lowB, lowL_length] at this
  exact h this

set_option maxHeartbeats 400000 in
theorem oct_fold_any (a b : ByteArray) (w : World) (ha : a.size ≤ 140737488351232) (hb : b.size ≤ 140737488351232) :
    Calls Try.prog 50 #[.string a, .string b] w fun e w' => e = .returned (.bool (foldB a b)) ∧ Below w.heap.size w w' := by
  by_cases hab : a.size = b.size
  · have h1 : ((a.size : Int) == (b.size : Int)) = true := by rw [hab]; simp
    clear hab
    go_enter Try.func50, Try.ntmps50
    go_wp2_with fail
    refine (oct_lower_any _ _ ha).mono ?_
    rintro e w1 ⟨rfl, hb1⟩
    go_wp2_with fail
    refine (oct_lower_any _ _ hb).mono ?_
    rintro e w2 ⟨rfl, hb2⟩
    go_wp2
    go_ret
    exact ⟨rfl, hb1.trans (hb2.mono hb1.size)⟩
  · rw [foldB_size hab]
    have h1 : ((a.size : Int) == (b.size : Int)) = false := by simp; omega
    clear hab
    go_enter Try.func50, Try.ntmps50
    go_wp2
    go_ret
    exact ⟨rfl, Below.refl _ _⟩
end Go.Proofs.Ytahehpgnemanmaa
