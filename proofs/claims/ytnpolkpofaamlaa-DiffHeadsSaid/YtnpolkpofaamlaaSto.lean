/- First lines (layer 15): what is asked of a response's line, one by one, and in order. -/
import Derived.Test.YtnpolkpofaamlaaStl
import Derived.Test.YtnpolkpofaamlaaKeeps
import Derived.Laws.EntriesVeiled
namespace Go.Proofs.Ytnpolkpofaamlaa
open Go.RowKit
set_option linter.unusedVariables false
set_option linter.unusedSimpArgs false

theorem emptyS {s : ByteArray} (h : s.size = 0) : s = ⟨#[]⟩ := by
  rw [ba_size'] at h
  have := List.length_eq_zero_iff.1 h
  cases s with | mk d => simp at this; rw [this]
theorem emp_neS {v : ByteArray} (h : v.size ≠ 0) : v.toList.isEmpty = false ∧ ¬ (v.toList = []) := by
  have h1 : v.toList ≠ [] := fun e => by
    rw [ByteArray.toList_eq] at e
    rw [ba_size', e] at h
    exact h rfl
  exact ⟨by cases hv : v.toList with | nil => exact absurd hv h1 | cons a b => rfl, h1⟩
end Go.Proofs.Ytnpolkpofaamlaa
