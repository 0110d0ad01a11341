/- First lines (layer 15): what parts a text at a blank, counts blanks, takes a beginning off; versions, on both sides. -/
import Derived.Test.YtnpolkpofaamlaaStd
import Derived.Test.YtnpolkpofaamlaaCtd
import Derived.Test.YtnpolkpofaamlaaSta
import Derived.Deep.Light
namespace Go.Proofs.Ytnpolkpofaamlaa
open Go.RowKit
set_option linter.unusedVariables false
set_option linter.unusedSimpArgs false

theorem take5 (s : ByteArray) : (s.extract 0 5).toList = s.data.toList.take 5 := by rw [ByteArray.toList_eq, Lib.extract_data]; simp
theorem http_yes {s : ByteArray} (h : s.data.toList.take 5 = httpL) : (s.extract 0 5).toList = [72, 84, 84, 80, 47] ∧ ((s.extract 0 5).toList == [72, 84, 84, 80, 47]) = true := by
  have : (s.extract 0 5).toList = [72, 84, 84, 80, 47] := (take5 s).trans h
  exact ⟨this, by rw [this]; rfl⟩
theorem http_no {s : ByteArray} (h : s.data.toList.take 5 ≠ httpL) : ¬ (s.extract 0 5).toList = [72, 84, 84, 80, 47] ∧ ((s.extract 0 5).toList == [72, 84, 84, 80, 47]) = false := by
  have : (s.extract 0 5).toList ≠ [72, 84, 84, 80, 47] := fun e => h ((take5 s).symm.trans e)
  exact ⟨this, by rw [beq_eq_false_iff_ne]; exact this⟩
def pfxB (s : ByteArray) : Bool := decide (5 ≤ s.size) && (s.data.toList.take 5 == httpL)
end Go.Proofs.Ytnpolkpofaamlaa
