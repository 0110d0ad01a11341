/- Connections (layer 17): whether one goes on, on both sides. -/
import Derived.Test.YtkfpioadimkogaaGreatDoorCnd
namespace Go.Proofs.YtkfpioadimkogaaGreatDoor
open Go.RowKit
set_option linter.unusedVariables false
set_option linter.unusedSimpArgs false

def wClose : ByteArray := ⟨#[99, 108, 111, 115, 101]⟩
def wKeep : ByteArray := ⟨#[107, 101, 101, 112, 45, 97, 108, 105, 118, 101]⟩
theorem low_close : lowB wClose = wClose := by decide +kernel
theorem low_keep : lowB wKeep = wKeep := by decide +kernel
theorem conE_ways (v : ByteArray) : conE v = 0 ∨ conE v = 3 := by
  unfold conE
  split
  · exact .inl rfl
  · exact .inr rfl
theorem perB_bad {m : Int} {v : ByteArray} (h : conE v = 3) : perB m v = false := by unfold perB; rw [h]; rfl
theorem perB_good {m : Int} {v : ByteArray} (h : conE v = 0) : perB m v = (!inW wClose (conW v) && (decide (0 < m) || inW wKeep (conW v))) := by unfold perB; rw [h]; rfl
end Go.Proofs.YtkfpioadimkogaaGreatDoor
