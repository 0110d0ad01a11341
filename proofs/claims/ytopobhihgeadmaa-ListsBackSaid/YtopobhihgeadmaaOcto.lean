/- Layer 1: the program's own functions on octets. -/
import Derived.Test.YtopobhihgeadmaaOcts
import Derived.Lib.TrimU
namespace Go.Proofs.Ytopobhihgeadmaa
open Go.RowKit
set_option linter.unusedVariables false
set_option linter.unusedSimpArgs false

/-! ### What is asked of each rune -/
def runeTok (n : Int) : Bool := decide (n < 128) && tcharB n.toNat
def runeVal (n : Int) : Bool := n == 9 || (decide (32 ≤ n) && n != 127)
def runeVis (n : Int) : Bool := decide (33 ≤ n) && decide (n ≤ 126)

theorem runeTok_low (n : Nat) (h : n < 128) : runeTok (n : Int) = tcharB n := by
  have : (n : Int) < 128 := by omega
  simp [runeTok, this]
theorem runeTok_high (n : Nat) (h : 128 ≤ n) : runeTok (n : Int) = false := by
  have : ¬ (n : Int) < 128 := by omega
  simp [runeTok, this]
theorem runeVal_low (n : Nat) (h : n < 128) : runeVal (n : Int) = valueB n := by
  rw [Bool.eq_iff_iff]; simp [runeVal, valueB]; omega
theorem runeVal_high (n : Nat) (h : 128 ≤ n) : runeVal (n : Int) = true := by
  simp [runeVal]; omega
theorem runeVis_low (n : Nat) (h : n < 128) : runeVis (n : Int) = visB n := by
  rw [Bool.eq_iff_iff]; simp [runeVis, visB]; omega
theorem runeVis_high (n : Nat) (h : 128 ≤ n) : runeVis (n : Int) = false := by
  simp [runeVis]; omega
theorem valueB_high (n : Nat) (h : 128 ≤ n) : valueB n = true := by simp [valueB]; omega
theorem visB_high (n : Nat) (h : 128 ≤ n) : visB n = false := by simp [visB]; omega

theorem nonempty_of (s : ByteArray) (h : s.size ≠ 0) : s.data.toList.isEmpty = false := by
  cases hl : s.data.toList with
  | nil => rw [ba_len hl] at h; simp at h
  | cons a r => rfl

theorem tokenB_nil {s : ByteArray} (h : s.toList = []) : false = tokenB s := by
  rw [ByteArray.toList_eq] at h
  simp [tokenB, h]
theorem tokenB_eq (s : ByteArray) : (!s.toList.isEmpty && allB tcharB s) = tokenB s := by rw [tokenB, ByteArray.toList_eq]
theorem visibleB_nil {s : ByteArray} (h : s.toList = []) : false = visibleB s := by
  rw [ByteArray.toList_eq] at h
  simp [visibleB, h]
theorem visibleB_eq (s : ByteArray) : (!s.toList.isEmpty && allB visB s) = visibleB s := by rw [visibleB, ByteArray.toList_eq]

end Go.Proofs.Ytopobhihgeadmaa
