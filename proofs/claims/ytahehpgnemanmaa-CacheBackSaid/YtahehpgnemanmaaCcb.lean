/- What is said to caches (layer 21): a directive, the document's. -/
import Derived.Test.YtahehpgnemanmaaCcz
import Derived.Test.YtahehpgnemanmaaPrf
import Derived.Test.YtahehpgnemanmaaKeeps
namespace Go.Proofs.Ytahehpgnemanmaa
open Go.RowKit
set_option linter.unusedVariables false
set_option linter.unusedSimpArgs false

def OnePostD (s : ByteArray) (w : World) (e : Ending) (w' : World) : Prop :=
  ∃ (nm vl : ByteArray) (st : Bool), e = .returned (.tuple #[.agg #[.string nm, .string vl, .bool st], .bool (okD s)]) ∧ (okD s = true → nm = nmD s ∧ vl = vlD s ∧ st = setD s) ∧ Below w.heap.size w w'
theorem dK_le (s : ByteArray) : dK s ≤ s.size - (dN s + 1) := by
  have h : dK s ≤ (fromB s (dN s + 1)).size := preN_le _ _
  rw [fromB_size] at h
  exact h
theorem dN_le (s : ByteArray) : dN s ≤ s.size := preN_le _ _
theorem setD_no {s : ByteArray} (h : ¬ (dN s < s.size ∧ bt s (dN s) = 61)) : setD s = false := by
  unfold setD
  rw [Bool.and_eq_false_iff, decide_eq_false_iff_not, beq_eq_false_iff_ne]
  by_cases h1 : dN s < s.size
  · exact .inr (fun h2 => h ⟨h1, h2⟩)
  · exact .inl h1
theorem okD_plain {s : ByteArray} (h : setD s = false) : okD s = (decide (0 < dN s) && decide (s.size - dN s = 0)) ∧ vlD s = ⟨#[]⟩ := by
  unfold okD enD vlD
  rw [h]
  simp [fromB_size]
theorem okD_set {s : ByteArray} (h : setD s = true) (hn : 0 < dN s) : okD s = if 0 < dK s then decide (dK s = s.size - (dN s + 1)) else (decide (0 < dQ s) && decide (s.size - (dN s + 1 + dQ s) = 0)) := by
  have hk := dK_le s
  unfold okD enD
  rw [h, decide_eq_true hn]
  by_cases h0 : 0 < dK s
  · rw [if_pos h0, decide_eq_true h0]
    simp only [fromB_size, Bool.not_true, Bool.true_or, Bool.or_true, Bool.false_or, Bool.true_and, if_true, Bool.true_and]
    rw [if_pos h0]
    congr 1
    rw [eq_iff_iff]
    omega
  · rw [if_neg h0, decide_eq_false h0]
    simp only [fromB_size, Bool.not_true, Bool.false_or, Bool.true_and, if_true]
    rw [if_neg h0]
theorem vlD_set {s : ByteArray} (h : setD s = true) : vlD s = if 0 < dK s then upB (fromB s (dN s + 1)) (dK s) else quotedS (fromB s (dN s + 1)) := by unfold vlD; rw [h]; rfl
end Go.Proofs.Ytahehpgnemanmaa
