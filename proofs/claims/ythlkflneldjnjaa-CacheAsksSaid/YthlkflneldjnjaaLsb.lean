/- Lists (layer 7): the state's steps, one by one. -/
import Derived.Test.YthlkflneldjnjaaLsa
namespace Go.Proofs.Ythlkflneldjnjaa
open Go.RowKit
set_option linter.unusedVariables false
set_option linter.unusedSimpArgs false

theorem ps_go {s : ByteArray} {i fr : Nat} {q p : Bool} {d : Nat} {out : List ByteArray} (h : psAt s i = ⟨q, p, d, fr, out⟩) :
    psAt s (i + 1) = if psIn (seeQ q p d (bt s i)) (seeD q p d (bt s i)) = true ∨ bt s i ≠ 44 then ⟨seeQ q p d (bt s i), seeP q p d (bt s i), seeD q p d (bt s i), fr, out⟩
      else ⟨seeQ q p d (bt s i), seeP q p d (bt s i), seeD q p d (bt s i), i + 1, out ++ [s.extract fr i]⟩ := by
  rw [psAt_succ, h]
  rfl
theorem ps_plain {s : ByteArray} {i fr : Nat} {out : List ByteArray} (h : psAt s i = ⟨false, false, 0, fr, out⟩) (h1 : bt s i ≠ 34) (h2 : bt s i ≠ 40) (h3 : bt s i ≠ 44) : psAt s (i + 1) = ⟨false, false, 0, fr, out⟩ := by
  rw [ps_go h]
  generalize bt s i = c at *
  simp [seeQ, seeP, seeD, psIn, h1, h2, h3]
theorem ps_comma {s : ByteArray} {i fr : Nat} {out : List ByteArray} (h : psAt s i = ⟨false, false, 0, fr, out⟩) (h1 : bt s i = 44) : psAt s (i + 1) = ⟨false, false, 0, i + 1, out ++ [s.extract fr i]⟩ := by
  rw [ps_go h, h1]
  simp [seeQ, seeP, seeD, psIn]
theorem ps_quote {s : ByteArray} {i fr : Nat} {out : List ByteArray} (h : psAt s i = ⟨false, false, 0, fr, out⟩) (h1 : bt s i = 34) : psAt s (i + 1) = ⟨true, false, 0, fr, out⟩ := by
  rw [ps_go h, h1]
  simp [seeQ, seeP, seeD, psIn]
theorem ps_par {s : ByteArray} {i fr : Nat} {out : List ByteArray} (h : psAt s i = ⟨false, false, 0, fr, out⟩) (h1 : bt s i = 40) : psAt s (i + 1) = ⟨false, false, 1, fr, out⟩ := by
  rw [ps_go h, h1]
  simp [seeQ, seeP, seeD, psIn]
theorem ps_bs {s : ByteArray} {i fr : Nat} {q : Bool} {d : Nat} {out : List ByteArray} (h : psAt s i = ⟨q, false, d, fr, out⟩) (hin : psIn q d = true) (h1 : bt s i = 92) : psAt s (i + 1) = ⟨q, true, d, fr, out⟩ := by
  have hq : q = true ∨ 0 < d := by simpa [psIn] using hin
  rw [ps_go h, h1]
  simp [seeQ, seeP, seeD, hq, hin]
theorem ps_passed {s : ByteArray} {i fr : Nat} {q : Bool} {d : Nat} {out : List ByteArray} (h : psAt s i = ⟨q, true, d, fr, out⟩) (hin : psIn q d = true) : psAt s (i + 1) = ⟨q, false, d, fr, out⟩ := by
  rw [ps_go h]
  simp [seeQ, seeP, seeD, hin]
theorem ps_unq {s : ByteArray} {i fr : Nat} {out : List ByteArray} (h : psAt s i = ⟨true, false, 0, fr, out⟩) (h1 : bt s i = 34) : psAt s (i + 1) = ⟨false, false, 0, fr, out⟩ := by
  rw [ps_go h, h1]
  simp [seeQ, seeP, seeD, psIn]
theorem ps_inq {s : ByteArray} {i fr : Nat} {out : List ByteArray} (h : psAt s i = ⟨true, false, 0, fr, out⟩) (h1 : bt s i ≠ 34) (h2 : bt s i ≠ 92) : psAt s (i + 1) = ⟨true, false, 0, fr, out⟩ := by
  rw [ps_go h]
  generalize bt s i = c at *
  simp [seeQ, seeP, seeD, psIn, h1, h2]
theorem ps_deep {s : ByteArray} {i fr d : Nat} {out : List ByteArray} (h : psAt s i = ⟨false, false, d + 1, fr, out⟩) (h1 : bt s i = 40) : psAt s (i + 1) = ⟨false, false, d + 2, fr, out⟩ := by
  rw [ps_go h, h1]
  simp [seeQ, seeP, seeD, psIn]
theorem ps_less {s : ByteArray} {i fr d : Nat} {out : List ByteArray} (h : psAt s i = ⟨false, false, d + 1, fr, out⟩) (h1 : bt s i = 41) : psAt s (i + 1) = ⟨false, false, d, fr, out⟩ := by
  rw [ps_go h, h1]
  simp [seeQ, seeP, seeD, psIn]
theorem ps_ind {s : ByteArray} {i fr d : Nat} {out : List ByteArray} (h : psAt s i = ⟨false, false, d + 1, fr, out⟩) (h1 : bt s i ≠ 40) (h2 : bt s i ≠ 41) (h3 : bt s i ≠ 92) : psAt s (i + 1) = ⟨false, false, d + 1, fr, out⟩ := by
  rw [ps_go h]
  generalize bt s i = c at *
  simp [seeQ, seeP, seeD, psIn, h1, h2, h3]
theorem spl_open {s : ByteArray} {fr : Nat} {out : List ByteArray} (h : psAt s s.size = ⟨false, false, 0, fr, out⟩) : splB s = true ∧ splL s = someL ((out ++ [s.extract fr s.size]).map trimB) := by
  have h1 : splB s = true := by unfold splB; rw [h]; rfl
  exact ⟨h1, by unfold splL; rw [if_pos h1, h]⟩
theorem spl_within {s : ByteArray} (h : psIn (psAt s s.size).q (psAt s s.size).d = true) : splB s = false ∧ splL s = [] := by
  have h1 : splB s = false := by unfold splB; rw [h]; rfl
  exact ⟨h1, by unfold splL; rw [h1]; rfl⟩
end Go.Proofs.Ythlkflneldjnjaa
