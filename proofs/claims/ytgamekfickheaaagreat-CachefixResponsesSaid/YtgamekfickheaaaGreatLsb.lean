/- Lists (layer 7): where a list is parted, as a state seen octet by octet. · Lists (layer 7): the state's steps, one by one. -/
import Derived.Test.YtgamekfickheaaaGreatKeeps
namespace Go.Proofs.YtgamekfickheaaaGreat
open Go.RowKit
set_option linter.unusedVariables false
set_option linter.unusedSimpArgs false

/-- Within quotes; behind a backslash; how many brackets are open; where the part begins; the parts. -/
structure PS where
  q : Bool
  p : Bool
  d : Nat
  fr : Nat
  out : List ByteArray
def seeQ (q p : Bool) (d c : Nat) : Bool := if p = true then q else if c = 92 ∧ (q = true ∨ 0 < d) then q else if c = 34 ∧ d = 0 then !q else q
def seeP (q p : Bool) (d c : Nat) : Bool := if p = true then false else decide (c = 92 ∧ (q = true ∨ 0 < d))
def seeD (q p : Bool) (d c : Nat) : Nat :=
  if p = true then d else if c = 92 ∧ (q = true ∨ 0 < d) then d else if c = 34 ∧ d = 0 then d else if c = 40 ∧ q = false then d + 1 else if c = 41 ∧ q = false ∧ 0 < d then d - 1 else d
def psIn (q : Bool) (d : Nat) : Bool := q || decide (0 < d)
def psStep (s : ByteArray) (i : Nat) (x : PS) : PS :=
  let q := seeQ x.q x.p x.d (bt s i)
  let p := seeP x.q x.p x.d (bt s i)
  let d := seeD x.q x.p x.d (bt s i)
  if psIn q d = true ∨ bt s i ≠ 44 then ⟨q, p, d, x.fr, x.out⟩ else ⟨q, p, d, i + 1, x.out ++ [s.extract x.fr i]⟩
def psAt (s : ByteArray) : Nat → PS
  | 0 => ⟨false, false, 0, 0, []⟩
  | i + 1 => psStep s i (psAt s i)
theorem psAt_succ (s : ByteArray) (i : Nat) : psAt s (i + 1) = psStep s i (psAt s i) := rfl
theorem psAt_fr (s : ByteArray) : ∀ i, (psAt s i).fr ≤ i
  | 0 => Nat.le_refl _
  | i + 1 => by
    have := psAt_fr s i
    rw [psAt_succ]
    unfold psStep
    dsimp only
    split <;> dsimp only <;> omega
theorem psAt_dep (s : ByteArray) : ∀ i, (psAt s i).d ≤ i
  | 0 => Nat.le_refl _
  | i + 1 => by
    have := psAt_dep s i
    rw [psAt_succ]
    have : seeD (psAt s i).q (psAt s i).p (psAt s i).d (bt s i) ≤ (psAt s i).d + 1 := by
      unfold seeD
      repeat' split
      all_goals omega
    unfold psStep
    dsimp only
    split <;> dsimp only <;> omega
theorem psAt_out (s : ByteArray) : ∀ i, (psAt s i).out.length ≤ i
  | 0 => Nat.le_refl _
  | i + 1 => by
    have := psAt_out s i
    rw [psAt_succ]
    unfold psStep
    dsimp only
    split <;> dsimp only <;> (try rw [List.length_append]) <;> simp <;> omega
theorem psAt_sm (s : ByteArray) : ∀ i, i ≤ s.size → ∀ r ∈ (psAt s i).out, r.size ≤ s.size
  | 0, _ => fun r h => by simp [psAt] at h
  | i + 1, hi => by
    intro r hr
    rw [psAt_succ] at hr
    unfold psStep at hr
    dsimp only at hr
    split at hr
    · exact psAt_sm s i (by omega) r hr
    · rw [List.mem_append] at hr
      rcases hr with hr | hr
      · exact psAt_sm s i (by omega) r hr
      · simp at hr
        subst hr
        simp
        omega
/-- The parts, and of each whether all that is closed in ends. -/
def partsL (s : ByteArray) : List (ByteArray × Bool) := (psAt s s.size).out.map (fun r => (trimB r, true)) ++ [(trimB (s.extract (psAt s s.size).fr s.size), !psIn (psAt s s.size).q (psAt s s.size).d)]
def splB (s : ByteArray) : Bool := !psIn (psAt s s.size).q (psAt s s.size).d
def someL (l : List ByteArray) : List ByteArray := l.filter fun x => decide (x.size ≠ 0)
/-- P7.1. -/
def splL (s : ByteArray) : List ByteArray := if splB s = true then someL (((psAt s s.size).out ++ [s.extract (psAt s s.size).fr s.size]).map trimB) else []
theorem someL_snoc (l : List ByteArray) (x : ByteArray) : someL (l ++ [x]) = someL l ++ (if x.size ≠ 0 then [x] else []) := by
  unfold someL
  rw [List.filter_append]
  congr 1
  rw [List.filter_cons]
  by_cases h : x.size ≠ 0
  · rw [if_pos (decide_eq_true h), if_pos h]; rfl
  · rw [if_neg (by rw [decide_eq_false h]; decide), if_neg h]; rfl
theorem someL_len (l : List ByteArray) : (someL l).length ≤ l.length := List.length_filter_le _ _
theorem partsL_fst (s : ByteArray) : (partsL s).map (·.1) = ((psAt s s.size).out ++ [s.extract (psAt s s.size).fr s.size]).map trimB := by
  unfold partsL
  simp
theorem partsL_len (s : ByteArray) : (partsL s).length ≤ s.size + 1 := by
  have := psAt_out s s.size
  unfold partsL
  simp
  exact this
end Go.Proofs.YtgamekfickheaaaGreat
namespace Go.Proofs.YtgamekfickheaaaGreat
open Go.RowKit
set_option linter.unusedVariables false
set_option linter.unusedSimpArgs false

theorem ps_go {s : ByteArray} {i fr : Nat} {q p : Bool} {d : Nat} {out : List ByteArray} (h : psAt s i = ⟨q, p, d, fr, out⟩) :
    psAt s (i + 1) = if psIn (seeQ q p d (bt s i)) (seeD q p d (bt s i)) = true ∨ bt s i ≠ 44 then ⟨seeQ q p d (bt s i), seeP q p d (bt s i), seeD q p d (bt s i), fr, out⟩
      else ⟨seeQ q p d (bt s i), seeP q p d (bt s i), seeD q p d (bt s i), i + 1, out ++ [s.extract fr i]⟩ := by
  rw [psAt_succ, h]
  rfl
theorem ps_plain {s : ByteArray} {i fr : Nat} {out : List ByteArray} (h : psAt s i = ⟨false, false, 0, fr, out⟩) (h1 : bt s i ≠ 34) (h2 : bt s i ≠ 40) (h3 : bt s i ≠ 44) : psAt s (i + 1) = ⟨false, false, 0, fr, out⟩ := by
  rw [ps_go h]
  generalize bt s i = c at *
  simp [seeQ, seeP, seeD, psIn, h1, h2, h3]
theorem ps_comma {s : ByteArray} {i fr : Nat} {out : List ByteArray} (h : psAt s i = ⟨false, false, 0, fr, out⟩) (h1 : bt s i = 44) : psAt s (i + 1) = ⟨false, false, 0, i + 1, out ++ [s.extract fr i]⟩ := by
  rw [ps_go h, h1]
  simp [seeQ, seeP, seeD, psIn]
theorem ps_quote {s : ByteArray} {i fr : Nat} {out : List ByteArray} (h : psAt s i = ⟨false, false, 0, fr, out⟩) (h1 : bt s i = 34) : psAt s (i + 1) = ⟨true, false, 0, fr, out⟩ := by
  rw [ps_go h, h1]
  simp [seeQ, seeP, seeD, psIn]
theorem ps_par {s : ByteArray} {i fr : Nat} {out : List ByteArray} (h : psAt s i = ⟨false, false, 0, fr, out⟩) (h1 : bt s i = 40) : psAt s (i + 1) = ⟨false, false, 1, fr, out⟩ := by
  rw [ps_go h, h1]
  simp [seeQ, seeP, seeD, psIn]
theorem ps_bs {s : ByteArray} {i fr : Nat} {q : Bool} {d : Nat} {out : List ByteArray} (h : psAt s i = ⟨q, false, d, fr, out⟩) (hin : psIn q d = true) (h1 : bt s i = 92) : psAt s (i + 1) = ⟨q, true, d, fr, out⟩ := by
  have hq : q = true ∨ 0 < d := by simpa [psIn] using hin
  rw [ps_go h, h1]
  simp [seeQ, seeP, seeD, hq, hin]
theorem ps_passed {s : ByteArray} {i fr : Nat} {q : Bool} {d : Nat} {out : List ByteArray} (h : psAt s i = ⟨q, true, d, fr, out⟩) (hin : psIn q d = true) : psAt s (i + 1) = ⟨q, false, d, fr, out⟩ := by
  rw [ps_go h]
  simp [seeQ, seeP, seeD, hin]
theorem ps_unq {s : ByteArray} {i fr : Nat} {out : List ByteArray} (h : psAt s i = ⟨true, false, 0, fr, out⟩) (h1 : bt s i = 34) : psAt s (i + 1) = ⟨false, false, 0, fr, out⟩ := by
  rw [ps_go h, h1]
  simp [seeQ, seeP, seeD, psIn]
theorem ps_inq {s : ByteArray} {i fr : Nat} {out : List ByteArray} (h : psAt s i = ⟨true, false, 0, fr, out⟩) (h1 : bt s i ≠ 34) (h2 : bt s i ≠ 92) : psAt s (i + 1) = ⟨true, false, 0, fr, out⟩ := by
  rw [ps_go h]
  generalize bt s i = c at *
  simp [seeQ, seeP, seeD, psIn, h1, h2]
theorem ps_deep {s : ByteArray} {i fr d : Nat} {out : List ByteArray} (h : psAt s i = ⟨false, false, d + 1, fr, out⟩) (h1 : bt s i = 40) : psAt s (i + 1) = ⟨false, false, d + 2, fr, out⟩ := by
  rw [ps_go h, h1]
  simp [seeQ, seeP, seeD, psIn]
theorem ps_less {s : ByteArray} {i fr d : Nat} {out : List ByteArray} (h : psAt s i = ⟨false, false, d + 1, fr, out⟩) (h1 : bt s i = 41) : psAt s (i + 1) = ⟨false, false, d, fr, out⟩ := by
  rw [ps_go h, h1]
  simp [seeQ, seeP, seeD, psIn]
theorem ps_ind {s : ByteArray} {i fr d : Nat} {out : List ByteArray} (h : psAt s i = ⟨false, false, d + 1, fr, out⟩) (h1 : bt s i ≠ 40) (h2 : bt s i ≠ 41) (h3 : bt s i ≠ 92) : psAt s (i + 1) = ⟨false, false, d + 1, fr, out⟩ := by
  rw [ps_go h]
  generalize bt s i = c at *
  simp [seeQ, seeP, seeD, psIn, h1, h2, h3]
theorem spl_open {s : ByteArray} {fr : Nat} {out : List ByteArray} (h : psAt s s.size = ⟨false, false, 0, fr, out⟩) : splB s = true ∧ splL s = someL ((out ++ [s.extract fr s.size]).map trimB) := by
  have h1 : splB s = true := by unfold splB; rw [h]; rfl
  exact ⟨h1, by unfold splL; rw [if_pos h1, h]⟩
theorem spl_within {s : ByteArray} (h : psIn (psAt s s.size).q (psAt s s.size).d = true) : splB s = false ∧ splL s = [] := by
  have h1 : splB s = false := by unfold splB; rw [h]; rfl
  exact ⟨h1, by unfold splL; rw [h1]; rfl⟩
end Go.Proofs.YtgamekfickheaaaGreat
