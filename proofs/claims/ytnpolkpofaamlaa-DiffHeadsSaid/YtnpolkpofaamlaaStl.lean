/- First lines (layer 15): what is asked of a request's line, in order. -/
import Derived.Test.YtnpolkpofaamlaaStk
namespace Go.Proofs.Ytnpolkpofaamlaa
open Go.RowKit
set_option linter.unusedVariables false
set_option linter.unusedSimpArgs false

/-- The error of the first that doesn't hold. -/
def chkE : List (Bool × Int) → Int
  | [] => 0
  | (b, e) :: r => if b = false then e else chkE r
theorem chkE_all : ∀ L : List (Bool × Int), (∀ j (h : j < L.length), (L[j]'h).1 = true) → chkE L = 0
  | [], _ => rfl
  | (b, e) :: r, h => by
    have h0 : b = true := h 0 (by simp)
    unfold chkE
    rw [if_neg (by rw [h0]; decide)]
    exact chkE_all r fun j hj => h (j + 1) (by simpa using hj)
theorem chkE_at : ∀ (L : List (Bool × Int)) (k : Nat) (h : k < L.length), (∀ j (h : j < L.length), j < k → (L[j]'h).1 = true) → (L[k]'h).1 = false → chkE L = (L[k]'h).2
  | (b, e) :: r, 0, _, _, h2 => by
    unfold chkE
    exact if_pos h2
  | (b, e) :: r, k + 1, h, h1, h2 => by
    have h0 : b = true := h1 0 (by simp) (by omega)
    unfold chkE
    rw [if_neg (by rw [h0]; decide)]
    exact chkE_at r k (by simpa using h) (fun j hj hjk => h1 (j + 1) (by simpa using hj) (by omega)) h2
theorem cell_ltS {w : World} {b : Nat} {o : Nat} {v : Value} (h : w.cell? ⟨b, o, none⟩ = some v) : b < w.heap.size := by
  unfold World.cell? at h
  split at h
  · rename_i hh
    exact (Array.getElem?_eq_some_iff.1 hh).1
  · cases h
theorem cell_in {w w1 : World} {b : Nat} {v : Value} (h : w.cell? ⟨b, 0, none⟩ = some v ∧ b < w.heap.size) (hb : Below w.heap.size w w1) : w1.cell? ⟨b, 0, none⟩ = some v := (hb.cell (p := ⟨b, 0, none⟩) h.2).trans h.1
end Go.Proofs.Ytnpolkpofaamlaa
