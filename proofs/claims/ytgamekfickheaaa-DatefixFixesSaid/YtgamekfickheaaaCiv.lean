/- The calendar, as plain functions (layer 5). -/
import Derived.WalkKit
import Derived.Lib.Hide
namespace Go.Proofs.Ytgamekfickheaaa
open Go.RowKit
set_option linter.unusedVariables false
set_option linter.unusedSimpArgs false

theorem below_thn {w w1 w2 : World} (h : Below w.heap.size w w1) (h2 : Below w1.heap.size w1 w2) : Below w.heap.size w w2 := h.trans (h2.mono h.size)

theorem tmod_zero (y k : Int) : (y.tmod k = 0) ↔ (y % k = 0) := by
  rw [← Int.dvd_iff_tmod_eq_zero, ← Int.dvd_iff_emod_eq_zero]

def leapB (y : Int) : Bool := decide (y % 4 = 0) && (!decide (y % 100 = 0) || decide (y % 400 = 0))
theorem leapB_iff (y : Int) : leapB y = true ↔ (y % 4 = 0 ∧ (¬ y % 100 = 0 ∨ y % 400 = 0)) := by simp [leapB]
theorem leapB_not (y : Int) : leapB y = false ↔ ¬ (y % 4 = 0 ∧ (¬ y % 100 = 0 ∨ y % 400 = 0)) := by
  rw [← leapB_iff]; simp
def longI (y m : Int) : Int := if m < 1 ∨ 12 < m then 0 else if m = 2 then (if leapB y then 29 else 28) else if m = 4 ∨ m = 6 ∨ m = 9 ∨ m = 11 then 30 else 31
theorem longI_range (y m : Int) : 0 ≤ longI y m ∧ longI y m ≤ 31 := by
  unfold longI; repeat' split
  all_goals omega
theorem longI_pos (y m : Int) (h1 : 1 ≤ m) (h2 : m ≤ 12) : 28 ≤ longI y m := by
  unfold longI; repeat' split
  all_goals omega
theorem longI_out (y m : Int) (h : m < 1 ∨ 12 < m) : longI y m = 0 := by unfold longI; rw [if_pos h]
def wholeI (y : Int) : Int := if leapB y then 366 else 365
theorem wholeI_range (y : Int) : 365 ≤ wholeI y ∧ wholeI y ≤ 366 := by unfold wholeI; split <;> omega
def befI (y : Int) : Nat → Int
  | 0 => 0
  | k + 1 => befI y k + longI y (k + 1)
theorem befI_range (y : Int) : ∀ k, 0 ≤ befI y k ∧ befI y k ≤ 31 * k
  | 0 => by simp [befI]
  | k + 1 => by
    have h1 := befI_range y k
    have h2 := longI_range y (k + 1)
    rw [befI]; omega
theorem befI_mono (y : Int) (a : Nat) : ∀ n, befI y a ≤ befI y (a + n)
  | 0 => Int.le_refl _
  | n + 1 => by
    have h1 := befI_mono y a n
    have h2 := longI_range y ((a + n : Nat) + 1)
    rw [← Nat.add_assoc, befI]; omega
theorem befI_whole (y : Int) : befI y 12 = wholeI y := by
  cases h : leapB y <;> simp [befI, longI, wholeI, h]
def aheadI (y : Int) : Int := (y - 1) * 365 + (y - 1) / 4 - (y - 1) / 100 + (y - 1) / 400
theorem aheadI_range (y : Int) (h1 : 1 ≤ y) (h2 : y ≤ 10000) : 0 ≤ aheadI y ∧ aheadI y ≤ 3652059 := by unfold aheadI; omega
theorem aheadI_succ (y : Int) : aheadI (y + 1) = aheadI y + wholeI y := by
  unfold aheadI wholeI
  cases h : leapB y
  · have := (leapB_not y).1 h
    simp; omega
  · have := (leapB_iff y).1 h
    simp; omega
theorem aheadI_1970 : aheadI 1970 = 719162 := by decide
theorem aheadI_mono (a : Int) : ∀ n : Nat, aheadI a ≤ aheadI (a + n)
  | 0 => by simp
  | n + 1 => by
    have h1 := aheadI_mono a n
    have h2 := aheadI_succ (a + n)
    have h3 := wholeI_range (a + n)
    rw [show (a + ((n + 1 : Nat) : Int)) = a + n + 1 from by omega]
    omega
theorem aheadI_lt {a b : Int} (h : a < b) : aheadI a + wholeI a ≤ aheadI b := by
  have := aheadI_mono (a + 1) (b - (a + 1)).toNat
  rw [aheadI_succ, show a + 1 + ((b - (a + 1)).toNat : Int) = b from by omega] at this
  exact this
theorem aheadI_guess (left : Int) (h : 0 ≤ left) : aheadI (left / 146097 * 400 + left % 146097 / 366 + 1) ≤ left := by
  unfold aheadI; omega

/-- The place of a day; whether it is one. -/
def placeI (y m d : Int) : Int := aheadI y + befI y (m - 1).toNat + d - 1 - 719162
def IsDay (y m d : Int) : Prop := 1 ≤ y ∧ y ≤ 9999 ∧ 1 ≤ m ∧ m ≤ 12 ∧ 1 ≤ d ∧ d ≤ longI y m

theorem day_in_year {y m d : Int} (h : IsDay y m d) : 0 ≤ befI y (m - 1).toNat + d - 1 ∧ befI y (m - 1).toNat + d - 1 < wholeI y := by
  obtain ⟨_, _, h3, h4, h5, h6⟩ := h
  have h7 := befI_range y (m - 1).toNat
  refine ⟨by omega, ?_⟩
  have h8 := befI_mono y ((m - 1).toNat + 1) (12 - ((m - 1).toNat + 1))
  rw [show (m - 1).toNat + 1 + (12 - ((m - 1).toNat + 1)) = 12 from by omega, befI_whole, befI, show (((m - 1).toNat : Nat) : Int) + 1 = m from by omega] at h8
  omega
theorem day_unique {y m d y' m' d' : Int} (h : IsDay y m d) (h' : IsDay y' m' d') (e : placeI y m d = placeI y' m' d') : y = y' ∧ m = m' ∧ d = d' := by
  have a := day_in_year h
  have a' := day_in_year h'
  have hy : y = y' := by
    unfold placeI at e
    rcases Int.lt_trichotomy y y' with hlt | heq | hlt
    · have := aheadI_lt hlt; omega
    · exact heq
    · have := aheadI_lt hlt; omega
  subst hy
  have step : ∀ {m m' d d' : Int}, IsDay y m d → IsDay y m' d' → m < m' → befI y (m - 1).toNat + d - 1 < befI y (m' - 1).toNat + d' - 1 := by
    intro m m' d d' h h' hlt
    obtain ⟨_, _, h3, h4, h5, h6⟩ := h
    obtain ⟨_, _, g3, g4, g5, g6⟩ := h'
    have h8 := befI_mono y ((m - 1).toNat + 1) ((m' - 1).toNat - ((m - 1).toNat + 1))
    rw [show (m - 1).toNat + 1 + ((m' - 1).toNat - ((m - 1).toNat + 1)) = (m' - 1).toNat from by omega, befI, show (((m - 1).toNat : Nat) : Int) + 1 = m from by omega] at h8
    omega
  have hm : m = m' := by
    unfold placeI at e
    rcases Int.lt_trichotomy m m' with hlt | heq | hlt
    · have := step h h' hlt; omega
    · exact heq
    · have := step h' h hlt; omega
  subst hm
  refine ⟨rfl, rfl, ?_⟩
  unfold placeI at e
  omega
theorem place_range {y m d : Int} (h : IsDay y m d) : -719162 ≤ placeI y m d ∧ placeI y m d ≤ 2932896 := by
  have a := day_in_year h
  have h1 := aheadI_lt (a := y) (b := 10000) (by have := h.2.1; omega)
  have h2 := aheadI_range y h.1 (by have := h.2.1; omega)
  have h3 : aheadI 10000 = 3652059 := by decide
  unfold placeI
  omega
def dayB (y m d : Int) : Bool := decide (1 ≤ y ∧ y ≤ 9999 ∧ 1 ≤ m ∧ m ≤ 12 ∧ 1 ≤ d ∧ d ≤ longI y m)
theorem dayB_iff (y m d : Int) : dayB y m d = true ↔ IsDay y m d := by simp [dayB, IsDay]
def daysI (y m d : Int) : Int := if dayB y m d then placeI y m d else 0
end Go.Proofs.Ytgamekfickheaaa
