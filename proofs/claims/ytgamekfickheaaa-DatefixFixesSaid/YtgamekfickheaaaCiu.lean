/- The calendar (layer 5): the law CivilNext. -/
import Derived.Test.YtgamekfickheaaaCit
import Derived.Deep.DeepCutAuto
namespace Go.Proofs.Ytgamekfickheaaa
open Go.RowKit
set_option linter.unusedVariables false
set_option linter.unusedSimpArgs false

theorem date_back (n : Int) (h : placeB (n / 86400) = true) :
    secB (dayOf (n / 86400)).1 (dayOf (n / 86400)).2.1 (dayOf (n / 86400)).2.2 (n % 86400 / 3600) (n % 86400 / 60 % 60) (n % 60) = true ∧
    secI (dayOf (n / 86400)).1 (dayOf (n / 86400)).2.1 (dayOf (n / 86400)).2.2 (n % 86400 / 3600) (n % 86400 / 60 % 60) (n % 60) = n := by
  have hr : -719162 ≤ n / 86400 ∧ n / 86400 ≤ 2932896 := by simpa [placeB] using h
  obtain ⟨h1, h2⟩ := dayOf_spec hr.1 hr.2
  have hd : dayB (dayOf (n / 86400)).1 (dayOf (n / 86400)).2.1 (dayOf (n / 86400)).2.2 = true := (dayB_iff _ _ _).2 h1
  have ht : timeB (n % 86400 / 3600) (n % 86400 / 60 % 60) (n % 60) = true := by
    unfold timeB; simp only [decide_eq_true_eq]; omega
  have hs : secB (dayOf (n / 86400)).1 (dayOf (n / 86400)).2.1 (dayOf (n / 86400)).2.2 (n % 86400 / 3600) (n % 86400 / 60 % 60) (n % 60) = true := by
    unfold secB; rw [hd, ht]; rfl
  refine ⟨hs, ?_⟩
  unfold secI
  rw [if_pos hs, h2]
  omega

theorem next_at (n : Int) (h : placeB n = true) (h' : placeB (n + 1) = true) : Follows (dayOf n).1 (dayOf n).2.1 (dayOf n).2.2 (dayOf (n + 1)).1 (dayOf (n + 1)).2.1 (dayOf (n + 1)).2.2 := by
  have hr : -719162 ≤ n ∧ n ≤ 2932896 := by simpa [placeB] using h
  have hr' : -719162 ≤ n + 1 ∧ n + 1 ≤ 2932896 := by simpa [placeB] using h'
  obtain ⟨h1, h2⟩ := dayOf_spec hr.1 hr.2
  obtain ⟨y, m, d, g1, g2, g3⟩ := next_day h1 (by omega)
  obtain ⟨e1, e2, e3⟩ := dayOf_eq g1 (show placeI y m d = n + 1 by rw [g2, h2])
  rw [← e1, ← e2, ← e3]
  exact g3
theorem last_at (n : Int) (h : placeB n = true) (h' : placeB (n + 1) = false) : dayOf n = (9999, 12, 31) := by
  have hr : -719162 ≤ n ∧ n ≤ 2932896 := by simpa [placeB] using h
  have hr' : ¬ (-719162 ≤ n + 1 ∧ n + 1 ≤ 2932896) := by simpa [placeB] using h'
  have hn : n = 2932896 := by omega
  subst hn
  obtain ⟨e1, e2, e3⟩ := dayOf_eq (n := 2932896) (y := 9999) (m := 12) (d := 31) ⟨by decide, by decide, by decide, by decide, by decide, by decide⟩ (by decide)
  have : dayOf 2932896 = ((dayOf 2932896).1, (dayOf 2932896).2.1, (dayOf 2932896).2.2) := rfl
  rw [this, ← e1, ← e2, ← e3]

/-- The parts of the date of so many seconds; noughts where it has none. -/
def dH (n : Int) : Int := if placeB (n / 86400) then n % 86400 / 3600 else 0
def dM (n : Int) : Int := if placeB (n / 86400) then n % 86400 / 60 % 60 else 0
def dS (n : Int) : Int := if placeB (n / 86400) then n % 60 else 0
theorem dateR_eq (n : Int) : dateR n = .agg #[.int .i64 (dayOf (n / 86400)).1, .int .i64 (dayOf (n / 86400)).2.1, .int .i64 (dayOf (n / 86400)).2.2, .int .i64 (dH n), .int .i64 (dM n), .int .i64 (dS n)] := by
  unfold dateR dH dM dS
  cases h : placeB (n / 86400)
  · have hr : ¬ (-719162 ≤ n / 86400 ∧ n / 86400 ≤ 2932896) := by simpa [placeB] using h
    rw [dayOf_out hr]; rfl
  · simp only [if_true, dateV]
    rw [show n % 86400 % 60 = n % 60 from by omega]
theorem date_back2 (n : Int) (h : placeB (n / 86400) = true) :
    secB (dayOf (n / 86400)).1 (dayOf (n / 86400)).2.1 (dayOf (n / 86400)).2.2 (dH n) (dM n) (dS n) = true ∧ secI (dayOf (n / 86400)).1 (dayOf (n / 86400)).2.1 (dayOf (n / 86400)).2.2 (dH n) (dM n) (dS n) = n := by
  unfold dH dM dS
  rw [if_pos h, if_pos h, if_pos h]
  exact date_back n h
theorem date_any2 (n : Int) (w : World) (h0 : -9223372036854775808 ≤ n) (h1 : n ≤ 9223372036854775807) :
    Calls Try.prog 59 #[.int .i64 n] w fun e w' => e = .returned (.tuple #[.agg #[.int .i64 (dayOf (n / 86400)).1, .int .i64 (dayOf (n / 86400)).2.1, .int .i64 (dayOf (n / 86400)).2.2, .int .i64 (dH n), .int .i64 (dM n), .int .i64 (dS n)], .bool (placeB (n / 86400))]) ∧ Below w.heap.size w w' :=
  (date_any n w h0 h1).mono fun e w' h => by rw [← dateR_eq]; exact h

end Go.Proofs.Ytgamekfickheaaa
