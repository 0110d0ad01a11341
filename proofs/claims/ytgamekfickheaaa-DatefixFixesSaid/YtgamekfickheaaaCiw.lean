/- The calendar's functions, walked (layer 5): leap years, months, days. -/
import Derived.Test.YtgamekfickheaaaProg
import Derived.Test.YtgamekfickheaaaCiv
import Derived.WalkSpells
import Derived.WalkLawsBesides
import Derived.Deep.Light
namespace Go.Proofs.Ytgamekfickheaaa
open Go.RowKit
set_option linter.unusedVariables false
set_option linter.unusedSimpArgs false

theorem bret {a b : Bool} (h : a = b) : Ending.returned (.bool a) = .returned (.bool b) := by rw [h]
theorem iret {k : IntKind} {a b : Int} (h : a = b) : Ending.returned (.int k a) = .returned (.int k b) := by rw [h]

set_option maxHeartbeats 400000 in
theorem leap_any (y : Int) (w : World) :
    Calls Try.prog 173 #[.int .i64 y] w fun e w' => e = .returned (.bool (leapB y)) ∧ w = w' := by
  by_cases hy : 0 ≤ y
  all_goals
    go_enter Try.func173, Try.ntmps173
    go_wp2
    all_goals go_ret
    all_goals refine ⟨bret ?_, rfl⟩
    all_goals go_light
    all_goals (rw [Bool.eq_iff_iff, leapB_iff]; simp [tmod_zero] at *; try omega)

set_option maxHeartbeats 400000 in
theorem ref_leap_any (y : Int) (w : World) :
    Calls Try.prog 175 #[.int .i64 y] w fun e w' => e = .returned (.bool (leapB y)) ∧ w = w' := by
  by_cases hy : 0 ≤ y
  all_goals
    go_enter Try.func175, Try.ntmps175
    go_wp2
    all_goals go_ret
    all_goals refine ⟨bret ?_, rfl⟩
    all_goals go_light
    all_goals (rw [Bool.eq_iff_iff, leapB_iff]; simp [tmod_zero] at *; try omega)

set_option maxHeartbeats 400000 in
theorem ref_whole_any (y : Int) (w : World) :
    Calls Try.prog 147 #[.int .i64 y] w fun e w' => e = .returned (.int .i64 (wholeI y)) ∧ w = w' := by
  cases h : leapB y
  all_goals
    first
      | (have e1 : wholeI y = 365 := by unfold wholeI; rw [h]; rfl
         rw [e1]; clear e1)
      | (have e1 : wholeI y = 366 := by unfold wholeI; rw [h]; rfl
         rw [e1]; clear e1)
    have H := Lib.hid h
    clear h
    go_enter Try.func147, Try.ntmps147
    go_wp2_with fail
    refine (ref_leap_any _ _).mono ?_
    rintro e w' ⟨rfl, rfl⟩
    rw [H.out]
    go_wp2
    go_ret
    exact ⟨rfl, rfl⟩

theorem month_cases (y m : Int) : (m = 2 ∧ leapB y = true ∧ longI y m = 29) ∨ (m = 2 ∧ leapB y = false ∧ longI y m = 28) ∨ ((m = 4 ∨ m = 6 ∨ m = 9 ∨ m = 11) ∧ longI y m = 30) ∨ ((m < 1 ∨ 12 < m) ∧ longI y m = 0) ∨
    ((m = 1 ∨ m = 3 ∨ m = 5 ∨ m = 7 ∨ m = 8 ∨ m = 10 ∨ m = 12) ∧ longI y m = 31) := by
  unfold longI
  by_cases h1 : m < 1 ∨ 12 < m
  · rw [if_pos h1]; exact .inr (.inr (.inr (.inl ⟨h1, rfl⟩)))
  · rw [if_neg h1]
    by_cases h2 : m = 2
    · rw [if_pos h2]
      cases h : leapB y
      · exact .inr (.inl ⟨h2, rfl, rfl⟩)
      · exact .inl ⟨h2, rfl, rfl⟩
    · rw [if_neg h2]
      by_cases h3 : m = 4 ∨ m = 6 ∨ m = 9 ∨ m = 11
      · rw [if_pos h3]; exact .inr (.inr (.inl ⟨h3, rfl⟩))
      · rw [if_neg h3]; exact .inr (.inr (.inr (.inr ⟨by omega, rfl⟩)))

set_option maxHeartbeats 1000000 in
theorem ref_long_any (y m : Int) (w : World) :
    Calls Try.prog 148 #[.int .i64 y, .int .i64 m] w fun e w' => e = .returned (.int .i64 (longI y m)) ∧ w = w' := by
  rcases month_cases y m with ⟨rfl, hl, e⟩ | ⟨rfl, hl, e⟩ | ⟨h, e⟩ | ⟨h, e⟩ | ⟨h, e⟩
  iterate 2
    · rw [e]
      have H := Lib.hid hl
      clear e hl
      go_enter Try.func148, Try.ntmps148
      go_wp2_with fail
      refine (ref_leap_any _ _).mono ?_
      rintro e w' ⟨rfl, rfl⟩
      rw [H.out]
      go_wp2
      go_ret
      exact ⟨rfl, rfl⟩
  · rw [e]
    clear e
    rcases h with rfl | rfl | rfl | rfl
    all_goals
      go_enter Try.func148, Try.ntmps148
      go_wp2
      go_ret
      exact ⟨rfl, rfl⟩
  · rw [e]
    clear e
    have q2 : (m == 2) = false := by simp; omega
    have q4 : (m == 4) = false := by simp; omega
    have q6 : (m == 6) = false := by simp; omega
    have q9 : (m == 9) = false := by simp; omega
    have q11 : (m == 11) = false := by simp; omega
    rcases h with h | h
    all_goals
      go_enter Try.func148, Try.ntmps148
      go_wp2
      go_ret
      exact ⟨rfl, rfl⟩
  · rw [e]
    clear e
    rcases h with rfl | rfl | rfl | rfl | rfl | rfl | rfl
    all_goals
      go_enter Try.func148, Try.ntmps148
      go_wp2
      go_ret
      exact ⟨rfl, rfl⟩

set_option maxHeartbeats 1000000 in
theorem long_any (y m : Int) (w : World) :
    Calls Try.prog 140 #[.int .i64 y, .int .i64 m] w fun e w' => e = .returned (.int .i64 (longI y m)) ∧ Below w.heap.size w w' := by
  rcases month_cases y m with ⟨rfl, hl, e⟩ | ⟨rfl, hl, e⟩ | ⟨h, e⟩ | ⟨h, e⟩ | ⟨h, e⟩
  iterate 2
    · rw [e]
      have H := Lib.hid hl
      clear e hl
      go_enter Try.func140, Try.ntmps140
      go_wp2_with fail
      refine (leap_any _ _).mono ?_
      rintro e w' ⟨rfl, rfl⟩
      rw [H.out]
      go_wp2
      go_ret
      exact ⟨rfl, by first | exact Below.refl _ _ | exact (Below.refl _ _).alloc (Nat.le_refl _) _⟩
  · rw [e]
    clear e
    rcases h with rfl | rfl | rfl | rfl
    all_goals
      go_enter Try.func140, Try.ntmps140
      go_wp2
      go_ret
      exact ⟨rfl, by first | exact Below.refl _ _ | exact (Below.refl _ _).alloc (Nat.le_refl _) _⟩
  · rw [e]
    clear e
    have q2 : (m == 2) = false := by simp; omega
    rcases h with h | h
    all_goals
      go_enter Try.func140, Try.ntmps140
      go_wp2
      go_ret
      exact ⟨rfl, by first | exact Below.refl _ _ | exact (Below.refl _ _).alloc (Nat.le_refl _) _⟩
  · rw [e]
    clear e
    rcases h with rfl | rfl | rfl | rfl | rfl | rfl | rfl
    all_goals
      go_enter Try.func140, Try.ntmps140
      go_wp2
      go_ret
      exact ⟨rfl, by first | exact Below.refl _ _ | exact (Below.refl _ _).alloc (Nat.le_refl _) _⟩

end Go.Proofs.Ytgamekfickheaaa
