/- The calendar (layer 5): weekdays, and the law CivilDays. -/
import Derived.Test.YtbflkgphkiilgaaCiy
import Derived.OpenShut
namespace Go.Proofs.Ytbflkgphkiilgaa
open Go.RowKit
set_option linter.unusedVariables false
set_option linter.unusedSimpArgs false

theorem tmod7 (n : Int) : ∃ k : Int, n.tmod 7 = n - 7 * k ∧ -7 < n.tmod 7 ∧ n.tmod 7 < 7 := by
  refine ⟨n.tdiv 7, ?_, Int.lt_tmod_of_pos _ (by omega), Int.tmod_lt_of_pos _ (by omega)⟩
  have := Int.tmod_add_mul_tdiv n 7
  omega
def weekI (n : Int) : Int := (n + 4) % 7

set_option maxHeartbeats 400000 in
theorem weekday_any (n : Int) (w : World) :
    Calls Try.prog 48 #[.int .i64 n] w fun e w' => e = .returned (.int .i64 (weekI n)) ∧ w = w' := by
  by_cases h : 0 ≤ n
  · go_enter Try.func48, Try.ntmps48
    go_wp2
    go_ret
    exact ⟨iret (by unfold weekI; omega), rfl⟩
  · obtain ⟨k, h1, h2, h3⟩ := tmod7 n
    have H1 := Lib.hid h1
    clear h1
    have hn : n < 0 := by omega
    go_enter Try.func48, Try.ntmps48
    go_wp2
    go_ret
    exact ⟨iret (by unfold weekI; rw [H1.out]; omega), rfl⟩

set_option maxHeartbeats 400000 in
theorem ref_weekday_any (n : Int) (w : World) :
    Calls Try.prog 49 #[.int .i64 n] w fun e w' => e = .returned (.int .i64 (weekI n)) ∧ w = w' := by
  by_cases h : 0 ≤ n
  · go_enter Try.func49, Try.ntmps49
    go_wp2
    go_ret
    exact ⟨iret (by unfold weekI; omega), rfl⟩
  · obtain ⟨k, h1, h2, h3⟩ := tmod7 n
    have H1 := Lib.hid h1
    clear h1
    have hn : n < 0 := by omega
    by_cases hz : n.tmod 7 < 0
    all_goals
      go_enter Try.func49, Try.ntmps49
      go_wp2
      go_ret
      exact ⟨iret (by unfold weekI; rw [H1.out] at *; omega), rfl⟩

set_option maxHeartbeats 400000 in
theorem lives5 (w : World) : Calls Try.prog 45 #[] w fun e w' => e = .returned (.bool true) ∧ Below w.heap.size w w' :=
  lives5_any w fun n w _ _ => weekday_any n w

set_option maxHeartbeats 800000 in
theorem cdays_walk (y m d : Int) (w : World) (wy : (Lit.int .i64 y).wf = true) (wm : (Lit.int .i64 m).wf = true) (wd : (Lit.int .i64 d).wf = true) :
    Calls Try.prog 8 #[.int .i64 y, .int .i64 m, .int .i64 d] w fun e w' => e = .returned (.bool true) ∧ Below w.heap.size w w' := by
  clear wy wm wd
  go_enter Try.func8, Try.ntmps8
  go_wp2_with fail
  refine (days_any _ _ _ _).mono ?_
  rintro e w1 ⟨rfl, hb1⟩
  go_wp2_with fail
  refine (ref_days_any _ _ _ _).mono ?_
  rintro e w' ⟨rfl, rfl⟩
  generalize daysI y m d = N
  generalize dayB y m d = B
  go_wp2_with fail
  refine (leap_any _ _).mono ?_
  rintro e w' ⟨rfl, rfl⟩
  go_wp2_with fail
  refine (ref_leap_any _ _).mono ?_
  rintro e w' ⟨rfl, rfl⟩
  go_wp2_with fail
  refine (long_any _ _ _).mono ?_
  rintro e w2 ⟨rfl, hb2⟩
  go_wp2_with fail
  refine (ref_long_any _ _ _).mono ?_
  rintro e w' ⟨rfl, rfl⟩
  generalize longI y m = L
  go_wp2_with fail
  refine (lives5 _).mono ?_
  rintro e w3 ⟨rfl, hb3⟩
  go_wp2_with fail
  go_ret
  exact ⟨rfl, below_thn (below_thn hb1 hb2) hb3⟩
end Go.Proofs.Ytbflkgphkiilgaa
