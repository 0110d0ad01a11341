/- The calendar (layer 5): weekdays, and the law CivilDays. -/
import Derived.Test.YtgamekfickheaaaCiy
import Derived.OpenShut
namespace Go.Proofs.Ytgamekfickheaaa
open Go.RowKit
set_option linter.unusedVariables false
set_option linter.unusedSimpArgs false

theorem tmod7 (n : Int) : ∃ k : Int, n.tmod 7 = n - 7 * k ∧ -7 < n.tmod 7 ∧ n.tmod 7 < 7 := by
  refine ⟨n.tdiv 7, ?_, Int.lt_tmod_of_pos _ (by omega), Int.tmod_lt_of_pos _ (by omega)⟩
  have := Int.tmod_add_mul_tdiv n 7
  omega
def weekI (n : Int) : Int := (n + 4) % 7

set_option maxHeartbeats 400000 in
theorem weekday_any (n : Int) (w : World) :
    Calls Try.prog 106 #[.int .i64 n] w fun e w' => e = .returned (.int .i64 (weekI n)) ∧ w = w' := by
  by_cases h : 0 ≤ n
  · go_enter Try.func106, Try.ntmps106
    go_wp2
    go_ret
    exact ⟨iret (by unfold weekI; omega), rfl⟩
  · obtain ⟨k, h1, h2, h3⟩ := tmod7 n
    have H1 := Lib.hid h1
    clear h1
    have hn : n < 0 := by omega
    go_enter Try.func106, Try.ntmps106
    go_wp2
    go_ret
    exact ⟨iret (by unfold weekI; rw [H1.out]; omega), rfl⟩

set_option maxHeartbeats 400000 in
theorem ref_weekday_any (n : Int) (w : World) :
    Calls Try.prog 114 #[.int .i64 n] w fun e w' => e = .returned (.int .i64 (weekI n)) ∧ w = w' := by
  by_cases h : 0 ≤ n
  · go_enter Try.func114, Try.ntmps114
    go_wp2
    go_ret
    exact ⟨iret (by unfold weekI; omega), rfl⟩
  · obtain ⟨k, h1, h2, h3⟩ := tmod7 n
    have H1 := Lib.hid h1
    clear h1
    have hn : n < 0 := by omega
    by_cases hz : n.tmod 7 < 0
    all_goals
      go_enter Try.func114, Try.ntmps114
      go_wp2
      go_ret
      exact ⟨iret (by unfold weekI; rw [H1.out] at *; omega), rfl⟩

end Go.Proofs.Ytgamekfickheaaa
