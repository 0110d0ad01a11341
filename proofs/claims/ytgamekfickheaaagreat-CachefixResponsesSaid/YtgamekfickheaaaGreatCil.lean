/- The calendar, as plain functions (layer 5). · The calendar's functions, walked (layer 5): leap years, months, days. · The calendar's functions, walked (layer 5): places of days. · The calendar (layer 5): the document's own places of days. · The calendar (layer 5): weekdays, and the law CivilDays. -/
import Derived.WalkKit
import Derived.Lib.Hide
import Derived.Test.YtgamekfickheaaaGreatProg
import Derived.WalkSpells
import Derived.WalkLawsBesides
import Derived.Deep.Light
import Derived.OpenShut
namespace Go.Proofs.YtgamekfickheaaaGreat
open Go.RowKit
set_option linter.unusedVariables false
set_option linter.unusedSimpArgs false

theorem below_thn {w w1 w2 : World} (h : Below w.heap.size w w1) (h2 : Below w1.heap.size w1 w2) : Below w.heap.size w w2 := h.trans (h2.mono h.size)

theorem tmod_zero (y k : Int) : (y.tmod k = 0) ↔ (y % k = 0) := by
  rw [← Int.dvd_iff_tmod_eq_zero, ← Int.dvd_iff_emod_eq_zero]

def leapB (y : Int) : Bool := decide (y % 4 = 0) && (!decide (y % 100 = 0) || decide (y % 400 = 0))
theorem leapB_iff (y : Int) : leapB y = true ↔ (y % 4 = 0 ∧ (¬ y % 100 = 0 ∨ y % 400 = 0)) := by simp [leapB]
theorem leapB_not (y : Int) : leapB y = false ↔ ¬ (y % 4 = 0 ∧ (¬ y % 100 = 0 ∨ y % 400 = 0)) := by
  rw [← leapB_iff]; simp
def longI (y m : Int) : Int := if m < 1 ∨ 12 < m then 0 else if m = 2 then (if leapB y then 29 else 28) else if m = 4 ∨ m = 6 ∨ m = 9 ∨ m = 11 then 30 else 31
theorem longI_range (y m : Int) : 0 ≤ longI y m ∧ longI y m ≤ 31 := by
  unfold longI; repeat' split
  all_goals omega
theorem longI_pos (y m : Int) (h1 : 1 ≤ m) (h2 : m ≤ 12) : 28 ≤ longI y m := by
  unfold longI; repeat' split
  all_goals omega
theorem longI_out (y m : Int) (h : m < 1 ∨ 12 < m) : longI y m = 0 := by unfold longI; rw [if_pos h]
def wholeI (y : Int) : Int := if leapB y then 366 else 365
theorem wholeI_range (y : Int) : 365 ≤ wholeI y ∧ wholeI y ≤ 366 := by unfold wholeI; split <;> omega
def befI (y : Int) : Nat → Int
  | 0 => 0
  | k + 1 => befI y k + longI y (k + 1)
theorem befI_range (y : Int) : ∀ k, 0 ≤ befI y k ∧ befI y k ≤ 31 * k
  | 0 => by simp [befI]
  | k + 1 => by
    have h1 := befI_range y k
    have h2 := longI_range y (k + 1)
    rw [befI]; omega
theorem befI_mono (y : Int) (a : Nat) : ∀ n, befI y a ≤ befI y (a + n)
  | 0 => Int.le_refl _
  | n + 1 => by
    have h1 := befI_mono y a n
    have h2 := longI_range y ((a + n : Nat) + 1)
    rw [← Nat.add_assoc, befI]; omega
theorem befI_whole (y : Int) : befI y 12 = wholeI y := by
  cases h : leapB y <;> simp [befI, longI, wholeI, h]
def aheadI (y : Int) : Int := (y - 1) * 365 + (y - 1) / 4 - (y - 1) / 100 + (y - 1) / 400
theorem aheadI_range (y : Int) (h1 : 1 ≤ y) (h2 : y ≤ 10000) : 0 ≤ aheadI y ∧ aheadI y ≤ 3652059 := by unfold aheadI; omega
theorem aheadI_succ (y : Int) : aheadI (y + 1) = aheadI y + wholeI y := by
  unfold aheadI wholeI
  cases h : leapB y
  · have := (leapB_not y).1 h
    simp; omega
  · have := (leapB_iff y).1 h
    simp; omega
theorem aheadI_1970 : aheadI 1970 = 719162 := by decide
theorem aheadI_mono (a : Int) : ∀ n : Nat, aheadI a ≤ aheadI (a + n)
  | 0 => by simp
  | n + 1 => by
    have h1 := aheadI_mono a n
    have h2 := aheadI_succ (a + n)
    have h3 := wholeI_range (a + n)
    rw [show (a + ((n + 1 : Nat) : Int)) = a + n + 1 from by omega]
    omega
theorem aheadI_lt {a b : Int} (h : a < b) : aheadI a + wholeI a ≤ aheadI b := by
  have := aheadI_mono (a + 1) (b - (a + 1)).toNat
  rw [aheadI_succ, show a + 1 + ((b - (a + 1)).toNat : Int) = b from by omega] at this
  exact this
theorem aheadI_guess (left : Int) (h : 0 ≤ left) : aheadI (left / 146097 * 400 + left % 146097 / 366 + 1) ≤ left := by
  unfold aheadI; omega

/-- The place of a day; whether it is one. -/
def placeI (y m d : Int) : Int := aheadI y + befI y (m - 1).toNat + d - 1 - 719162
def IsDay (y m d : Int) : Prop := 1 ≤ y ∧ y ≤ 9999 ∧ 1 ≤ m ∧ m ≤ 12 ∧ 1 ≤ d ∧ d ≤ longI y m

theorem day_in_year {y m d : Int} (h : IsDay y m d) : 0 ≤ befI y (m - 1).toNat + d - 1 ∧ befI y (m - 1).toNat + d - 1 < wholeI y := by
  obtain ⟨_, _, h3, h4, h5, h6⟩ := h
  have h7 := befI_range y (m - 1).toNat
  refine ⟨by omega, ?_⟩
  have h8 := befI_mono y ((m - 1).toNat + 1) (12 - ((m - 1).toNat + 1))
  rw [show (m - 1).toNat + 1 + (12 - ((m - 1).toNat + 1)) = 12 from by omega, befI_whole, befI, show (((m - 1).toNat : Nat) : Int) + 1 = m from by omega] at h8
  omega
theorem day_unique {y m d y' m' d' : Int} (h : IsDay y m d) (h' : IsDay y' m' d') (e : placeI y m d = placeI y' m' d') : y = y' ∧ m = m' ∧ d = d' := by
  have a := day_in_year h
  have a' := day_in_year h'
  have hy : y = y' := by
    unfold placeI at e
    rcases Int.lt_trichotomy y y' with hlt | heq | hlt
    · have := aheadI_lt hlt; omega
    · exact heq
    · have := aheadI_lt hlt; omega
  subst hy
  have step : ∀ {m m' d d' : Int}, IsDay y m d → IsDay y m' d' → m < m' → befI y (m - 1).toNat + d - 1 < befI y (m' - 1).toNat + d' - 1 := by
    intro m m' d d' h h' hlt
    obtain ⟨_, _, h3, h4, h5, h6⟩ := h
    obtain ⟨_, _, g3, g4, g5, g6⟩ := h'
    have h8 := befI_mono y ((m - 1).toNat + 1) ((m' - 1).toNat - ((m - 1).toNat + 1))
    rw [show (m - 1).toNat + 1 + ((m' - 1).toNat - ((m - 1).toNat + 1)) = (m' - 1).toNat from by omega, befI, show (((m - 1).toNat : Nat) : Int) + 1 = m from by omega] at h8
    omega
  have hm : m = m' := by
    unfold placeI at e
    rcases Int.lt_trichotomy m m' with hlt | heq | hlt
    · have := step h h' hlt; omega
    · exact heq
    · have := step h' h hlt; omega
  subst hm
  refine ⟨rfl, rfl, ?_⟩
  unfold placeI at e
  omega
theorem place_range {y m d : Int} (h : IsDay y m d) : -719162 ≤ placeI y m d ∧ placeI y m d ≤ 2932896 := by
  have a := day_in_year h
  have h1 := aheadI_lt (a := y) (b := 10000) (by have := h.2.1; omega)
  have h2 := aheadI_range y h.1 (by have := h.2.1; omega)
  have h3 : aheadI 10000 = 3652059 := by decide
  unfold placeI
  omega
def dayB (y m d : Int) : Bool := decide (1 ≤ y ∧ y ≤ 9999 ∧ 1 ≤ m ∧ m ≤ 12 ∧ 1 ≤ d ∧ d ≤ longI y m)
theorem dayB_iff (y m d : Int) : dayB y m d = true ↔ IsDay y m d := by simp [dayB, IsDay]
def daysI (y m d : Int) : Int := if dayB y m d then placeI y m d else 0
end Go.Proofs.YtgamekfickheaaaGreat
namespace Go.Proofs.YtgamekfickheaaaGreat
open Go.RowKit
set_option linter.unusedVariables false
set_option linter.unusedSimpArgs false

theorem bret {a b : Bool} (h : a = b) : Ending.returned (.bool a) = .returned (.bool b) := by rw [h]
theorem iret {k : IntKind} {a b : Int} (h : a = b) : Ending.returned (.int k a) = .returned (.int k b) := by rw [h]

set_option maxHeartbeats 400000 in
theorem leap_any (y : Int) (w : World) :
    Calls Tryz.prog 126 #[.int .i64 y] w fun e w' => e = .returned (.bool (leapB y)) ∧ w = w' := by
  by_cases hy : 0 ≤ y
  all_goals
    go_enter Tryz.func126, Tryz.ntmps126
    go_wp2
    all_goals go_ret
    all_goals refine ⟨bret ?_, rfl⟩
    all_goals go_light
    all_goals (rw [Bool.eq_iff_iff, leapB_iff]; simp [tmod_zero] at *; try omega)

set_option maxHeartbeats 400000 in
theorem ref_leap_any (y : Int) (w : World) :
    Calls Tryz.prog 143 #[.int .i64 y] w fun e w' => e = .returned (.bool (leapB y)) ∧ w = w' := by
  by_cases hy : 0 ≤ y
  all_goals
    go_enter Tryz.func143, Tryz.ntmps143
    go_wp2
    all_goals go_ret
    all_goals refine ⟨bret ?_, rfl⟩
    all_goals go_light
    all_goals (rw [Bool.eq_iff_iff, leapB_iff]; simp [tmod_zero] at *; try omega)

set_option maxHeartbeats 400000 in
theorem ref_whole_any (y : Int) (w : World) :
    Calls Tryz.prog 132 #[.int .i64 y] w fun e w' => e = .returned (.int .i64 (wholeI y)) ∧ w = w' := by
  cases h : leapB y
  all_goals
    first
      | (have e1 : wholeI y = 365 := by unfold wholeI; rw [h]; rfl
         rw [e1]; clear e1)
      | (have e1 : wholeI y = 366 := by unfold wholeI; rw [h]; rfl
         rw [e1]; clear e1)
    have H := Lib.hid h
    clear h
    go_enter Tryz.func132, Tryz.ntmps132
    go_wp2_with fail
    refine (ref_leap_any _ _).mono ?_
    rintro e w' ⟨rfl, rfl⟩
    rw [H.out]
    go_wp2
    go_ret
    exact ⟨rfl, rfl⟩

theorem month_cases (y m : Int) : (m = 2 ∧ leapB y = true ∧ longI y m = 29) ∨ (m = 2 ∧ leapB y = false ∧ longI y m = 28) ∨ ((m = 4 ∨ m = 6 ∨ m = 9 ∨ m = 11) ∧ longI y m = 30) ∨ ((m < 1 ∨ 12 < m) ∧ longI y m = 0) ∨
    ((m = 1 ∨ m = 3 ∨ m = 5 ∨ m = 7 ∨ m = 8 ∨ m = 10 ∨ m = 12) ∧ longI y m = 31) := by
  unfold longI
  by_cases h1 : m < 1 ∨ 12 < m
  · rw [if_pos h1]; exact .inr (.inr (.inr (.inl ⟨h1, rfl⟩)))
  · rw [if_neg h1]
    by_cases h2 : m = 2
    · rw [if_pos h2]
      cases h : leapB y
      · exact .inr (.inl ⟨h2, rfl, rfl⟩)
      · exact .inl ⟨h2, rfl, rfl⟩
    · rw [if_neg h2]
      by_cases h3 : m = 4 ∨ m = 6 ∨ m = 9 ∨ m = 11
      · rw [if_pos h3]; exact .inr (.inr (.inl ⟨h3, rfl⟩))
      · rw [if_neg h3]; exact .inr (.inr (.inr (.inr ⟨by omega, rfl⟩)))

set_option maxHeartbeats 1000000 in
theorem ref_long_any (y m : Int) (w : World) :
    Calls Tryz.prog 133 #[.int .i64 y, .int .i64 m] w fun e w' => e = .returned (.int .i64 (longI y m)) ∧ w = w' := by
  rcases month_cases y m with ⟨rfl, hl, e⟩ | ⟨rfl, hl, e⟩ | ⟨h, e⟩ | ⟨h, e⟩ | ⟨h, e⟩
  iterate 2
    · rw [e]
      have H := Lib.hid hl
      clear e hl
      go_enter Tryz.func133, Tryz.ntmps133
      go_wp2_with fail
      refine (ref_leap_any _ _).mono ?_
      rintro e w' ⟨rfl, rfl⟩
      rw [H.out]
      go_wp2
      go_ret
      exact ⟨rfl, rfl⟩
  · rw [e]
    clear e
    rcases h with rfl | rfl | rfl | rfl
    all_goals
      go_enter Tryz.func133, Tryz.ntmps133
      go_wp2
      go_ret
      exact ⟨rfl, rfl⟩
  · rw [e]
    clear e
    have q2 : (m == 2) = false := by simp; omega
    have q4 : (m == 4) = false := by simp; omega
    have q6 : (m == 6) = false := by simp; omega
    have q9 : (m == 9) = false := by simp; omega
    have q11 : (m == 11) = false := by simp; omega
    rcases h with h | h
    all_goals
      go_enter Tryz.func133, Tryz.ntmps133
      go_wp2
      go_ret
      exact ⟨rfl, rfl⟩
  · rw [e]
    clear e
    rcases h with rfl | rfl | rfl | rfl | rfl | rfl | rfl
    all_goals
      go_enter Tryz.func133, Tryz.ntmps133
      go_wp2
      go_ret
      exact ⟨rfl, rfl⟩

set_option maxHeartbeats 1000000 in
theorem long_any (y m : Int) (w : World) :
    Calls Tryz.prog 98 #[.int .i64 y, .int .i64 m] w fun e w' => e = .returned (.int .i64 (longI y m)) ∧ Below w.heap.size w w' := by
  rcases month_cases y m with ⟨rfl, hl, e⟩ | ⟨rfl, hl, e⟩ | ⟨h, e⟩ | ⟨h, e⟩ | ⟨h, e⟩
  iterate 2
    · rw [e]
      have H := Lib.hid hl
      clear e hl
      go_enter Tryz.func98, Tryz.ntmps98
      go_wp2_with fail
      refine (leap_any _ _).mono ?_
      rintro e w' ⟨rfl, rfl⟩
      rw [H.out]
      go_wp2
      go_ret
      exact ⟨rfl, by first | exact Below.refl _ _ | exact (Below.refl _ _).alloc (Nat.le_refl _) _⟩
  · rw [e]
    clear e
    rcases h with rfl | rfl | rfl | rfl
    all_goals
      go_enter Tryz.func98, Tryz.ntmps98
      go_wp2
      go_ret
      exact ⟨rfl, by first | exact Below.refl _ _ | exact (Below.refl _ _).alloc (Nat.le_refl _) _⟩
  · rw [e]
    clear e
    have q2 : (m == 2) = false := by simp; omega
    rcases h with h | h
    all_goals
      go_enter Tryz.func98, Tryz.ntmps98
      go_wp2
      go_ret
      exact ⟨rfl, by first | exact Below.refl _ _ | exact (Below.refl _ _).alloc (Nat.le_refl _) _⟩
  · rw [e]
    clear e
    rcases h with rfl | rfl | rfl | rfl | rfl | rfl | rfl
    all_goals
      go_enter Tryz.func98, Tryz.ntmps98
      go_wp2
      go_ret
      exact ⟨rfl, by first | exact Below.refl _ _ | exact (Below.refl _ _).alloc (Nat.le_refl _) _⟩

end Go.Proofs.YtgamekfickheaaaGreat
namespace Go.Proofs.YtgamekfickheaaaGreat
open Go.RowKit
set_option linter.unusedVariables false
set_option linter.unusedSimpArgs false

set_option maxHeartbeats 400000 in
theorem ahead_any (y : Int) (w : World) (h1 : 1 ≤ y) (h2 : y ≤ 10001) :
    Calls Tryz.prog 97 #[.int .i64 y] w fun e w' => e = .returned (.int .i64 (aheadI y)) ∧ w = w' := by
  go_enter Tryz.func97, Tryz.ntmps97
  go_wp2
  go_ret
  exact ⟨iret (by unfold aheadI; omega), rfl⟩

set_option maxHeartbeats 400000 in
theorem before_any (y m : Int) (w : World) (h1 : 1 ≤ m) (h2 : m ≤ 12) :
    Calls Tryz.prog 125 #[.int .i64 y, .int .i64 m] w fun e w' => e = .returned (.int .i64 (befI y (m - 1).toNat)) ∧ Below w.heap.size w w' := by
  go_enter Tryz.func125, Tryz.ntmps125
  go_wp2
  go_loopw [5, 6] (fun n i wr => ∃ k : Nat, (k : Int) + 1 ≤ m ∧ i = .int .i64 ((k : Int) + 1) ∧ n = .int .i64 (befI y k) ∧ Below w.heap.size w wr) (fun _ i _ => (m - intOf i).toNat)
  case atStart => exact ⟨0, by omega, rfl, rfl, Below.refl _ _⟩
  case round =>
    obtain ⟨k, hk, rfl, rfl, hb⟩ := hrel
    have hr := befI_range y k
    have hl := longI_range y ((k : Int) + 1)
    by_cases hlt : (k : Int) + 1 < m
    · have hs : befI y (k + 1) = befI y k + longI y ((k : Int) + 1) := rfl
      have HS := Lib.hid hs
      clear hs
      go_wp2_with fail
      refine (long_any _ _ _).mono ?_
      rintro e w' ⟨rfl, hb2⟩
      generalize longI y ((k : Int) + 1) = L at *
      generalize befI y k = b at *
      go_wp2
      go_roundw
      case rel => exact ⟨k + 1, by omega, by go_num, by rw [HS.out], below_thn hb hb2⟩
      case measure => simp [intOf]; omega
    · obtain rfl : m = (k : Int) + 1 := by omega
      go_wp2
      go_ret
      exact ⟨by simp, hb⟩

set_option maxHeartbeats 400000 in
theorem within_any (n a b : Int) (w : World) :
    Calls Tryz.prog 124 #[.int .i64 n, .int .i64 a, .int .i64 b] w fun e w' => e = .returned (.bool (decide (a ≤ n) && decide (n ≤ b))) ∧ w = w' := by
  by_cases h1 : a ≤ n
  · by_cases h2 : n ≤ b
    all_goals
      go_enter Tryz.func124, Tryz.ntmps124
      go_wp2
      go_ret
      exact ⟨bret (by simp; omega), rfl⟩
  · have h1' : n < a := by omega
    have hd : decide (a ≤ n) = false := by simp; omega
    go_enter Tryz.func124, Tryz.ntmps124
    go_wp2
    go_ret
    exact ⟨bret (by first | rfl | (rw [hd]; rfl)), rfl⟩

theorem ibret {a b : Int} {c : Bool} (h : a = b) : Ending.returned (.tuple #[.int .i64 a, .bool c]) = .returned (.tuple #[.int .i64 b, .bool c]) := by rw [h]

theorem in_yes {a n b : Int} (h1 : a ≤ n) (h2 : n ≤ b) : (decide (a ≤ n) && decide (n ≤ b)) = true := by simp; omega
theorem in_no {a n b : Int} (h : ¬ (a ≤ n ∧ n ≤ b)) : (decide (a ≤ n) && decide (n ≤ b)) = false := by
  rw [Bool.and_eq_false_iff]; simp; omega

set_option maxHeartbeats 800000 in
theorem days_any (y m d : Int) (w : World) :
    Calls Tryz.prog 95 #[.int .i64 y, .int .i64 m, .int .i64 d] w fun e w' => e = .returned (.tuple #[.int .i64 (daysI y m d), .bool (dayB y m d)]) ∧ Below w.heap.size w w' := by
  by_cases hy : 1 ≤ y ∧ y ≤ 9999
  · by_cases hm : 1 ≤ m ∧ m ≤ 12
    · by_cases hd : 1 ≤ d ∧ d ≤ longI y m
      · have hv : dayB y m d = true := by rw [dayB_iff]; exact ⟨hy.1, hy.2, hm.1, hm.2, hd.1, hd.2⟩
        have hp : daysI y m d = placeI y m d := by unfold daysI; rw [if_pos hv]
        rw [hv, hp]
        have Y := Lib.hid (in_yes hy.1 hy.2)
        have M := Lib.hid (in_yes hm.1 hm.2)
        have D := Lib.hid (in_yes hd.1 hd.2)
        obtain ⟨hy1, hy2⟩ := hy
        obtain ⟨hm1, hm2⟩ := hm
        have hl := longI_range y m
        have hb := befI_range y (m - 1).toNat
        have ha := aheadI_range y hy1 (by omega)
        have hd0 : 1 ≤ d := hd.1
        have hd1 : d ≤ 31 := by omega
        have PL := Lib.hid (show placeI y m d = aheadI y + befI y (m - 1).toNat + d - 1 - 719162 from rfl)
        clear hv hp hd
        go_enter Tryz.func95, Tryz.ntmps95
        go_wp2_with fail
        refine (within_any _ _ _ _).mono ?_
        rintro e w' ⟨rfl, rfl⟩
        rw [Y.out]
        go_wp2_with fail
        refine (within_any _ _ _ _).mono ?_
        rintro e w' ⟨rfl, rfl⟩
        rw [M.out]
        go_wp2_with fail
        refine (long_any _ _ _).mono ?_
        rintro e w1 ⟨rfl, hb1⟩
        go_wp2_with fail
        refine (within_any _ _ _ _).mono ?_
        rintro e w' ⟨rfl, rfl⟩
        rw [D.out]
        go_wp2_with fail
        refine (ahead_any _ _ hy1 (by omega)).mono ?_
        rintro e w' ⟨rfl, rfl⟩
        go_wp2_with fail
        refine (before_any _ _ _ hm1 hm2).mono ?_
        rintro e w2 ⟨rfl, hb2⟩
        generalize longI y m = L at *
        generalize befI y (m - 1).toNat = b at *
        generalize aheadI y = A at *
        go_wp2
        go_ret2
        exact ⟨ibret PL.out.symm, below_thn hb1 hb2⟩
      · have hv : dayB y m d = false := by
          have h : ¬ dayB y m d = true := by rw [dayB_iff]; exact fun h => hd ⟨h.2.2.2.2.1, h.2.2.2.2.2⟩
          simpa using h
        have hp : daysI y m d = 0 := by unfold daysI; rw [hv]; rfl
        rw [hv, hp]
        have Y := Lib.hid (in_yes hy.1 hy.2)
        have M := Lib.hid (in_yes hm.1 hm.2)
        have D := Lib.hid (in_no hd)
        clear hv hp hd hy hm
        go_enter Tryz.func95, Tryz.ntmps95
        go_wp2_with fail
        refine (within_any _ _ _ _).mono ?_
        rintro e w' ⟨rfl, rfl⟩
        rw [Y.out]
        go_wp2_with fail
        refine (within_any _ _ _ _).mono ?_
        rintro e w' ⟨rfl, rfl⟩
        rw [M.out]
        go_wp2_with fail
        refine (long_any _ _ _).mono ?_
        rintro e w1 ⟨rfl, hb1⟩
        go_wp2_with fail
        refine (within_any _ _ _ _).mono ?_
        rintro e w' ⟨rfl, rfl⟩
        rw [D.out]
        go_wp2
        go_ret2
        exact ⟨rfl, hb1⟩
    · have hv : dayB y m d = false := by
        have h : ¬ dayB y m d = true := by rw [dayB_iff]; exact fun h => hm ⟨h.2.2.1, h.2.2.2.1⟩
        simpa using h
      have hp : daysI y m d = 0 := by unfold daysI; rw [hv]; rfl
      rw [hv, hp]
      have Y := Lib.hid (in_yes hy.1 hy.2)
      have M := Lib.hid (in_no hm)
      clear hv hp hy hm
      go_enter Tryz.func95, Tryz.ntmps95
      go_wp2_with fail
      refine (within_any _ _ _ _).mono ?_
      rintro e w' ⟨rfl, rfl⟩
      rw [Y.out]
      go_wp2_with fail
      refine (within_any _ _ _ _).mono ?_
      rintro e w' ⟨rfl, rfl⟩
      rw [M.out]
      go_wp2
      go_ret2
      exact ⟨rfl, Below.refl _ _⟩
  · have hv : dayB y m d = false := by
      have h : ¬ dayB y m d = true := by rw [dayB_iff]; exact fun h => hy ⟨h.1, h.2.1⟩
      simpa using h
    have hp : daysI y m d = 0 := by unfold daysI; rw [hv]; rfl
    rw [hv, hp]
    have Y := Lib.hid (in_no hy)
    clear hv hp hy
    go_enter Tryz.func95, Tryz.ntmps95
    go_wp2_with fail
    refine (within_any _ _ _ _).mono ?_
    rintro e w' ⟨rfl, rfl⟩
    rw [Y.out]
    go_wp2
    go_ret2
    exact ⟨rfl, Below.refl _ _⟩
end Go.Proofs.YtgamekfickheaaaGreat
namespace Go.Proofs.YtgamekfickheaaaGreat
open Go.RowKit
set_option linter.unusedVariables false
set_option linter.unusedSimpArgs false

set_option maxRecDepth 100000 in
set_option maxHeartbeats 1000000 in
theorem ref_days_any (y m d : Int) (w : World) :
    Calls Tryz.prog 130 #[.int .i64 y, .int .i64 m, .int .i64 d] w fun e w' => e = .returned (.tuple #[.int .i64 (daysI y m d), .bool (dayB y m d)]) ∧ w = w' := by
  by_cases hv : dayB y m d = true
  · have hp : daysI y m d = placeI y m d := by unfold daysI; rw [if_pos hv]
    obtain ⟨hy1, hy2, hm1, hm2, hd1, hd2⟩ := (dayB_iff y m d).1 hv
    rw [hv, hp]
    have hl := longI_range y m
    have ha := aheadI_range y hy1 (by omega)
    have PL := Lib.hid (show placeI y m d = aheadI y + befI y (m - 1).toNat + d - 1 - 719162 from rfl)
    clear hv hp
    by_cases h70 : 1970 ≤ y
    · go_enter Tryz.func130, Tryz.ntmps130
      go_wp2_with fail
      refine (ref_long_any _ _ _).mono ?_
      rintro e w' ⟨rfl, rfl⟩
      generalize hL : longI y m = L at *
      clear hL
      go_wp2
      go_loop [8, 9] (fun n i => ∃ t : Int, 1970 ≤ t ∧ t ≤ y ∧ i = .int .i64 t ∧ n = .int .i64 (d - 1 + aheadI t - 719162)) (fun _ i => (y - intOf i).toNat)
      case atStart => exact ⟨1970, by omega, h70, rfl, by rw [aheadI_1970]; congr 1; omega⟩
      case round =>
        obtain ⟨t, ht1, ht2, rfl, rfl⟩ := hrel
        have hat := aheadI_range t (by omega) (by omega)
        by_cases hlt : t < y
        · have hs := aheadI_succ t
          have hw := wholeI_range t
          have HS := Lib.hid hs
          clear hs
          go_wp2_with fail
          refine (ref_whole_any _ _).mono ?_
          rintro e w' ⟨rfl, rfl⟩
          generalize wholeI t = W at *
          generalize aheadI t = A at *
          go_wp2
          go_round
          case rel => exact ⟨t + 1, by omega, by omega, rfl, by rw [HS.out]; congr 1; omega⟩
          case measure => simp [intOf]; omega
        · obtain rfl : t = y := by omega
          have HA := Lib.hid hat
          go_wp2
          refine wp_loop_rounds 1 ?_
          rw [rounds_succ]
          go_wp2
          go_loop [8, 11] (fun n i => ∃ k : Nat, (k : Int) + 1 ≤ m ∧ i = .int .i64 ((k : Int) + 1) ∧ n = .int .i64 (d - 1 + aheadI t - 719162 + befI t k)) (fun _ i => (m - intOf i).toNat)
          case atStart => exact ⟨0, by omega, rfl, by simp [befI]⟩
          case round =>
            obtain ⟨k, hk, rfl, rfl⟩ := hrel
            have hr := befI_range t k
            have hl2 := longI_range t ((k : Int) + 1)
            by_cases hlt2 : (k : Int) + 1 < m
            · have HS := Lib.hid (show befI t (k + 1) = befI t k + longI t ((k : Int) + 1) from rfl)
              go_wp2_with fail
              refine (ref_long_any _ _ _).mono ?_
              rintro e w' ⟨rfl, rfl⟩
              generalize longI t ((k : Int) + 1) = L2 at *
              generalize befI t k = b at *
              go_wp2
              go_round
              case rel => exact ⟨k + 1, by omega, by go_num, by rw [HS.out]; congr 1; omega⟩
              case measure => simp [intOf]; omega
            · obtain rfl : m = (k : Int) + 1 := by omega
              have hkk : ((k : Int) + 1 - 1).toNat = k := by omega
              have HK := Lib.hid hkk
              clear hkk
              go_wp2
              go_ret2
              exact ⟨ibret (by rw [PL.out, HK.out]; omega), rfl⟩
    · go_enter Tryz.func130, Tryz.ntmps130
      go_wp2_with fail
      refine (ref_long_any _ _ _).mono ?_
      rintro e w' ⟨rfl, rfl⟩
      generalize hL : longI y m = L at *
      clear hL
      have h70' : y < 1970 := by omega
      clear h70
      go_wp2
      refine wp_loop_rounds 1 ?_
      rw [rounds_succ]
      go_wp2
      go_loop [8, 10] (fun n i => ∃ t : Int, y ≤ t ∧ t ≤ 1970 ∧ i = .int .i64 t ∧ n = .int .i64 (d - 1 + aheadI y - aheadI t)) (fun _ i => (1970 - intOf i).toNat)
      case atStart => exact ⟨y, by omega, by omega, rfl, by congr 1; omega⟩
      case round =>
        obtain ⟨t, ht1, ht2, rfl, rfl⟩ := hrel
        have hat := aheadI_range t (by omega) (by omega)
        by_cases hlt : t < 1970
        · have hs := aheadI_succ t
          have hw := wholeI_range t
          have HS := Lib.hid hs
          clear hs
          go_wp2_with fail
          refine (ref_whole_any _ _).mono ?_
          rintro e w' ⟨rfl, rfl⟩
          generalize wholeI t = W at *
          generalize aheadI t = A at *
          go_wp2
          go_round
          case rel => exact ⟨t + 1, by omega, by omega, rfl, by rw [HS.out]; congr 1; omega⟩
          case measure => simp [intOf]; omega
        · obtain rfl : t = 1970 := by omega
          rw [aheadI_1970]
          clear hat hlt ht2
          go_wp2
          go_loop [8, 11] (fun n i => ∃ k : Nat, (k : Int) + 1 ≤ m ∧ i = .int .i64 ((k : Int) + 1) ∧ n = .int .i64 (d - 1 + aheadI y - 719162 + befI y k)) (fun _ i => (m - intOf i).toNat)
          case atStart => exact ⟨0, by omega, rfl, by simp [befI]⟩
          case round =>
            obtain ⟨k, hk, rfl, rfl⟩ := hrel
            have hr := befI_range y k
            have hl2 := longI_range y ((k : Int) + 1)
            by_cases hlt2 : (k : Int) + 1 < m
            · have HS := Lib.hid (show befI y (k + 1) = befI y k + longI y ((k : Int) + 1) from rfl)
              go_wp2_with fail
              refine (ref_long_any _ _ _).mono ?_
              rintro e w' ⟨rfl, rfl⟩
              generalize longI y ((k : Int) + 1) = L2 at *
              generalize befI y k = b at *
              go_wp2
              go_round
              case rel => exact ⟨k + 1, by omega, by go_num, by rw [HS.out]; congr 1; omega⟩
              case measure => simp [intOf]; omega
            · obtain rfl : m = (k : Int) + 1 := by omega
              have hkk : ((k : Int) + 1 - 1).toNat = k := by omega
              have HK := Lib.hid hkk
              clear hkk
              go_wp2
              go_ret2
              exact ⟨ibret (by rw [PL.out, HK.out]; omega), rfl⟩
  · have hv' : dayB y m d = false := by simpa using hv
    have hp : daysI y m d = 0 := by unfold daysI; rw [hv']; rfl
    have hno : y < 1 ∨ (1 ≤ y ∧ 9999 < y) ∨ (1 ≤ y ∧ y ≤ 9999 ∧ d < 1) ∨ (1 ≤ y ∧ y ≤ 9999 ∧ 1 ≤ d ∧ longI y m < d) := by
      by_cases h1 : longI y m < d
      · omega
      · by_cases h2 : m < 1 ∨ 12 < m
        · rw [longI_out y m h2] at h1; omega
        · have : ¬ IsDay y m d := fun h => hv ((dayB_iff y m d).2 h)
          have h3 : ¬ (1 ≤ y ∧ y ≤ 9999 ∧ 1 ≤ m ∧ m ≤ 12 ∧ 1 ≤ d ∧ d ≤ longI y m) := this
          omega
    rw [hv', hp]
    clear hv hv' hp
    rcases hno with g | ⟨g, g2⟩ | ⟨g, g2, g3⟩ | ⟨g, g2, g3, g4⟩
    iterate 3
      · go_enter Tryz.func130, Tryz.ntmps130
        go_wp2
        go_ret2
        exact ⟨rfl, rfl⟩
    · go_enter Tryz.func130, Tryz.ntmps130
      go_wp2_with fail
      refine (ref_long_any _ _ _).mono ?_
      rintro e w' ⟨rfl, rfl⟩
      generalize longI y m = L at *
      go_wp2
      go_ret2
      exact ⟨rfl, rfl⟩

end Go.Proofs.YtgamekfickheaaaGreat
namespace Go.Proofs.YtgamekfickheaaaGreat
open Go.RowKit
set_option linter.unusedVariables false
set_option linter.unusedSimpArgs false

theorem tmod7 (n : Int) : ∃ k : Int, n.tmod 7 = n - 7 * k ∧ -7 < n.tmod 7 ∧ n.tmod 7 < 7 := by
  refine ⟨n.tdiv 7, ?_, Int.lt_tmod_of_pos _ (by omega), Int.tmod_lt_of_pos _ (by omega)⟩
  have := Int.tmod_add_mul_tdiv n 7
  omega
def weekI (n : Int) : Int := (n + 4) % 7

set_option maxHeartbeats 400000 in
theorem weekday_any (n : Int) (w : World) :
    Calls Tryz.prog 77 #[.int .i64 n] w fun e w' => e = .returned (.int .i64 (weekI n)) ∧ w = w' := by
  by_cases h : 0 ≤ n
  · go_enter Tryz.func77, Tryz.ntmps77
    go_wp2
    go_ret
    exact ⟨iret (by unfold weekI; omega), rfl⟩
  · obtain ⟨k, h1, h2, h3⟩ := tmod7 n
    have H1 := Lib.hid h1
    clear h1
    have hn : n < 0 := by omega
    go_enter Tryz.func77, Tryz.ntmps77
    go_wp2
    go_ret
    exact ⟨iret (by unfold weekI; rw [H1.out]; omega), rfl⟩

set_option maxHeartbeats 400000 in
theorem ref_weekday_any (n : Int) (w : World) :
    Calls Tryz.prog 131 #[.int .i64 n] w fun e w' => e = .returned (.int .i64 (weekI n)) ∧ w = w' := by
  by_cases h : 0 ≤ n
  · go_enter Tryz.func131, Tryz.ntmps131
    go_wp2
    go_ret
    exact ⟨iret (by unfold weekI; omega), rfl⟩
  · obtain ⟨k, h1, h2, h3⟩ := tmod7 n
    have H1 := Lib.hid h1
    clear h1
    have hn : n < 0 := by omega
    by_cases hz : n.tmod 7 < 0
    all_goals
      go_enter Tryz.func131, Tryz.ntmps131
      go_wp2
      go_ret
      exact ⟨iret (by unfold weekI; rw [H1.out] at *; omega), rfl⟩

end Go.Proofs.YtgamekfickheaaaGreat
