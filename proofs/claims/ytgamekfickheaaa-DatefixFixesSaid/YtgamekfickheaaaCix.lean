/- The calendar's functions, walked (layer 5): places of days. -/
import Derived.Test.YtgamekfickheaaaCiw
namespace Go.Proofs.Ytgamekfickheaaa
open Go.RowKit
set_option linter.unusedVariables false
set_option linter.unusedSimpArgs false

set_option maxHeartbeats 400000 in
theorem ahead_any (y : Int) (w : World) (h1 : 1 ≤ y) (h2 : y ≤ 10001) :
    Calls Try.prog 139 #[.int .i64 y] w fun e w' => e = .returned (.int .i64 (aheadI y)) ∧ w = w' := by
  go_enter Try.func139, Try.ntmps139
  go_wp2
  go_ret
  exact ⟨iret (by unfold aheadI; omega), rfl⟩

set_option maxHeartbeats 400000 in
theorem before_any (y m : Int) (w : World) (h1 : 1 ≤ m) (h2 : m ≤ 12) :
    Calls Try.prog 146 #[.int .i64 y, .int .i64 m] w fun e w' => e = .returned (.int .i64 (befI y (m - 1).toNat)) ∧ Below w.heap.size w w' := by
  go_enter Try.func146, Try.ntmps146
  go_wp2
  go_loopw [5, 6] (fun n i wr => ∃ k : Nat, (k : Int) + 1 ≤ m ∧ i = .int .i64 ((k : Int) + 1) ∧ n = .int .i64 (befI y k) ∧ Below w.heap.size w wr) (fun _ i _ => (m - intOf i).toNat)
  case atStart => exact ⟨0, by omega, rfl, rfl, Below.refl _ _⟩
  case round =>
    obtain ⟨k, hk, rfl, rfl, hb⟩ := hrel
    have hr := befI_range y k
    have hl := longI_range y ((k : Int) + 1)
    by_cases hlt : (k : Int) + 1 < m
    · have hs : befI y (k + 1) = befI y k + longI y ((k : Int) + 1) := rfl
      have HS := Lib.hid hs
      clear hs
      go_wp2_with fail
      refine (long_any _ _ _).mono ?_
      rintro e w' ⟨rfl, hb2⟩
      generalize longI y ((k : Int) + 1) = L at *
      generalize befI y k = b at *
      go_wp2
      go_roundw
      case rel => exact ⟨k + 1, by omega, by go_num, by rw [HS.out], below_thn hb hb2⟩
      case measure => simp [intOf]; omega
    · obtain rfl : m = (k : Int) + 1 := by omega
      go_wp2
      go_ret
      exact ⟨by simp, hb⟩

set_option maxHeartbeats 400000 in
theorem within_any (n a b : Int) (w : World) :
    Calls Try.prog 145 #[.int .i64 n, .int .i64 a, .int .i64 b] w fun e w' => e = .returned (.bool (decide (a ≤ n) && decide (n ≤ b))) ∧ w = w' := by
  by_cases h1 : a ≤ n
  · by_cases h2 : n ≤ b
    all_goals
      go_enter Try.func145, Try.ntmps145
      go_wp2
      go_ret
      exact ⟨bret (by simp; omega), rfl⟩
  · have h1' : n < a := by omega
    have hd : decide (a ≤ n) = false := by simp; omega
    go_enter Try.func145, Try.ntmps145
    go_wp2
    go_ret
    exact ⟨bret (by first | rfl | (rw [hd]; rfl)), rfl⟩

theorem ibret {a b : Int} {c : Bool} (h : a = b) : Ending.returned (.tuple #[.int .i64 a, .bool c]) = .returned (.tuple #[.int .i64 b, .bool c]) := by rw [h]

theorem in_yes {a n b : Int} (h1 : a ≤ n) (h2 : n ≤ b) : (decide (a ≤ n) && decide (n ≤ b)) = true := by simp; omega
theorem in_no {a n b : Int} (h : ¬ (a ≤ n ∧ n ≤ b)) : (decide (a ≤ n) && decide (n ≤ b)) = false := by
  rw [Bool.and_eq_false_iff]; simp; omega

set_option maxHeartbeats 800000 in
theorem days_any (y m d : Int) (w : World) :
    Calls Try.prog 104 #[.int .i64 y, .int .i64 m, .int .i64 d] w fun e w' => e = .returned (.tuple #[.int .i64 (daysI y m d), .bool (dayB y m d)]) ∧ Below w.heap.size w w' := by
  by_cases hy : 1 ≤ y ∧ y ≤ 9999
  · by_cases hm : 1 ≤ m ∧ m ≤ 12
    · by_cases hd : 1 ≤ d ∧ d ≤ longI y m
      · have hv : dayB y m d = true := by rw [dayB_iff]; exact ⟨hy.1, hy.2, hm.1, hm.2, hd.1, hd.2⟩
        have hp : daysI y m d = placeI y m d := by unfold daysI; rw [if_pos hv]
        rw [hv, hp]
        have Y := Lib.hid (in_yes hy.1 hy.2)
        have M := Lib.hid (in_yes hm.1 hm.2)
        have D := Lib.hid (in_yes hd.1 hd.2)
        obtain ⟨hy1, hy2⟩ := hy
        obtain ⟨hm1, hm2⟩ := hm
        have hl := longI_range y m
        have hb := befI_range y (m - 1).toNat
        have ha := aheadI_range y hy1 (by omega)
        have hd0 : 1 ≤ d := hd.1
        have hd1 : d ≤ 31 := by omega
        have PL := Lib.hid (show placeI y m d = aheadI y + befI y (m - 1).toNat + d - 1 - 719162 from rfl)
        clear hv hp hd
        go_enter Try.func104, Try.ntmps104
        go_wp2_with fail
        refine (within_any _ _ _ _).mono ?_
        rintro e w' ⟨rfl, rfl⟩
        rw [Y.out]
        go_wp2_with fail
        refine (within_any _ _ _ _).mono ?_
        rintro e w' ⟨rfl, rfl⟩
        rw [M.out]
        go_wp2_with fail
        refine (long_any _ _ _).mono ?_
        rintro e w1 ⟨rfl, hb1⟩
        go_wp2_with fail
        refine (within_any _ _ _ _).mono ?_
        rintro e w' ⟨rfl, rfl⟩
        rw [D.out]
        go_wp2_with fail
        refine (ahead_any _ _ hy1 (by omega)).mono ?_
        rintro e w' ⟨rfl, rfl⟩
        go_wp2_with fail
        refine (before_any _ _ _ hm1 hm2).mono ?_
        rintro e w2 ⟨rfl, hb2⟩
        generalize longI y m = L at *
        generalize befI y (m - 1).toNat = b at *
        generalize aheadI y = A at *
        go_wp2
        go_ret2
        exact ⟨ibret PL.out.symm, below_thn hb1 hb2⟩
      · have hv : dayB y m d = false := by
          have h : ¬ dayB y m d = true := by rw [dayB_iff]; exact fun h => hd ⟨h.2.2.2.2.1, h.2.2.2.2.2⟩
          simpa using h
        have hp : daysI y m d = 0 := by unfold daysI; rw [hv]; rfl
        rw [hv, hp]
        have Y := Lib.hid (in_yes hy.1 hy.2)
        have M := Lib.hid (in_yes hm.1 hm.2)
        have D := Lib.hid (in_no hd)
        clear hv hp hd hy hm
        go_enter Try.func104, Try.ntmps104
        go_wp2_with fail
        refine (within_any _ _ _ _).mono ?_
        rintro e w' ⟨rfl, rfl⟩
        rw [Y.out]
        go_wp2_with fail
        refine (within_any _ _ _ _).mono ?_
        rintro e w' ⟨rfl, rfl⟩
        rw [M.out]
        go_wp2_with fail
        refine (long_any _ _ _).mono ?_
        rintro e w1 ⟨rfl, hb1⟩
        go_wp2_with fail
        refine (within_any _ _ _ _).mono ?_
        rintro e w' ⟨rfl, rfl⟩
        rw [D.out]
        go_wp2
        go_ret2
        exact ⟨rfl, hb1⟩
    · have hv : dayB y m d = false := by
        have h : ¬ dayB y m d = true := by rw [dayB_iff]; exact fun h => hm ⟨h.2.2.1, h.2.2.2.1⟩
        simpa using h
      have hp : daysI y m d = 0 := by unfold daysI; rw [hv]; rfl
      rw [hv, hp]
      have Y := Lib.hid (in_yes hy.1 hy.2)
      have M := Lib.hid (in_no hm)
      clear hv hp hy hm
      go_enter Try.func104, Try.ntmps104
      go_wp2_with fail
      refine (within_any _ _ _ _).mono ?_
      rintro e w' ⟨rfl, rfl⟩
      rw [Y.out]
      go_wp2_with fail
      refine (within_any _ _ _ _).mono ?_
      rintro e w' ⟨rfl, rfl⟩
      rw [M.out]
      go_wp2
      go_ret2
      exact ⟨rfl, Below.refl _ _⟩
  · have hv : dayB y m d = false := by
      have h : ¬ dayB y m d = true := by rw [dayB_iff]; exact fun h => hy ⟨h.1, h.2.1⟩
      simpa using h
    have hp : daysI y m d = 0 := by unfold daysI; rw [hv]; rfl
    rw [hv, hp]
    have Y := Lib.hid (in_no hy)
    clear hv hp hy
    go_enter Try.func104, Try.ntmps104
    go_wp2_with fail
    refine (within_any _ _ _ _).mono ?_
    rintro e w' ⟨rfl, rfl⟩
    rw [Y.out]
    go_wp2
    go_ret2
    exact ⟨rfl, Below.refl _ _⟩
end Go.Proofs.Ytgamekfickheaaa
