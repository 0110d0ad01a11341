/- The calendar (layer 5): the document's own places of days. -/
import Derived.Test.YtgamekfickheaaaCix
namespace Go.Proofs.Ytgamekfickheaaa
open Go.RowKit
set_option linter.unusedVariables false
set_option linter.unusedSimpArgs false

set_option maxRecDepth 100000 in
set_option maxHeartbeats 1000000 in
theorem ref_days_any (y m d : Int) (w : World) :
    Calls Try.prog 113 #[.int .i64 y, .int .i64 m, .int .i64 d] w fun e w' => e = .returned (.tuple #[.int .i64 (daysI y m d), .bool (dayB y m d)]) ∧ w = w' := by
  by_cases hv : dayB y m d = true
  · have hp : daysI y m d = placeI y m d := by unfold daysI; rw [if_pos hv]
    obtain ⟨hy1, hy2, hm1, hm2, hd1, hd2⟩ := (dayB_iff y m d).1 hv
    rw [hv, hp]
    have hl := longI_range y m
    have ha := aheadI_range y hy1 (by omega)
    have PL := Lib.hid (show placeI y m d = aheadI y + befI y (m - 1).toNat + d - 1 - 719162 from rfl)
    clear hv hp
    by_cases h70 : 1970 ≤ y
    · go_enter Try.func113, Try.ntmps113
      go_wp2_with fail
      refine (ref_long_any _ _ _).mono ?_
      rintro e w' ⟨rfl, rfl⟩
      generalize hL : longI y m = L at *
      clear hL
      go_wp2
      go_loop [8, 9] (fun n i => ∃ t : Int, 1970 ≤ t ∧ t ≤ y ∧ i = .int .i64 t ∧ n = .int .i64 (d - 1 + aheadI t - 719162)) (fun _ i => (y - intOf i).toNat)
      case atStart => exact ⟨1970, by omega, h70, rfl, by rw [aheadI_1970]; congr 1; omega⟩
      case round =>
        obtain ⟨t, ht1, ht2, rfl, rfl⟩ := hrel
        have hat := aheadI_range t (by omega) (by omega)
        by_cases hlt : t < y
        · have hs := aheadI_succ t
          have hw := wholeI_range t
          have HS := Lib.hid hs
          clear hs
          go_wp2_with fail
          refine (ref_whole_any _ _).mono ?_
          rintro e w' ⟨rfl, rfl⟩
          generalize wholeI t = W at *
          generalize aheadI t = A at *
          go_wp2
          go_round
          case rel => exact ⟨t + 1, by omega, by omega, rfl, by rw [HS.out]; congr 1; omega⟩
          case measure => simp [intOf]; omega
        · obtain rfl : t = y := by omega
          have HA := Lib.hid hat
          go_wp2
          refine wp_loop_rounds 1 ?_
          rw [rounds_succ]
          go_wp2
          go_loop [8, 11] (fun n i => ∃ k : Nat, (k : Int) + 1 ≤ m ∧ i = .int .i64 ((k : Int) + 1) ∧ n = .int .i64 (d - 1 + aheadI t - 719162 + befI t k)) (fun _ i => (m - intOf i).toNat)
          case atStart => exact ⟨0, by omega, rfl, by simp [befI]⟩
          case round =>
            obtain ⟨k, hk, rfl, rfl⟩ := hrel
            have hr := befI_range t k
            have hl2 := longI_range t ((k : Int) + 1)
            by_cases hlt2 : (k : Int) + 1 < m
            · have HS := Lib.hid (show befI t (k + 1) = befI t k + longI t ((k : Int) + 1) from rfl)
              go_wp2_with fail
              refine (ref_long_any _ _ _).mono ?_
              rintro e w' ⟨rfl, rfl⟩
              generalize longI t ((k : Int) + 1) = L2 at *
              generalize befI t k = b at *
              go_wp2
              go_round
              case rel => exact ⟨k + 1, by omega, by go_num, by rw [HS.out]; congr 1; omega⟩
              case measure => simp [intOf]; omega
            · obtain rfl : m = (k : Int) + 1 := by omega
              have hkk : ((k : Int) + 1 - 1).toNat = k := by omega
              have HK := Lib.hid hkk
              clear hkk
              go_wp2
              go_ret2
              exact ⟨ibret (by rw [PL.out, HK.out]; omega), rfl⟩
    · go_enter Try.func113, Try.ntmps113
      go_wp2_with fail
      refine (ref_long_any _ _ _).mono ?_
      rintro e w' ⟨rfl, rfl⟩
      generalize hL : longI y m = L at *
      clear hL
      have h70' : y < 1970 := by omega
      clear h70
      go_wp2
      refine wp_loop_rounds 1 ?_
      rw [rounds_succ]
      go_wp2
      go_loop [8, 10] (fun n i => ∃ t : Int, y ≤ t ∧ t ≤ 1970 ∧ i = .int .i64 t ∧ n = .int .i64 (d - 1 + aheadI y - aheadI t)) (fun _ i => (1970 - intOf i).toNat)
      case atStart => exact ⟨y, by omega, by omega, rfl, by congr 1; omega⟩
      case round =>
        obtain ⟨t, ht1, ht2, rfl, rfl⟩ := hrel
        have hat := aheadI_range t (by omega) (by omega)
        by_cases hlt : t < 1970
        · have hs := aheadI_succ t
          have hw := wholeI_range t
          have HS := Lib.hid hs
          clear hs
          go_wp2_with fail
          refine (ref_whole_any _ _).mono ?_
          rintro e w' ⟨rfl, rfl⟩
          generalize wholeI t = W at *
          generalize aheadI t = A at *
          go_wp2
          go_round
          case rel => exact ⟨t + 1, by omega, by omega, rfl, by rw [HS.out]; congr 1; omega⟩
          case measure => simp [intOf]; omega
        · obtain rfl : t = 1970 := by omega
          rw [aheadI_1970]
          clear hat hlt ht2
          go_wp2
          go_loop [8, 11] (fun n i => ∃ k : Nat, (k : Int) + 1 ≤ m ∧ i = .int .i64 ((k : Int) + 1) ∧ n = .int .i64 (d - 1 + aheadI y - 719162 + befI y k)) (fun _ i => (m - intOf i).toNat)
          case atStart => exact ⟨0, by omega, rfl, by simp [befI]⟩
          case round =>
            obtain ⟨k, hk, rfl, rfl⟩ := hrel
            have hr := befI_range y k
            have hl2 := longI_range y ((k : Int) + 1)
            by_cases hlt2 : (k : Int) + 1 < m
            · have HS := Lib.hid (show befI y (k + 1) = befI y k + longI y ((k : Int) + 1) from rfl)
              go_wp2_with fail
              refine (ref_long_any _ _ _).mono ?_
              rintro e w' ⟨rfl, rfl⟩
              generalize longI y ((k : Int) + 1) = L2 at *
              generalize befI y k = b at *
              go_wp2
              go_round
              case rel => exact ⟨k + 1, by omega, by go_num, by rw [HS.out]; congr 1; omega⟩
              case measure => simp [intOf]; omega
            · obtain rfl : m = (k : Int) + 1 := by omega
              have hkk : ((k : Int) + 1 - 1).toNat = k := by omega
              have HK := Lib.hid hkk
              clear hkk
              go_wp2
              go_ret2
              exact ⟨ibret (by rw [PL.out, HK.out]; omega), rfl⟩
  · have hv' : dayB y m d = false := by simpa using hv
    have hp : daysI y m d = 0 := by unfold daysI; rw [hv']; rfl
    have hno : y < 1 ∨ (1 ≤ y ∧ 9999 < y) ∨ (1 ≤ y ∧ y ≤ 9999 ∧ d < 1) ∨ (1 ≤ y ∧ y ≤ 9999 ∧ 1 ≤ d ∧ longI y m < d) := by
      by_cases h1 : longI y m < d
      · omega
      · by_cases h2 : m < 1 ∨ 12 < m
        · rw [longI_out y m h2] at h1; omega
        · have : ¬ IsDay y m d := fun h => hv ((dayB_iff y m d).2 h)
          have h3 : ¬ (1 ≤ y ∧ y ≤ 9999 ∧ 1 ≤ m ∧ m ≤ 12 ∧ 1 ≤ d ∧ d ≤ longI y m) := this
          omega
    rw [hv', hp]
    clear hv hv' hp
    rcases hno with g | ⟨g, g2⟩ | ⟨g, g2, g3⟩ | ⟨g, g2, g3, g4⟩
    iterate 3
      · go_enter Try.func113, Try.ntmps113
        go_wp2
        go_ret2
        exact ⟨rfl, rfl⟩
    · go_enter Try.func113, Try.ntmps113
      go_wp2_with fail
      refine (ref_long_any _ _ _).mono ?_
      rintro e w' ⟨rfl, rfl⟩
      generalize longI y m = L at *
      go_wp2
      go_ret2
      exact ⟨rfl, rfl⟩

end Go.Proofs.Ytgamekfickheaaa
