/- The calendar (layer 5): which day a place has. -/
import Derived.Test.YtgamekfickheaaaCil
namespace Go.Proofs.Ytgamekfickheaaa
open Go.RowKit
set_option linter.unusedVariables false
set_option linter.unusedSimpArgs false

/-- y, m, d is the day behind (y0, m0, d0). -/
def Follows (y0 m0 d0 y m d : Int) : Prop :=
  (y = y0 ∧ m = m0 ∧ d = d0 + 1 ∧ d0 < longI y0 m0) ∨ (y = y0 ∧ m = m0 + 1 ∧ d = 1 ∧ d0 = longI y0 m0 ∧ m0 < 12) ∨ (y = y0 + 1 ∧ m = 1 ∧ d = 1 ∧ m0 = 12 ∧ d0 = 31)

theorem last_day {y m d : Int} (h : IsDay y m d) (hm : m = 12) (hd : d = longI y m) : placeI y m d + 1 = aheadI (y + 1) - 719162 := by
  subst hm
  have h1 := befI_whole y
  have h2 : befI y 12 = befI y 11 + longI y 12 := rfl
  unfold placeI
  rw [aheadI_succ, show ((12 : Int) - 1).toNat = 11 from rfl]
  omega

theorem next_day {y m d : Int} (h : IsDay y m d) (hp : placeI y m d < 2932896) : ∃ y' m' d', IsDay y' m' d' ∧ placeI y' m' d' = placeI y m d + 1 ∧ Follows y m d y' m' d' := by
  have hh := h
  obtain ⟨h1, h2, h3, h4, h5, h6⟩ := hh
  by_cases hd : d < longI y m
  · exact ⟨y, m, d + 1, ⟨h1, h2, h3, h4, by omega, by omega⟩, by unfold placeI; omega, .inl ⟨rfl, rfl, rfl, hd⟩⟩
  · have hde : d = longI y m := by omega
    by_cases hm : m < 12
    · have hl := longI_pos y (m + 1) (by omega) (by omega)
      refine ⟨y, m + 1, 1, ⟨h1, h2, by omega, by omega, by omega, by omega⟩, ?_, .inr (.inl ⟨rfl, rfl, rfl, hde, hm⟩)⟩
      have hb : befI y (m + 1 - 1).toNat = befI y (m - 1).toNat + longI y m := by
        rw [show (m + 1 - 1).toNat = (m - 1).toNat + 1 from by omega, befI, show (((m - 1).toNat : Nat) : Int) + 1 = m from by omega]
      unfold placeI
      rw [hb]
      omega
    · have hme : m = 12 := by omega
      have hl := last_day h hme hde
      have h9 : aheadI 10000 = 3652059 := by decide
      have hy : y < 9999 := by
        rcases Int.lt_or_eq_of_le h2 with h | h
        · exact h
        · rw [h] at hl; rw [show (9999 : Int) + 1 = 10000 from rfl, h9, ← h] at hl; omega
      have hl31 : longI y 12 = 31 := by unfold longI; simp
      have hlj := longI_pos (y + 1) 1 (by omega) (by omega)
      refine ⟨y + 1, 1, 1, ⟨by omega, by omega, by omega, by omega, by omega, by omega⟩, ?_, .inr (.inr ⟨rfl, rfl, rfl, hme, by rw [hde, hme, hl31]⟩)⟩
      rw [hl]
      have : befI (y + 1) ((1 : Int) - 1).toNat = 0 := rfl
      unfold placeI
      rw [this]
      omega

theorem day_exists (k : Nat) : (k : Int) ≤ 3652058 → ∃ y m d, IsDay y m d ∧ placeI y m d = k - 719162 := by
  induction k with
  | zero => intro _; exact ⟨1, 1, 1, ⟨by decide, by decide, by decide, by decide, by decide, by decide⟩, by decide⟩
  | succ k ih =>
    intro h
    obtain ⟨y, m, d, h1, h2⟩ := ih (by omega)
    obtain ⟨y', m', d', g1, g2, _⟩ := next_day h1 (by omega)
    exact ⟨y', m', d', g1, by rw [g2, h2]; omega⟩
theorem day_at (n : Int) (h1 : -719162 ≤ n) (h2 : n ≤ 2932896) : ∃ y m d, IsDay y m d ∧ placeI y m d = n := by
  obtain ⟨y, m, d, g1, g2⟩ := day_exists (n + 719162).toNat (by omega)
  exact ⟨y, m, d, g1, by rw [g2]; omega⟩

open Classical in
/-- The day at a place. -/
noncomputable def dayOf (n : Int) : Int × Int × Int := if h : -719162 ≤ n ∧ n ≤ 2932896 then ((day_at n h.1 h.2).choose, (day_at n h.1 h.2).choose_spec.choose, (day_at n h.1 h.2).choose_spec.choose_spec.choose) else (0, 0, 0)
def placeB (n : Int) : Bool := decide (-719162 ≤ n ∧ n ≤ 2932896)
theorem dayOf_spec {n : Int} (h1 : -719162 ≤ n) (h2 : n ≤ 2932896) : IsDay (dayOf n).1 (dayOf n).2.1 (dayOf n).2.2 ∧ placeI (dayOf n).1 (dayOf n).2.1 (dayOf n).2.2 = n := by
  unfold dayOf
  rw [dif_pos ⟨h1, h2⟩]
  exact (day_at n h1 h2).choose_spec.choose_spec.choose_spec
theorem dayOf_eq {n y m d : Int} (h : IsDay y m d) (hp : placeI y m d = n) : y = (dayOf n).1 ∧ m = (dayOf n).2.1 ∧ d = (dayOf n).2.2 := by
  have hr := place_range h
  have hs := dayOf_spec (n := n) (by omega) (by omega)
  exact day_unique h hs.1 (hp.trans hs.2.symm)
theorem dayOf_out {n : Int} (h : ¬ (-719162 ≤ n ∧ n ≤ 2932896)) : dayOf n = (0, 0, 0) := by unfold dayOf; rw [dif_neg h]

/-- The year is found: no later one begins by then. -/
theorem year_found {y left : Int} (h1 : aheadI y ≤ left) (h2 : left < aheadI (y + 1)) : 0 ≤ left - aheadI y ∧ left - aheadI y < wholeI y := by
  rw [aheadI_succ] at h2; omega

set_option maxRecDepth 100000 in
set_option maxHeartbeats 1000000 in
theorem of_any (n : Int) (w : World) (h0 : -9223372036854775808 ≤ n) (h1 : n ≤ 9223372036854775807) :
    Calls Try.prog 102 #[.int .i64 n] w fun e w' => e = .returned (.tuple #[.int .i64 (dayOf n).1, .int .i64 (dayOf n).2.1, .int .i64 (dayOf n).2.2, .bool (placeB n)]) ∧ Below w.heap.size w w' := by
  by_cases hr : -719162 ≤ n ∧ n ≤ 2932896
  · have hb : placeB n = true := by unfold placeB; simpa using hr
    rw [hb]
    have HE := Lib.hid (fun y m d => @dayOf_eq n y m d)
    obtain ⟨hr1, hr2⟩ := hr
    have hg := aheadI_guess (n + 719162) (by omega)
    have HG := Lib.hid hg
    clear hb hg
    go_enter Try.func102, Try.ntmps102
    go_wp2
    go_loop [2] (fun t => ∃ y : Int, 1 ≤ y ∧ y ≤ 9999 ∧ aheadI y ≤ n + 719162 ∧ t = .int .i64 y) (fun t => (9999 - intOf t).toNat)
    case atStart => exact ⟨_, by omega, by omega, HG.out, rfl⟩
    case round =>
      obtain ⟨y, hy1, hy2, hy3, rfl⟩ := hrel
      have hay := aheadI_range y hy1 (by omega)
      have hay2 := aheadI_range (y + 1) (by omega) (by omega)
      by_cases hc : aheadI (y + 1) ≤ n + 719162
      · have h9 : aheadI 10000 = 3652059 := by decide
        have hy9 : y < 9999 := by
          rcases Int.lt_or_eq_of_le hy2 with h | h
          · exact h
          · rw [h] at hc; rw [show (9999 : Int) + 1 = 10000 from rfl, h9] at hc; omega
        have HC := Lib.hid hc
        clear h9
        go_wp2_with fail
        refine (ahead_any _ _ (by omega) (by omega)).mono ?_
        rintro e w' ⟨rfl, rfl⟩
        generalize hA : aheadI (y + 1) = A at *
        have HA := Lib.hid hA
        clear hA
        go_wp2
        go_round
        case rel => exact ⟨y + 1, by omega, by omega, by rw [HA.out]; exact hc, rfl⟩
        case measure => simp [intOf]; omega
      · have hf := year_found hy3 (by omega)
        have HF := Lib.hid hf
        have hc' : n + 719162 < aheadI (y + 1) := by omega
        clear hc
        go_wp2_with fail
        refine (ahead_any _ _ (by omega) (by omega)).mono ?_
        rintro e w' ⟨rfl, rfl⟩
        generalize aheadI (y + 1) = A at *
        go_wp2_with fail
        refine (ahead_any _ _ (by omega) (by omega)).mono ?_
        rintro e w' ⟨rfl, rfl⟩
        have HW := Lib.hid (befI_whole y)
        have hbr := fun k => befI_range y k
        have HBR := Lib.hid hbr
        have HY9 := Lib.hid (show 1 ≤ y ∧ y ≤ 9999 from ⟨hy1, hy2⟩)
        have HFW := Lib.hid (wholeI_range y)
        have HPL := Lib.hid (show ∀ m d : Int, placeI y m d = aheadI y + befI y (m - 1).toNat + d - 1 - 719162 from fun _ _ => rfl)
        clear hbr
        generalize hA0 : aheadI y = A0 at *
        have HA0 := Lib.hid hA0
        clear hA0
        go_wp2
        go_loopw [3, 6] (fun vm vl wr => ∃ k : Nat, k < 12 ∧ vm = .int .i64 ((k : Int) + 1) ∧ vl = .int .i64 (n + 719162 - A0 - befI y k) ∧ 0 ≤ n + 719162 - A0 - befI y k ∧ Below w.heap.size w wr) (fun vm _ _ => (12 - intOf vm).toNat)
        case atStart => exact ⟨0, by omega, rfl, by simp [befI], by simp [befI]; have := HF.out.1; omega, Below.refl _ _⟩
        case round =>
          obtain ⟨k, hk, rfl, rfl, hle, hbel⟩ := hrel
          have hbk := HBR.out k
          have hlk := longI_range y ((k : Int) + 1)
          have HS := Lib.hid (show befI y (k + 1) = befI y k + longI y ((k : Int) + 1) from rfl)
          have hA0 := HA0.out
          by_cases hgo : longI y ((k : Int) + 1) ≤ n + 719162 - A0 - befI y k
          · have hk11 : k < 11 := by
              by_cases h : k = 11
              · subst h
                have h1 := HF.out
                have h2 := HW.out
                have h3 : befI y 12 = befI y 11 + longI y (((11 : Nat) : Int) + 1) := rfl
                omega
              · omega
            generalize hLL : longI y ((k : Int) + 1) = L at *
            have HLK := Lib.hid hLL
            generalize befI y k = b at *
            clear hLL hA0
            go_wp2_with fail
            refine (long_any _ _ _).mono ?_
            rintro e v1 ⟨rfl, hb1⟩
            rw [HLK.out]
            go_wp2_with fail
            refine (long_any _ _ _).mono ?_
            rintro e v2 ⟨rfl, hb2⟩
            rw [HLK.out]
            go_wp2
            go_roundw
            case rel => exact ⟨k + 1, by omega, by go_num, by rw [HS.out]; congr 1; omega, by rw [HS.out]; omega, below_thn (below_thn hbel hb1) hb2⟩
            case measure => simp [intOf]; omega
          · have hday : IsDay y ((k : Int) + 1) (n + 719162 - A0 - befI y k + 1) := ⟨HY9.out.1, HY9.out.2, by omega, by omega, by omega, by omega⟩
            have hpl := HPL.out ((k : Int) + 1) (n + 719162 - A0 - befI y k + 1)
            rw [show ((k : Int) + 1 - 1).toNat = k from by omega] at hpl
            have hfin := HE.out _ _ _ hday (by rw [hpl]; omega)
            have HFIN := Lib.hid hfin
            have hgo' : n + 719162 - A0 - befI y k < longI y ((k : Int) + 1) := by omega
            clear hday hpl hfin hgo
            generalize hLL : longI y ((k : Int) + 1) = L at *
            have HLK := Lib.hid hLL
            generalize befI y k = b at *
            clear hLL hA0
            go_wp2_with fail
            refine (long_any _ _ _).mono ?_
            rintro e v1 ⟨rfl, hb1⟩
            rw [HLK.out]
            go_wp2
            exact bodyPost_ret (v := .tuple #[.int .i64 y, .int .i64 ((k : Int) + 1), .int .i64 (n + 719162 - A0 - b + 1), .bool true]) (by simp [results, Try.results102, go_sem]) rfl ⟨by rw [HFIN.out.1, HFIN.out.2.1, HFIN.out.2.2], below_thn hbel hb1⟩
  · have hb : placeB n = false := by unfold placeB; simpa using hr
    rw [hb, dayOf_out hr]
    have hr' : n < -719162 ∨ 2932896 < n := by omega
    clear hb hr
    rcases hr' with hr | hr
    all_goals
      go_enter Try.func102, Try.ntmps102
      go_wp2
      exact bodyPost_ret (v := .tuple #[.int .i64 0, .int .i64 0, .int .i64 0, .bool false]) (by simp [results, Try.results102, go_sem]) rfl ⟨rfl, Below.refl _ _⟩
end Go.Proofs.Ytgamekfickheaaa
