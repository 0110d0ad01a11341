/- The calendar (layer 5): which day a place has. · The calendar (layer 5): the document's own day at a place; the law CivilOf. · The calendar (layer 5): seconds and dates. · The calendar (layer 5): dates of seconds; the law CivilNext. · The calendar (layer 5): the law CivilNext. · The calendar (layer 5): the document's seconds and dates; the law CivilSeconds. -/
import Derived.Test.YtgamekfickheaaaGreatCil
import Derived.Deep.DeepCutAuto
namespace Go.Proofs.YtgamekfickheaaaGreat
open Go.RowKit
set_option linter.unusedVariables false
set_option linter.unusedSimpArgs false

/-- y, m, d is the day behind (y0, m0, d0). -/
def Follows (y0 m0 d0 y m d : Int) : Prop :=
  (y = y0 ∧ m = m0 ∧ d = d0 + 1 ∧ d0 < longI y0 m0) ∨ (y = y0 ∧ m = m0 + 1 ∧ d = 1 ∧ d0 = longI y0 m0 ∧ m0 < 12) ∨ (y = y0 + 1 ∧ m = 1 ∧ d = 1 ∧ m0 = 12 ∧ d0 = 31)

theorem last_day {y m d : Int} (h : IsDay y m d) (hm : m = 12) (hd : d = longI y m) : placeI y m d + 1 = aheadI (y + 1) - 719162 := by
  subst hm
  have h1 := befI_whole y
  have h2 : befI y 12 = befI y 11 + longI y 12 := rfl
  unfold placeI
  rw [aheadI_succ, show ((12 : Int) - 1).toNat = 11 from rfl]
  omega

theorem next_day {y m d : Int} (h : IsDay y m d) (hp : placeI y m d < 2932896) : ∃ y' m' d', IsDay y' m' d' ∧ placeI y' m' d' = placeI y m d + 1 ∧ Follows y m d y' m' d' := by
  have hh := h
  obtain ⟨h1, h2, h3, h4, h5, h6⟩ := hh
  by_cases hd : d < longI y m
  · exact ⟨y, m, d + 1, ⟨h1, h2, h3, h4, by omega, by omega⟩, by unfold placeI; omega, .inl ⟨rfl, rfl, rfl, hd⟩⟩
  · have hde : d = longI y m := by omega
    by_cases hm : m < 12
    · have hl := longI_pos y (m + 1) (by omega) (by omega)
      refine ⟨y, m + 1, 1, ⟨h1, h2, by omega, by omega, by omega, by omega⟩, ?_, .inr (.inl ⟨rfl, rfl, rfl, hde, hm⟩)⟩
      have hb : befI y (m + 1 - 1).toNat = befI y (m - 1).toNat + longI y m := by
        rw [show (m + 1 - 1).toNat = (m - 1).toNat + 1 from by omega, befI, show (((m - 1).toNat : Nat) : Int) + 1 = m from by omega]
      unfold placeI
      rw [hb]
      omega
    · have hme : m = 12 := by omega
      have hl := last_day h hme hde
      have h9 : aheadI 10000 = 3652059 := by decide
      have hy : y < 9999 := by
        rcases Int.lt_or_eq_of_le h2 with h | h
        · exact h
        · rw [h] at hl; rw [show (9999 : Int) + 1 = 10000 from rfl, h9, ← h] at hl; omega
      have hl31 : longI y 12 = 31 := by unfold longI; simp
      have hlj := longI_pos (y + 1) 1 (by omega) (by omega)
      refine ⟨y + 1, 1, 1, ⟨by omega, by omega, by omega, by omega, by omega, by omega⟩, ?_, .inr (.inr ⟨rfl, rfl, rfl, hme, by rw [hde, hme, hl31]⟩)⟩
      rw [hl]
      have : befI (y + 1) ((1 : Int) - 1).toNat = 0 := rfl
      unfold placeI
      rw [this]
      omega

theorem day_exists (k : Nat) : (k : Int) ≤ 3652058 → ∃ y m d, IsDay y m d ∧ placeI y m d = k - 719162 := by
  induction k with
  | zero => intro _; exact ⟨1, 1, 1, ⟨by decide, by decide, by decide, by decide, by decide, by decide⟩, by decide⟩
  | succ k ih =>
    intro h
    obtain ⟨y, m, d, h1, h2⟩ := ih (by omega)
    obtain ⟨y', m', d', g1, g2, _⟩ := next_day h1 (by omega)
    exact ⟨y', m', d', g1, by rw [g2, h2]; omega⟩
theorem day_at (n : Int) (h1 : -719162 ≤ n) (h2 : n ≤ 2932896) : ∃ y m d, IsDay y m d ∧ placeI y m d = n := by
  obtain ⟨y, m, d, g1, g2⟩ := day_exists (n + 719162).toNat (by omega)
  exact ⟨y, m, d, g1, by rw [g2]; omega⟩

open Classical in
/-- The day at a place. -/
noncomputable def dayOf (n : Int) : Int × Int × Int := if h : -719162 ≤ n ∧ n ≤ 2932896 then ((day_at n h.1 h.2).choose, (day_at n h.1 h.2).choose_spec.choose, (day_at n h.1 h.2).choose_spec.choose_spec.choose) else (0, 0, 0)
def placeB (n : Int) : Bool := decide (-719162 ≤ n ∧ n ≤ 2932896)
theorem dayOf_spec {n : Int} (h1 : -719162 ≤ n) (h2 : n ≤ 2932896) : IsDay (dayOf n).1 (dayOf n).2.1 (dayOf n).2.2 ∧ placeI (dayOf n).1 (dayOf n).2.1 (dayOf n).2.2 = n := by
  unfold dayOf
  rw [dif_pos ⟨h1, h2⟩]
  exact (day_at n h1 h2).choose_spec.choose_spec.choose_spec
theorem dayOf_eq {n y m d : Int} (h : IsDay y m d) (hp : placeI y m d = n) : y = (dayOf n).1 ∧ m = (dayOf n).2.1 ∧ d = (dayOf n).2.2 := by
  have hr := place_range h
  have hs := dayOf_spec (n := n) (by omega) (by omega)
  exact day_unique h hs.1 (hp.trans hs.2.symm)
theorem dayOf_out {n : Int} (h : ¬ (-719162 ≤ n ∧ n ≤ 2932896)) : dayOf n = (0, 0, 0) := by unfold dayOf; rw [dif_neg h]

/-- The year is found: no later one begins by then. -/
theorem year_found {y left : Int} (h1 : aheadI y ≤ left) (h2 : left < aheadI (y + 1)) : 0 ≤ left - aheadI y ∧ left - aheadI y < wholeI y := by
  rw [aheadI_succ] at h2; omega

set_option maxRecDepth 100000 in
set_option maxHeartbeats 1000000 in
theorem of_any (n : Int) (w : World) (h0 : -9223372036854775808 ≤ n) (h1 : n ≤ 9223372036854775807) :
    Calls Tryz.prog 75 #[.int .i64 n] w fun e w' => e = .returned (.tuple #[.int .i64 (dayOf n).1, .int .i64 (dayOf n).2.1, .int .i64 (dayOf n).2.2, .bool (placeB n)]) ∧ Below w.heap.size w w' := by
  by_cases hr : -719162 ≤ n ∧ n ≤ 2932896
  · have hb : placeB n = true := by unfold placeB; simpa using hr
    rw [hb]
    have HE := Lib.hid (fun y m d => @dayOf_eq n y m d)
    obtain ⟨hr1, hr2⟩ := hr
    have hg := aheadI_guess (n + 719162) (by omega)
    have HG := Lib.hid hg
    clear hb hg
    go_enter Tryz.func75, Tryz.ntmps75
    go_wp2
    go_loop [2] (fun t => ∃ y : Int, 1 ≤ y ∧ y ≤ 9999 ∧ aheadI y ≤ n + 719162 ∧ t = .int .i64 y) (fun t => (9999 - intOf t).toNat)
    case atStart => exact ⟨_, by omega, by omega, HG.out, rfl⟩
    case round =>
      obtain ⟨y, hy1, hy2, hy3, rfl⟩ := hrel
      have hay := aheadI_range y hy1 (by omega)
      have hay2 := aheadI_range (y + 1) (by omega) (by omega)
      by_cases hc : aheadI (y + 1) ≤ n + 719162
      · have h9 : aheadI 10000 = 3652059 := by decide
        have hy9 : y < 9999 := by
          rcases Int.lt_or_eq_of_le hy2 with h | h
          · exact h
          · rw [h] at hc; rw [show (9999 : Int) + 1 = 10000 from rfl, h9] at hc; omega
        have HC := Lib.hid hc
        clear h9
        go_wp2_with fail
        refine (ahead_any _ _ (by omega) (by omega)).mono ?_
        rintro e w' ⟨rfl, rfl⟩
        generalize hA : aheadI (y + 1) = A at *
        have HA := Lib.hid hA
        clear hA
        go_wp2
        go_round
        case rel => exact ⟨y + 1, by omega, by omega, by rw [HA.out]; exact hc, rfl⟩
        case measure => simp [intOf]; omega
      · have hf := year_found hy3 (by omega)
        have HF := Lib.hid hf
        have hc' : n + 719162 < aheadI (y + 1) := by omega
        clear hc
        go_wp2_with fail
        refine (ahead_any _ _ (by omega) (by omega)).mono ?_
        rintro e w' ⟨rfl, rfl⟩
        generalize aheadI (y + 1) = A at *
        go_wp2_with fail
        refine (ahead_any _ _ (by omega) (by omega)).mono ?_
        rintro e w' ⟨rfl, rfl⟩
        have HW := Lib.hid (befI_whole y)
        have hbr := fun k => befI_range y k
        have HBR := Lib.hid hbr
        have HY9 := Lib.hid (show 1 ≤ y ∧ y ≤ 9999 from ⟨hy1, hy2⟩)
        have HFW := Lib.hid (wholeI_range y)
        have HPL := Lib.hid (show ∀ m d : Int, placeI y m d = aheadI y + befI y (m - 1).toNat + d - 1 - 719162 from fun _ _ => rfl)
        clear hbr
        generalize hA0 : aheadI y = A0 at *
        have HA0 := Lib.hid hA0
        clear hA0
        go_wp2
        go_loopw [3, 6] (fun vm vl wr => ∃ k : Nat, k < 12 ∧ vm = .int .i64 ((k : Int) + 1) ∧ vl = .int .i64 (n + 719162 - A0 - befI y k) ∧ 0 ≤ n + 719162 - A0 - befI y k ∧ Below w.heap.size w wr) (fun vm _ _ => (12 - intOf vm).toNat)
        case atStart => exact ⟨0, by omega, rfl, by simp [befI], by simp [befI]; have := HF.out.1; omega, Below.refl _ _⟩
        case round =>
          obtain ⟨k, hk, rfl, rfl, hle, hbel⟩ := hrel
          have hbk := HBR.out k
          have hlk := longI_range y ((k : Int) + 1)
          have HS := Lib.hid (show befI y (k + 1) = befI y k + longI y ((k : Int) + 1) from rfl)
          have hA0 := HA0.out
          by_cases hgo : longI y ((k : Int) + 1) ≤ n + 719162 - A0 - befI y k
          · have hk11 : k < 11 := by
              by_cases h : k = 11
              · subst h
                have h1 := HF.out
                have h2 := HW.out
                have h3 : befI y 12 = befI y 11 + longI y (((11 : Nat) : Int) + 1) := rfl
                omega
              · omega
            generalize hLL : longI y ((k : Int) + 1) = L at *
            have HLK := Lib.hid hLL
            generalize befI y k = b at *
            clear hLL hA0
            go_wp2_with fail
            refine (long_any _ _ _).mono ?_
            rintro e v1 ⟨rfl, hb1⟩
            rw [HLK.out]
            go_wp2_with fail
            refine (long_any _ _ _).mono ?_
            rintro e v2 ⟨rfl, hb2⟩
            rw [HLK.out]
            go_wp2
            go_roundw
            case rel => exact ⟨k + 1, by omega, by go_num, by rw [HS.out]; congr 1; omega, by rw [HS.out]; omega, below_thn (below_thn hbel hb1) hb2⟩
            case measure => simp [intOf]; omega
          · have hday : IsDay y ((k : Int) + 1) (n + 719162 - A0 - befI y k + 1) := ⟨HY9.out.1, HY9.out.2, by omega, by omega, by omega, by omega⟩
            have hpl := HPL.out ((k : Int) + 1) (n + 719162 - A0 - befI y k + 1)
            rw [show ((k : Int) + 1 - 1).toNat = k from by omega] at hpl
            have hfin := HE.out _ _ _ hday (by rw [hpl]; omega)
            have HFIN := Lib.hid hfin
            have hgo' : n + 719162 - A0 - befI y k < longI y ((k : Int) + 1) := by omega
            clear hday hpl hfin hgo
            generalize hLL : longI y ((k : Int) + 1) = L at *
            have HLK := Lib.hid hLL
            generalize befI y k = b at *
            clear hLL hA0
            go_wp2_with fail
            refine (long_any _ _ _).mono ?_
            rintro e v1 ⟨rfl, hb1⟩
            rw [HLK.out]
            go_wp2
            exact bodyPost_ret (v := .tuple #[.int .i64 y, .int .i64 ((k : Int) + 1), .int .i64 (n + 719162 - A0 - b + 1), .bool true]) (by simp [results, Tryz.results75, go_sem]) rfl ⟨by rw [HFIN.out.1, HFIN.out.2.1, HFIN.out.2.2], below_thn hbel hb1⟩
  · have hb : placeB n = false := by unfold placeB; simpa using hr
    rw [hb, dayOf_out hr]
    have hr' : n < -719162 ∨ 2932896 < n := by omega
    clear hb hr
    rcases hr' with hr | hr
    all_goals
      go_enter Tryz.func75, Tryz.ntmps75
      go_wp2
      exact bodyPost_ret (v := .tuple #[.int .i64 0, .int .i64 0, .int .i64 0, .bool false]) (by simp [results, Tryz.results75, go_sem]) rfl ⟨rfl, Below.refl _ _⟩
end Go.Proofs.YtgamekfickheaaaGreat
namespace Go.Proofs.YtgamekfickheaaaGreat
open Go.RowKit
set_option linter.unusedVariables false
set_option linter.unusedSimpArgs false

set_option maxRecDepth 100000 in
set_option maxHeartbeats 1000000 in
theorem ref_of_any (n : Int) (w : World) :
    Calls Tryz.prog 105 #[.int .i64 n] w fun e w' => e = .returned (.tuple #[.agg #[.int .i64 (dayOf n).1, .int .i64 (dayOf n).2.1, .int .i64 (dayOf n).2.2, .int .i64 0, .int .i64 0, .int .i64 0], .bool (placeB n)]) ∧ Below w.heap.size w w' := by
  by_cases hr : -719162 ≤ n ∧ n ≤ 2932896
  · have hb : placeB n = true := by unfold placeB; simpa using hr
    rw [hb]
    have HE := Lib.hid (fun y m d => @dayOf_eq n y m d)
    obtain ⟨hr1, hr2⟩ := hr
    clear hb
    go_enter Tryz.func105, Tryz.ntmps105
    go_wp2
    go_loop [0, 4] (fun vd vy => ∃ t r : Int, 1 ≤ t ∧ t ≤ 9999 ∧ vy = .int .i64 t ∧ vd = .int .i64 r ∧ aheadI t + r - 719162 = n ∧ (r < 0 → t ≤ 1970)) (fun _ vy => (intOf vy).toNat)
    case atStart => exact ⟨1970, n, by omega, by omega, rfl, rfl, by rw [aheadI_1970]; omega, fun _ => by omega⟩
    case round =>
      obtain ⟨t, r, ht1, ht2, rfl, rfl, hsum, hneg⟩ := hrel
      have hat := aheadI_range t ht1 (by omega)
      have HSUM := Lib.hid hsum
      have hr3 : -3652059 ≤ r ∧ r ≤ 3652058 := by omega
      clear hsum
      by_cases hlt : r < 0
      · have ht70 := hneg hlt
        have ht2' : 2 ≤ t := by
          rcases Int.lt_or_eq_of_le ht1 with h | h
          · omega
          · have h1 := HSUM.out
            rw [← h, show aheadI 1 = 0 from by decide] at h1
            omega
        have hs := aheadI_succ (t - 1)
        rw [show t - 1 + 1 = t from by omega] at hs
        have hw := wholeI_range (t - 1)
        have HS := Lib.hid hs
        clear hs hneg
        go_wp2_with fail
        refine (ref_whole_any _ _).mono ?_
        rintro e w' ⟨rfl, rfl⟩
        generalize wholeI (t - 1) = W at *
        go_wp2
        go_round
        case rel => exact ⟨t - 1, r + W, by omega, by omega, rfl, rfl, by have h1 := HSUM.out; have h2 := HS.out; omega, fun _ => by omega⟩
        case measure => simp [intOf]; omega
      · have hr0 : 0 ≤ r := by omega
        clear hneg hlt
        go_wp2
        go_loop [0, 4] (fun vd vy => ∃ t r : Int, 1 ≤ t ∧ t ≤ 9999 ∧ vy = .int .i64 t ∧ vd = .int .i64 r ∧ aheadI t + r - 719162 = n ∧ 0 ≤ r) (fun vd _ => (intOf vd).toNat)
        case atStart => exact ⟨t, r, ht1, ht2, rfl, rfl, HSUM.out, hr0⟩
        case round =>
          clear HSUM hr3 hat hr0 ht1 ht2
          obtain ⟨t2, r2, ht1, ht2, rfl, rfl, hsum, hr0⟩ := hrel
          have hat := aheadI_range t2 ht1 (by omega)
          have HSUM := Lib.hid hsum
          have hr3 : r2 ≤ 3652058 := by omega
          have hs := aheadI_succ t2
          have hw := wholeI_range t2
          have HS := Lib.hid hs
          clear hs
          by_cases hge : wholeI t2 ≤ r2
          · have ht9 : t2 < 9999 := by
              have h9 : aheadI 10000 = 3652059 := by decide
              rcases Int.lt_or_eq_of_le ht2 with h | h
              · exact h
              · have h1 := HS.out
                rw [h, show (9999 : Int) + 1 = 10000 from rfl, h9] at h1
                rw [h] at hge hsum
                omega
            clear hsum
            generalize hW : wholeI t2 = W at *
            have HWW := Lib.hid hW
            clear hW
            go_wp2_with fail
            refine (ref_whole_any _ _).mono ?_
            rintro e w' ⟨rfl, rfl⟩
            rw [HWW.out]
            go_wp2_with fail
            refine (ref_whole_any _ _).mono ?_
            rintro e w' ⟨rfl, rfl⟩
            rw [HWW.out]
            go_wp2
            go_round
            case rel => exact ⟨t2 + 1, r2 - W, by omega, by omega, rfl, rfl, by have h1 := HSUM.out; have h2 := HS.out; omega, by omega⟩
            case measure => simp [intOf]; omega
          · have hlt : r2 < wholeI t2 := by omega
            clear hsum hge
            have HPL := Lib.hid (show ∀ m d : Int, placeI t2 m d = aheadI t2 + befI t2 (m - 1).toNat + d - 1 - 719162 from fun _ _ => rfl)
            have HBW := Lib.hid (befI_whole t2)
            have HLT := Lib.hid hlt
            generalize hW : wholeI t2 = W at *
            have HWW := Lib.hid hW
            clear hW
            go_wp2_with fail
            refine (ref_whole_any _ _).mono ?_
            rintro e w' ⟨rfl, rfl⟩
            rw [HWW.out]
            go_wp2
            go_loop [0, 5] (fun vd vm => ∃ k : Nat, k < 12 ∧ vm = .int .i64 ((k : Int) + 1) ∧ vd = .int .i64 (r2 - befI t2 k) ∧ 0 ≤ r2 - befI t2 k) (fun _ vm => (12 - intOf vm).toNat)
            case atStart => exact ⟨0, by omega, rfl, by simp [befI], by simp [befI]; exact hr0⟩
            case round =>
              obtain ⟨k, hk, rfl, rfl, hle⟩ := hrel
              have hbk := befI_range t2 k
              have hlk := longI_range t2 ((k : Int) + 1)
              have HSS := Lib.hid (show befI t2 (k + 1) = befI t2 k + longI t2 ((k : Int) + 1) from rfl)
              by_cases hgo : longI t2 ((k : Int) + 1) ≤ r2 - befI t2 k
              · have hk11 : k < 11 := by
                  by_cases h : k = 11
                  · subst h
                    have h2 := HBW.out
                    have h3 : befI t2 12 = befI t2 11 + longI t2 (((11 : Nat) : Int) + 1) := rfl
                    omega
                  · omega
                generalize hLL : longI t2 ((k : Int) + 1) = L at *
                have HLK := Lib.hid hLL
                generalize befI t2 k = b at *
                clear hLL
                go_wp2_with fail
                refine (ref_long_any _ _ _).mono ?_
                rintro e w' ⟨rfl, rfl⟩
                rw [HLK.out]
                go_wp2_with fail
                refine (ref_long_any _ _ _).mono ?_
                rintro e w' ⟨rfl, rfl⟩
                rw [HLK.out]
                go_wp2
                go_round
                case rel => exact ⟨k + 1, by omega, by go_num, by rw [HSS.out]; congr 1; omega, by rw [HSS.out]; omega⟩
                case measure => simp [intOf]; omega
              · have hday : IsDay t2 ((k : Int) + 1) (r2 - befI t2 k + 1) := ⟨by omega, by omega, by omega, by omega, by omega, by omega⟩
                have hpl := HPL.out ((k : Int) + 1) (r2 - befI t2 k + 1)
                rw [show ((k : Int) + 1 - 1).toNat = k from by omega] at hpl
                have hfin := HE.out _ _ _ hday (by rw [hpl]; have := HSUM.out; omega)
                have HFIN := Lib.hid hfin
                have hgo' : r2 - befI t2 k < longI t2 ((k : Int) + 1) := by omega
                clear hday hpl hfin hgo
                generalize hLL : longI t2 ((k : Int) + 1) = L at *
                have HLK := Lib.hid hLL
                clear hLL
                generalize befI t2 k = b at *
                go_wp2_with fail
                refine (ref_long_any _ _ _).mono ?_
                rintro e w' ⟨rfl, rfl⟩
                rw [HLK.out]
                go_wp2
                exact bodyPost_ret (v := .tuple #[.agg #[.int .i64 t2, .int .i64 ((k : Int) + 1), .int .i64 (r2 - b + 1), .int .i64 0, .int .i64 0, .int .i64 0], .bool true]) (by simp [results, Tryz.results105, go_sem]) rfl ⟨by rw [HFIN.out.1, HFIN.out.2.1, HFIN.out.2.2], (Below.refl _ _).alloc (Nat.le_refl _) _⟩
  · have hb : placeB n = false := by unfold placeB; simpa using hr
    rw [hb, dayOf_out hr]
    have hr' : n < -719162 ∨ 2932896 < n := by omega
    clear hb hr
    rcases hr' with hr | hr
    all_goals
      go_enter Tryz.func105, Tryz.ntmps105
      go_wp2
      exact bodyPost_ret (v := .tuple #[.agg #[.int .i64 0, .int .i64 0, .int .i64 0, .int .i64 0, .int .i64 0, .int .i64 0], .bool false]) (by simp [results, Tryz.results105, go_sem]) rfl ⟨rfl, (Below.refl _ _).alloc (Nat.le_refl _) _⟩

end Go.Proofs.YtgamekfickheaaaGreat
namespace Go.Proofs.YtgamekfickheaaaGreat
open Go.RowKit
set_option linter.unusedVariables false
set_option linter.unusedSimpArgs false

theorem bcell {W w1 : World} (hb : Below W.heap.size W w1) : (∀ b o, b < W.heap.size → w1.cell? ⟨b, o, none⟩ = W.cell? ⟨b, o, none⟩) ∧ (∀ b o, b < W.heap.size → w1.frozen? ⟨b, o, none⟩ = W.frozen? ⟨b, o, none⟩) :=
  ⟨fun b o h => hb.cell (p := ⟨b, o, none⟩) h, fun b o h => hb.frozen (p := ⟨b, o, none⟩) h⟩

def timeB (h mi s : Int) : Bool := decide (0 ≤ h ∧ h ≤ 23 ∧ 0 ≤ mi ∧ mi ≤ 59 ∧ 0 ≤ s ∧ s ≤ 59)
def secB (y m d h mi s : Int) : Bool := dayB y m d && timeB h mi s
def secI (y m d h mi s : Int) : Int := if secB y m d h mi s then placeI y m d * 86400 + h * 3600 + mi * 60 + s else 0

theorem daysI_range (y m d : Int) : -719162 ≤ daysI y m d ∧ daysI y m d ≤ 2932896 := by
  unfold daysI
  split
  · rename_i h; exact place_range ((dayB_iff y m d).1 h)
  · omega

theorem time_cases (h mi s : Int) : (¬ (0 ≤ h ∧ h ≤ 23) ∧ timeB h mi s = false) ∨ ((0 ≤ h ∧ h ≤ 23) ∧ ¬ (0 ≤ mi ∧ mi ≤ 59) ∧ timeB h mi s = false) ∨
    ((0 ≤ h ∧ h ≤ 23) ∧ (0 ≤ mi ∧ mi ≤ 59) ∧ ¬ (0 ≤ s ∧ s ≤ 59) ∧ timeB h mi s = false) ∨ ((0 ≤ h ∧ h ≤ 23) ∧ (0 ≤ mi ∧ mi ≤ 59) ∧ (0 ≤ s ∧ s ≤ 59) ∧ timeB h mi s = true) := by
  unfold timeB
  simp only [decide_eq_false_iff_not, decide_eq_true_eq]
  omega

set_option maxHeartbeats 400000 in
theorem within2_any (n b : Int) (w : World) :
    Calls Tryz.prog 96 #[.int .i64 n, .int .i64 b] w fun e w' => e = .returned (.bool (decide (0 ≤ n) && decide (n ≤ b))) ∧ w = w' := by
  by_cases h1 : 0 ≤ n
  · by_cases h2 : n ≤ b
    all_goals
      go_enter Tryz.func96, Tryz.ntmps96
      go_wp2
      go_ret
      exact ⟨bret (by simp; omega), rfl⟩
  · have h1' : n < 0 := by omega
    have hd : decide (0 ≤ n) = false := by simp; omega
    go_enter Tryz.func96, Tryz.ntmps96
    go_wp2
    go_ret
    exact ⟨bret (by first | rfl | (rw [hd]; rfl)), rfl⟩

set_option maxHeartbeats 1000000 in
theorem seconds_any (y m d h mi s : Int) (w : World) :
    Calls Tryz.prog 74 #[.agg #[.int .i64 y, .int .i64 m, .int .i64 d, .int .i64 h, .int .i64 mi, .int .i64 s]] w fun e w' => e = .returned (.tuple #[.int .i64 (secI y m d h mi s), .bool (secB y m d h mi s)]) ∧ Below w.heap.size w w' := by
  have hdr := daysI_range y m d
  cases hB : dayB y m d
  · have e1 : secB y m d h mi s = false := by unfold secB; rw [hB]; rfl
    have e2 : secI y m d h mi s = 0 := by unfold secI; rw [e1]; rfl
    rw [e1, e2]
    have HB := Lib.hid hB
    clear e1 e2 hB
    go_enter Tryz.func74, Tryz.ntmps74
    go_wp2_with fail
    refine (days_any _ _ _ _).mono ?_
    rintro e w1 ⟨rfl, hb1⟩
    rw [HB.out]
    generalize daysI y m d = N at *
    go_wp2
    go_ret2
    have hb0 := (Below.refl w.heap.size w).alloc (Nat.le_refl _) (.cells #[.int .i64 y, .int .i64 m, .int .i64 d, .int .i64 h, .int .i64 mi, .int .i64 s] 66)
    exact ⟨rfl, below_thn hb0 hb1⟩
  · have hp : daysI y m d = placeI y m d := by unfold daysI; rw [if_pos hB]
    have hb0 := (Below.refl w.heap.size w).alloc (Nat.le_refl _) (.cells #[.int .i64 y, .int .i64 m, .int .i64 d, .int .i64 h, .int .i64 mi, .int .i64 s] 66)
    have HB0 := Lib.hid hb0
    clear hb0
    have HP := Lib.hid hp
    have HB := Lib.hid hB
    have e1 : secB y m d h mi s = timeB h mi s := by unfold secB; rw [hB]; rfl
    clear hp
    rcases time_cases h mi s with ⟨g, e⟩ | ⟨g, g2, e⟩ | ⟨g, g2, g3, e⟩ | ⟨g, g2, g3, e⟩
    · rw [e] at e1
      have e2 : secI y m d h mi s = 0 := by unfold secI; rw [e1]; rfl
      rw [e1, e2]
      have X := Lib.hid (in_no g)
      clear e1 e2 e g hB
      go_enter Tryz.func74, Tryz.ntmps74
      go_wp2_with fail
      refine (days_any _ _ _ _).mono ?_
      rintro e w1 ⟨rfl, hb1⟩
      rw [HB.out]
      generalize daysI y m d = N at *
      obtain ⟨hc, hf⟩ := bcell hb1
      go_wp2_with fail
      refine (within2_any _ _ _).mono ?_
      rintro e w' ⟨rfl, rfl⟩
      rw [X.out]
      go_wp2
      go_ret2
      exact ⟨rfl, below_thn HB0.out hb1⟩
    · rw [e] at e1
      have e2 : secI y m d h mi s = 0 := by unfold secI; rw [e1]; rfl
      rw [e1, e2]
      have X := Lib.hid (in_yes g.1 g.2)
      have X2 := Lib.hid (in_no g2)
      clear e1 e2 e g g2 hB
      go_enter Tryz.func74, Tryz.ntmps74
      go_wp2_with fail
      refine (days_any _ _ _ _).mono ?_
      rintro e w1 ⟨rfl, hb1⟩
      rw [HB.out]
      generalize daysI y m d = N at *
      obtain ⟨hc, hf⟩ := bcell hb1
      go_wp2_with fail
      refine (within2_any _ _ _).mono ?_
      rintro e w' ⟨rfl, rfl⟩
      rw [X.out]
      go_wp2_with fail
      refine (within2_any _ _ _).mono ?_
      rintro e w' ⟨rfl, rfl⟩
      rw [X2.out]
      go_wp2
      go_ret2
      exact ⟨rfl, below_thn HB0.out hb1⟩
    · rw [e] at e1
      have e2 : secI y m d h mi s = 0 := by unfold secI; rw [e1]; rfl
      rw [e1, e2]
      have X := Lib.hid (in_yes g.1 g.2)
      have X2 := Lib.hid (in_yes g2.1 g2.2)
      have X3 := Lib.hid (in_no g3)
      clear e1 e2 e g g2 g3 hB
      go_enter Tryz.func74, Tryz.ntmps74
      go_wp2_with fail
      refine (days_any _ _ _ _).mono ?_
      rintro e w1 ⟨rfl, hb1⟩
      rw [HB.out]
      generalize daysI y m d = N at *
      obtain ⟨hc, hf⟩ := bcell hb1
      go_wp2_with fail
      refine (within2_any _ _ _).mono ?_
      rintro e w' ⟨rfl, rfl⟩
      rw [X.out]
      go_wp2_with fail
      refine (within2_any _ _ _).mono ?_
      rintro e w' ⟨rfl, rfl⟩
      rw [X2.out]
      go_wp2_with fail
      refine (within2_any _ _ _).mono ?_
      rintro e w' ⟨rfl, rfl⟩
      rw [X3.out]
      go_wp2
      go_ret2
      exact ⟨rfl, below_thn HB0.out hb1⟩
    · rw [e] at e1
      have e2 : secI y m d h mi s = placeI y m d * 86400 + h * 3600 + mi * 60 + s := by unfold secI; rw [if_pos e1]
      rw [e1, e2, ← HP.out]
      have X := Lib.hid (in_yes g.1 g.2)
      have X2 := Lib.hid (in_yes g2.1 g2.2)
      have X3 := Lib.hid (in_yes g3.1 g3.2)
      clear e1 e2 e hB
      go_enter Tryz.func74, Tryz.ntmps74
      go_wp2_with fail
      refine (days_any _ _ _ _).mono ?_
      rintro e w1 ⟨rfl, hb1⟩
      rw [HB.out]
      obtain ⟨hc, hf⟩ := bcell hb1
      go_wp2_with fail
      refine (within2_any _ _ _).mono ?_
      rintro e w' ⟨rfl, rfl⟩
      rw [X.out]
      go_wp2_with fail
      refine (within2_any _ _ _).mono ?_
      rintro e w' ⟨rfl, rfl⟩
      rw [X2.out]
      go_wp2_with fail
      refine (within2_any _ _ _).mono ?_
      rintro e w' ⟨rfl, rfl⟩
      rw [X3.out]
      go_wp2
      go_ret2
      exact ⟨rfl, below_thn HB0.out hb1⟩
end Go.Proofs.YtgamekfickheaaaGreat
namespace Go.Proofs.YtgamekfickheaaaGreat
open Go.RowKit
set_option linter.unusedVariables false
set_option linter.unusedSimpArgs false

theorem tdm (n : Int) : ∃ q r : Int, n.tdiv 86400 = q ∧ n.tmod 86400 = r ∧ n = 86400 * q + r ∧ -86400 < r ∧ r < 86400 ∧ (n < 0 → r ≤ 0) := by
  refine ⟨_, _, rfl, rfl, ?_, Int.lt_tmod_of_pos _ (by omega), Int.tmod_lt_of_pos _ (by omega), fun h => ?_⟩
  · have := Int.tmod_add_mul_tdiv n 86400; omega
  · have h2 := Int.neg_tmod (a := n) (b := 86400)
    have h3 := Int.tmod_nonneg (a := -n) 86400 (by omega)
    omega

theorem below_set {B : Nat} {a w : World} (h : Below B a w) (o : Nat) (v : Value) : Below B a (w.setCell ⟨B, o, none⟩ v) := h.setCell (Nat.le_refl _) v

/-- The date of so many seconds. -/
noncomputable def dateV (n : Int) : Value := .agg #[.int .i64 (dayOf (n / 86400)).1, .int .i64 (dayOf (n / 86400)).2.1, .int .i64 (dayOf (n / 86400)).2.2, .int .i64 (n % 86400 / 3600), .int .i64 (n % 86400 / 60 % 60), .int .i64 (n % 86400 % 60)]
def zeroV : Value := .agg #[.int .i64 0, .int .i64 0, .int .i64 0, .int .i64 0, .int .i64 0, .int .i64 0]
noncomputable def dateR (n : Int) : Value := if placeB (n / 86400) then dateV n else zeroV

set_option maxRecDepth 100000 in
set_option maxHeartbeats 1000000 in
theorem date_any (n : Int) (w : World) (h0 : -9223372036854775808 ≤ n) (h1 : n ≤ 9223372036854775807) :
    Calls Tryz.prog 44 #[.int .i64 n] w fun e w' => e = .returned (.tuple #[dateR n, .bool (placeB (n / 86400))]) ∧ Below w.heap.size w w' := by
  obtain ⟨q, r, hq, hr, hn, hr1, hr2, hr3⟩ := tdm n
  have hc : (0 ≤ n) ∨ (n < 0 ∧ r = 0 ∧ q = n / 86400 ∧ n % 86400 = 0) ∨ (n < 0 ∧ r < 0 ∧ q - 1 = n / 86400 ∧ r + 86400 = n % 86400) := by
    by_cases h : 0 ≤ n
    · exact .inl h
    · have := hr3 (by omega)
      by_cases h2 : r = 0
      · exact .inr (.inl ⟨by omega, h2, by omega, by omega⟩)
      · exact .inr (.inr ⟨by omega, by omega, by omega, by omega⟩)
  clear hr3
  have hqb : -106751991167302 ≤ q ∧ q ≤ 106751991167302 := by omega
  have hq1 : -106751991167301 ≤ n / 86400 ∧ n / 86400 ≤ 106751991167301 := by omega
  have hm1 : 0 ≤ n % 86400 ∧ n % 86400 < 86400 := by omega
  have hb0 := (Below.refl w.heap.size w).alloc (Nat.le_refl _) (.cells #[.int .i64 0, .int .i64 0, .int .i64 0, .int .i64 0, .int .i64 0, .int .i64 0] 66)
  have HB0 := Lib.hid hb0
  clear hb0
  cases hp : placeB (n / 86400)
  · have hR : dateR n = zeroV := by unfold dateR; rw [hp]; rfl
    rw [hR]
    have HP := Lib.hid hp
    clear hp hR
    rcases hc with g | ⟨g, g2, g3, g4⟩ | ⟨g, g2, g3, g4⟩
    · clear hq hr hn hr1 hr2
      go_enter Tryz.func44, Tryz.ntmps44
      go_wp2_with fail
      refine (of_any _ _ (by omega) (by omega)).mono ?_
      rintro e w1 ⟨rfl, hb1⟩
      rw [HP.out]
      generalize dayOf (n / 86400) = D at *
      obtain ⟨hc, hf⟩ := bcell hb1
      have hz : w.heap.size < w1.heap.size := by have := hb1.size; simp at this; omega
      go_wp2
      exact bodyPost_ret (v := .tuple #[zeroV, .bool false]) (by simp [results, Tryz.results44, go_sem, hc, hf, hz]; rfl) rfl ⟨rfl, by (iterate 6 (refine below_set ?_ _ _)); exact below_thn HB0.out hb1⟩
    · subst g2 g3
      have G4 := Lib.hid g4
      clear hn hr1 hr2 g4
      go_enter Tryz.func44, Tryz.ntmps44
      go_wp2_with fail
      refine (of_any _ _ (by omega) (by omega)).mono ?_
      rintro e w1 ⟨rfl, hb1⟩
      rw [HP.out]
      generalize dayOf (n / 86400) = D at *
      obtain ⟨hc, hf⟩ := bcell hb1
      have hz : w.heap.size < w1.heap.size := by have := hb1.size; simp at this; omega
      go_wp2
      exact bodyPost_ret (v := .tuple #[zeroV, .bool false]) (by simp [results, Tryz.results44, go_sem, hc, hf, hz]; rfl) rfl ⟨rfl, by (iterate 6 (refine below_set ?_ _ _)); exact below_thn HB0.out hb1⟩
    · have G3 := Lib.hid g3
      have G4 := Lib.hid g4
      clear hn g3 g4
      go_enter Tryz.func44, Tryz.ntmps44
      go_wp2_with fail
      rw [G3.out]
      refine (of_any _ _ (by omega) (by omega)).mono ?_
      rintro e w1 ⟨rfl, hb1⟩
      rw [HP.out]
      generalize dayOf (n / 86400) = D at *
      obtain ⟨hc, hf⟩ := bcell hb1
      have hz : w.heap.size < w1.heap.size := by have := hb1.size; simp at this; omega
      go_wp2
      exact bodyPost_ret (v := .tuple #[zeroV, .bool false]) (by simp [results, Tryz.results44, go_sem, hc, hf, hz]; rfl) rfl ⟨rfl, by (iterate 6 (refine below_set ?_ _ _)); exact below_thn HB0.out hb1⟩
  · have hR : dateR n = dateV n := by unfold dateR; rw [if_pos hp]
    rw [hR]
    have HP := Lib.hid hp
    clear hp hR
    rcases hc with g | ⟨g, g2, g3, g4⟩ | ⟨g, g2, g3, g4⟩
    · clear hq hr hn hr1 hr2
      go_enter Tryz.func44, Tryz.ntmps44
      go_wp2_with fail
      refine (of_any _ _ (by omega) (by omega)).mono ?_
      rintro e w1 ⟨rfl, hb1⟩
      rw [HP.out]
      have HD := Lib.hid (show dateV n = .agg #[.int .i64 (dayOf (n / 86400)).1, .int .i64 (dayOf (n / 86400)).2.1, .int .i64 (dayOf (n / 86400)).2.2, .int .i64 (n % 86400 / 3600), .int .i64 (n % 86400 / 60 % 60), .int .i64 (n % 86400 % 60)] from rfl)
      generalize dayOf (n / 86400) = D at *
      obtain ⟨hc, hf⟩ := bcell hb1
      have hz : w.heap.size < w1.heap.size := by have := hb1.size; simp at this; omega
      go_wp2
      exact bodyPost_ret (v := .tuple #[.agg #[.int .i64 D.1, .int .i64 D.2.1, .int .i64 D.2.2, .int .i64 ((n % 86400) / 3600), .int .i64 ((n % 86400) / 60 % 60), .int .i64 ((n % 86400) % 60)], .bool true]) (by simp [results, Tryz.results44, go_sem, hc, hf, hz]) rfl ⟨by rw [HD.out], by (iterate 6 (refine below_set ?_ _ _)); exact below_thn HB0.out hb1⟩
    · subst g2 g3
      have G4 := Lib.hid g4
      clear hn hr1 hr2 g4
      go_enter Tryz.func44, Tryz.ntmps44
      go_wp2_with fail
      refine (of_any _ _ (by omega) (by omega)).mono ?_
      rintro e w1 ⟨rfl, hb1⟩
      rw [HP.out]
      have HD := Lib.hid (show dateV n = .agg #[.int .i64 (dayOf (n / 86400)).1, .int .i64 (dayOf (n / 86400)).2.1, .int .i64 (dayOf (n / 86400)).2.2, .int .i64 (n % 86400 / 3600), .int .i64 (n % 86400 / 60 % 60), .int .i64 (n % 86400 % 60)] from rfl)
      generalize dayOf (n / 86400) = D at *
      obtain ⟨hc, hf⟩ := bcell hb1
      have hz : w.heap.size < w1.heap.size := by have := hb1.size; simp at this; omega
      go_wp2
      exact bodyPost_ret (v := .tuple #[.agg #[.int .i64 D.1, .int .i64 D.2.1, .int .i64 D.2.2, .int .i64 ((0 : Int) / 3600), .int .i64 ((0 : Int) / 60 % 60), .int .i64 ((0 : Int) % 60)], .bool true]) (by simp [results, Tryz.results44, go_sem, hc, hf, hz]) rfl ⟨by rw [HD.out, G4.out], by (iterate 6 (refine below_set ?_ _ _)); exact below_thn HB0.out hb1⟩
    · have G3 := Lib.hid g3
      have G4 := Lib.hid g4
      clear hn g3 g4
      go_enter Tryz.func44, Tryz.ntmps44
      go_wp2_with fail
      rw [G3.out]
      refine (of_any _ _ (by omega) (by omega)).mono ?_
      rintro e w1 ⟨rfl, hb1⟩
      rw [HP.out]
      have HD := Lib.hid (show dateV n = .agg #[.int .i64 (dayOf (n / 86400)).1, .int .i64 (dayOf (n / 86400)).2.1, .int .i64 (dayOf (n / 86400)).2.2, .int .i64 (n % 86400 / 3600), .int .i64 (n % 86400 / 60 % 60), .int .i64 (n % 86400 % 60)] from rfl)
      generalize dayOf (n / 86400) = D at *
      obtain ⟨hc, hf⟩ := bcell hb1
      have hz : w.heap.size < w1.heap.size := by have := hb1.size; simp at this; omega
      go_wp2
      exact bodyPost_ret (v := .tuple #[.agg #[.int .i64 D.1, .int .i64 D.2.1, .int .i64 D.2.2, .int .i64 ((r + 86400) / 3600), .int .i64 ((r + 86400) / 60 % 60), .int .i64 ((r + 86400) % 60)], .bool true]) (by simp [results, Tryz.results44, go_sem, hc, hf, hz]) rfl ⟨by rw [HD.out, ← G4.out], by (iterate 6 (refine below_set ?_ _ _)); exact below_thn HB0.out hb1⟩
end Go.Proofs.YtgamekfickheaaaGreat
namespace Go.Proofs.YtgamekfickheaaaGreat
open Go.RowKit
set_option linter.unusedVariables false
set_option linter.unusedSimpArgs false

theorem date_back (n : Int) (h : placeB (n / 86400) = true) :
    secB (dayOf (n / 86400)).1 (dayOf (n / 86400)).2.1 (dayOf (n / 86400)).2.2 (n % 86400 / 3600) (n % 86400 / 60 % 60) (n % 60) = true ∧
    secI (dayOf (n / 86400)).1 (dayOf (n / 86400)).2.1 (dayOf (n / 86400)).2.2 (n % 86400 / 3600) (n % 86400 / 60 % 60) (n % 60) = n := by
  have hr : -719162 ≤ n / 86400 ∧ n / 86400 ≤ 2932896 := by simpa [placeB] using h
  obtain ⟨h1, h2⟩ := dayOf_spec hr.1 hr.2
  have hd : dayB (dayOf (n / 86400)).1 (dayOf (n / 86400)).2.1 (dayOf (n / 86400)).2.2 = true := (dayB_iff _ _ _).2 h1
  have ht : timeB (n % 86400 / 3600) (n % 86400 / 60 % 60) (n % 60) = true := by
    unfold timeB; simp only [decide_eq_true_eq]; omega
  have hs : secB (dayOf (n / 86400)).1 (dayOf (n / 86400)).2.1 (dayOf (n / 86400)).2.2 (n % 86400 / 3600) (n % 86400 / 60 % 60) (n % 60) = true := by
    unfold secB; rw [hd, ht]; rfl
  refine ⟨hs, ?_⟩
  unfold secI
  rw [if_pos hs, h2]
  omega

theorem next_at (n : Int) (h : placeB n = true) (h' : placeB (n + 1) = true) : Follows (dayOf n).1 (dayOf n).2.1 (dayOf n).2.2 (dayOf (n + 1)).1 (dayOf (n + 1)).2.1 (dayOf (n + 1)).2.2 := by
  have hr : -719162 ≤ n ∧ n ≤ 2932896 := by simpa [placeB] using h
  have hr' : -719162 ≤ n + 1 ∧ n + 1 ≤ 2932896 := by simpa [placeB] using h'
  obtain ⟨h1, h2⟩ := dayOf_spec hr.1 hr.2
  obtain ⟨y, m, d, g1, g2, g3⟩ := next_day h1 (by omega)
  obtain ⟨e1, e2, e3⟩ := dayOf_eq g1 (show placeI y m d = n + 1 by rw [g2, h2])
  rw [← e1, ← e2, ← e3]
  exact g3
theorem last_at (n : Int) (h : placeB n = true) (h' : placeB (n + 1) = false) : dayOf n = (9999, 12, 31) := by
  have hr : -719162 ≤ n ∧ n ≤ 2932896 := by simpa [placeB] using h
  have hr' : ¬ (-719162 ≤ n + 1 ∧ n + 1 ≤ 2932896) := by simpa [placeB] using h'
  have hn : n = 2932896 := by omega
  subst hn
  obtain ⟨e1, e2, e3⟩ := dayOf_eq (n := 2932896) (y := 9999) (m := 12) (d := 31) ⟨by decide, by decide, by decide, by decide, by decide, by decide⟩ (by decide)
  have : dayOf 2932896 = ((dayOf 2932896).1, (dayOf 2932896).2.1, (dayOf 2932896).2.2) := rfl
  rw [this, ← e1, ← e2, ← e3]

/-- The parts of the date of so many seconds; noughts where it has none. -/
def dH (n : Int) : Int := if placeB (n / 86400) then n % 86400 / 3600 else 0
def dM (n : Int) : Int := if placeB (n / 86400) then n % 86400 / 60 % 60 else 0
def dS (n : Int) : Int := if placeB (n / 86400) then n % 60 else 0
theorem dateR_eq (n : Int) : dateR n = .agg #[.int .i64 (dayOf (n / 86400)).1, .int .i64 (dayOf (n / 86400)).2.1, .int .i64 (dayOf (n / 86400)).2.2, .int .i64 (dH n), .int .i64 (dM n), .int .i64 (dS n)] := by
  unfold dateR dH dM dS
  cases h : placeB (n / 86400)
  · have hr : ¬ (-719162 ≤ n / 86400 ∧ n / 86400 ≤ 2932896) := by simpa [placeB] using h
    rw [dayOf_out hr]; rfl
  · simp only [if_true, dateV]
    rw [show n % 86400 % 60 = n % 60 from by omega]
theorem date_back2 (n : Int) (h : placeB (n / 86400) = true) :
    secB (dayOf (n / 86400)).1 (dayOf (n / 86400)).2.1 (dayOf (n / 86400)).2.2 (dH n) (dM n) (dS n) = true ∧ secI (dayOf (n / 86400)).1 (dayOf (n / 86400)).2.1 (dayOf (n / 86400)).2.2 (dH n) (dM n) (dS n) = n := by
  unfold dH dM dS
  rw [if_pos h, if_pos h, if_pos h]
  exact date_back n h
theorem date_any2 (n : Int) (w : World) (h0 : -9223372036854775808 ≤ n) (h1 : n ≤ 9223372036854775807) :
    Calls Tryz.prog 44 #[.int .i64 n] w fun e w' => e = .returned (.tuple #[.agg #[.int .i64 (dayOf (n / 86400)).1, .int .i64 (dayOf (n / 86400)).2.1, .int .i64 (dayOf (n / 86400)).2.2, .int .i64 (dH n), .int .i64 (dM n), .int .i64 (dS n)], .bool (placeB (n / 86400))]) ∧ Below w.heap.size w w' :=
  (date_any n w h0 h1).mono fun e w' h => by rw [← dateR_eq]; exact h

end Go.Proofs.YtgamekfickheaaaGreat
namespace Go.Proofs.YtgamekfickheaaaGreat
open Go.RowKit
set_option linter.unusedVariables false
set_option linter.unusedSimpArgs false

set_option maxRecDepth 100000 in
set_option maxHeartbeats 1000000 in
theorem ref_seconds_any (y m d h mi s : Int) (w : World) :
    Calls Tryz.prog 103 #[.agg #[.int .i64 y, .int .i64 m, .int .i64 d, .int .i64 h, .int .i64 mi, .int .i64 s]] w fun e w' => e = .returned (.tuple #[.int .i64 (secI y m d h mi s), .bool (secB y m d h mi s)]) ∧ Below w.heap.size w w' := by
  have hdr := daysI_range y m d
  have hb0 := (Below.refl w.heap.size w).alloc (Nat.le_refl _) (.cells #[.int .i64 y, .int .i64 m, .int .i64 d, .int .i64 h, .int .i64 mi, .int .i64 s] 66)
  have HB0 := Lib.hid hb0
  clear hb0
  cases hB : dayB y m d
  · have e1 : secB y m d h mi s = false := by unfold secB; rw [hB]; rfl
    have e2 : secI y m d h mi s = 0 := by unfold secI; rw [e1]; rfl
    rw [e1, e2]
    have HB := Lib.hid hB
    clear e1 e2 hB
    go_enter Tryz.func103, Tryz.ntmps103
    go_wp2_with fail
    refine (ref_days_any _ _ _ _).mono ?_
    rintro e w1 ⟨rfl, rfl⟩
    rw [HB.out]
    generalize daysI y m d = N at *
    go_wp2
    go_ret2
    exact ⟨rfl, HB0.out⟩
  · have hp : daysI y m d = placeI y m d := by unfold daysI; rw [if_pos hB]
    have HP := Lib.hid hp
    have HB := Lib.hid hB
    have HS := Lib.hid (show secB y m d h mi s = timeB h mi s from by unfold secB; rw [hB]; rfl)
    clear hp hB
    by_cases g0 : h < 0
    · have e1 : secB y m d h mi s = false := by rw [HS.out]; unfold timeB; rw [decide_eq_false_iff_not]; omega
      have e2 : secI y m d h mi s = 0 := by unfold secI; rw [e1]; rfl
      rw [e1, e2]
      clear e1 e2
      go_enter Tryz.func103, Tryz.ntmps103
      go_wp2_with fail
      refine (ref_days_any _ _ _ _).mono ?_
      rintro e w1 ⟨rfl, rfl⟩
      rw [HB.out]
      generalize daysI y m d = N at *
      go_wp2
      go_ret2
      exact ⟨rfl, HB0.out⟩
    by_cases g1 : 23 < h
    · have e1 : secB y m d h mi s = false := by rw [HS.out]; unfold timeB; rw [decide_eq_false_iff_not]; omega
      have e2 : secI y m d h mi s = 0 := by unfold secI; rw [e1]; rfl
      rw [e1, e2]
      clear e1 e2
      go_enter Tryz.func103, Tryz.ntmps103
      go_wp2_with fail
      refine (ref_days_any _ _ _ _).mono ?_
      rintro e w1 ⟨rfl, rfl⟩
      rw [HB.out]
      generalize daysI y m d = N at *
      go_wp2
      go_ret2
      exact ⟨rfl, HB0.out⟩
    by_cases g2 : mi < 0
    · have e1 : secB y m d h mi s = false := by rw [HS.out]; unfold timeB; rw [decide_eq_false_iff_not]; omega
      have e2 : secI y m d h mi s = 0 := by unfold secI; rw [e1]; rfl
      rw [e1, e2]
      clear e1 e2
      go_enter Tryz.func103, Tryz.ntmps103
      go_wp2_with fail
      refine (ref_days_any _ _ _ _).mono ?_
      rintro e w1 ⟨rfl, rfl⟩
      rw [HB.out]
      generalize daysI y m d = N at *
      go_wp2
      go_ret2
      exact ⟨rfl, HB0.out⟩
    by_cases g3 : 59 < mi
    · have e1 : secB y m d h mi s = false := by rw [HS.out]; unfold timeB; rw [decide_eq_false_iff_not]; omega
      have e2 : secI y m d h mi s = 0 := by unfold secI; rw [e1]; rfl
      rw [e1, e2]
      clear e1 e2
      go_enter Tryz.func103, Tryz.ntmps103
      go_wp2_with fail
      refine (ref_days_any _ _ _ _).mono ?_
      rintro e w1 ⟨rfl, rfl⟩
      rw [HB.out]
      generalize daysI y m d = N at *
      go_wp2
      go_ret2
      exact ⟨rfl, HB0.out⟩
    by_cases g4 : s < 0
    · have e1 : secB y m d h mi s = false := by rw [HS.out]; unfold timeB; rw [decide_eq_false_iff_not]; omega
      have e2 : secI y m d h mi s = 0 := by unfold secI; rw [e1]; rfl
      rw [e1, e2]
      clear e1 e2
      go_enter Tryz.func103, Tryz.ntmps103
      go_wp2_with fail
      refine (ref_days_any _ _ _ _).mono ?_
      rintro e w1 ⟨rfl, rfl⟩
      rw [HB.out]
      generalize daysI y m d = N at *
      go_wp2
      go_ret2
      exact ⟨rfl, HB0.out⟩
    by_cases g5 : 59 < s
    · have e1 : secB y m d h mi s = false := by rw [HS.out]; unfold timeB; rw [decide_eq_false_iff_not]; omega
      have e2 : secI y m d h mi s = 0 := by unfold secI; rw [e1]; rfl
      rw [e1, e2]
      clear e1 e2
      go_enter Tryz.func103, Tryz.ntmps103
      go_wp2_with fail
      refine (ref_days_any _ _ _ _).mono ?_
      rintro e w1 ⟨rfl, rfl⟩
      rw [HB.out]
      generalize daysI y m d = N at *
      go_wp2
      go_ret2
      exact ⟨rfl, HB0.out⟩
    have e1 : secB y m d h mi s = true := by rw [HS.out]; unfold timeB; rw [decide_eq_true_iff]; omega
    have e2 : secI y m d h mi s = placeI y m d * 86400 + h * 3600 + mi * 60 + s := by unfold secI; rw [if_pos e1]
    rw [e1, e2, ← HP.out]
    clear e1 e2
    go_enter Tryz.func103, Tryz.ntmps103
    go_wp2_with fail
    refine (ref_days_any _ _ _ _).mono ?_
    rintro e w1 ⟨rfl, rfl⟩
    rw [HB.out]
    go_wp2
    go_ret2
    exact ⟨rfl, HB0.out⟩

theorem tmid (n : Int) (h : 0 ≤ n) : n.tmod 3600 = n % 3600 ∧ n.tdiv 3600 = n / 3600 ∧ n.tmod 60 = n % 60 := ⟨Int.tmod_eq_emod_of_nonneg h, Int.tdiv_eq_ediv_of_nonneg h, Int.tmod_eq_emod_of_nonneg h⟩
set_option maxRecDepth 100000 in
set_option maxHeartbeats 1000000 in
theorem ref_date_any (n : Int) (w : World) (h0 : -9223372036854775808 ≤ n) (h1 : n ≤ 9223372036854775807) :
    Calls Tryz.prog 83 #[.int .i64 n] w fun e w' => e = .returned (.tuple #[.agg #[.int .i64 (dayOf (n / 86400)).1, .int .i64 (dayOf (n / 86400)).2.1, .int .i64 (dayOf (n / 86400)).2.2, .int .i64 (dH n), .int .i64 (dM n), .int .i64 (dS n)], .bool (placeB (n / 86400))]) ∧ Below w.heap.size w w' := by
  obtain ⟨q, r, hq, hr, hn, hr1, hr2, hr3⟩ := tdm n
  have hc : (0 ≤ n ∧ r = n % 86400 ∧ q = n / 86400) ∨ (n < 0 ∧ r = 0 ∧ q = n / 86400 ∧ n % 86400 = 0) ∨ (n < 0 ∧ r < 0 ∧ q - 1 = n / 86400 ∧ r + 86400 = n % 86400) := by
    by_cases h : 0 ≤ n
    · have : 0 ≤ r := by rw [← hr]; exact Int.tmod_nonneg _ h
      exact .inl ⟨h, by omega, by omega⟩
    · have := hr3 (by omega)
      by_cases h2 : r = 0
      · exact .inr (.inl ⟨by omega, h2, by omega, by omega⟩)
      · exact .inr (.inr ⟨by omega, by omega, by omega, by omega⟩)
  clear hr3
  have hqb : -106751991167302 ≤ q ∧ q ≤ 106751991167302 := by omega
  have hq1 : -106751991167301 ≤ n / 86400 ∧ n / 86400 ≤ 106751991167301 := by omega
  have hm1 : 0 ≤ n % 86400 ∧ n % 86400 < 86400 := by omega
  have hb0 := (Below.refl w.heap.size w).alloc (Nat.le_refl _) (.cells #[.int .i64 0, .int .i64 0, .int .i64 0, .int .i64 0, .int .i64 0, .int .i64 0] 66)
  have HB0 := Lib.hid hb0
  clear hb0
  cases hp : placeB (n / 86400)
  · have HP := Lib.hid hp
    have eH : dH n = 0 := by unfold dH; rw [hp]; rfl
    have eM : dM n = 0 := by unfold dM; rw [hp]; rfl
    have eS : dS n = 0 := by unfold dS; rw [hp]; rfl
    rw [eH, eM, eS]
    clear hp eH eM eS
    rcases hc with g | g | g
    · obtain ⟨g, g3, g4⟩ := g
      have hr0 : 0 ≤ r := by omega
      have HR := Lib.hid (show n % 86400 / 3600 = r / 3600 ∧ n % 86400 / 60 % 60 = r % 3600 / 60 ∧ n % 60 = r % 60 by omega)
      have G3 := Lib.hid g3
      have G4 := Lib.hid g4
      clear hn hr1 g3 g4
      go_enter Tryz.func83, Tryz.ntmps83
      go_wp2_with fail
      rw [G4.out]
      refine (ref_of_any _ _).mono ?_
      rintro e w1 ⟨rfl, hb1⟩
      rw [HP.out]
      generalize hD : dayOf (n / 86400) = D at *
      have HD := Lib.hid hD
      clear hD
      obtain ⟨hc, hf⟩ := bcell hb1
      have hz : w.heap.size < w1.heap.size := by have := hb1.size; simp at this; omega
      go_wp2
      exact bodyPost_ret (v := .tuple #[.agg #[.int .i64 D.1, .int .i64 D.2.1, .int .i64 D.2.2, .int .i64 (0), .int .i64 (0), .int .i64 (0)], .bool false]) (by simp [results, Tryz.results83, go_sem, hc, hf, hz]) rfl ⟨by rw [HD.out], by refine (fun h => Below.alloc h h.size _) ?_; (iterate 6 (refine below_set ?_ _ _)); exact below_thn HB0.out hb1⟩
    · obtain ⟨g, g2, g3, g4⟩ := g
      have G3 := Lib.hid (show r = n % 86400 by omega)
      have HR := Lib.hid (show n % 86400 / 3600 = 0 ∧ n % 86400 / 60 % 60 = 0 ∧ n % 60 = 0 by omega)
      have G4 := Lib.hid g3
      subst g2
      clear hn hr1 g3 g4
      go_enter Tryz.func83, Tryz.ntmps83
      go_wp2_with fail
      rw [G4.out]
      refine (ref_of_any _ _).mono ?_
      rintro e w1 ⟨rfl, hb1⟩
      rw [HP.out]
      generalize hD : dayOf (n / 86400) = D at *
      have HD := Lib.hid hD
      clear hD
      obtain ⟨hc, hf⟩ := bcell hb1
      have hz : w.heap.size < w1.heap.size := by have := hb1.size; simp at this; omega
      go_wp2
      exact bodyPost_ret (v := .tuple #[.agg #[.int .i64 D.1, .int .i64 D.2.1, .int .i64 D.2.2, .int .i64 (0), .int .i64 (0), .int .i64 (0)], .bool false]) (by simp [results, Tryz.results83, go_sem, hc, hf, hz]) rfl ⟨by rw [HD.out], by refine (fun h => Below.alloc h h.size _) ?_; (iterate 6 (refine below_set ?_ _ _)); exact below_thn HB0.out hb1⟩
    · obtain ⟨g, g2, g3, g4⟩ := g
      have G3 := Lib.hid g4
      have HR := Lib.hid (show n % 86400 / 3600 = (r + 86400) / 3600 ∧ n % 86400 / 60 % 60 = (r + 86400) % 3600 / 60 ∧ n % 60 = (r + 86400) % 60 by omega)
      have G4 := Lib.hid g3
      clear hn g3 g4
      go_enter Tryz.func83, Tryz.ntmps83
      go_wp2_with fail
      rw [G4.out]
      refine (ref_of_any _ _).mono ?_
      rintro e w1 ⟨rfl, hb1⟩
      rw [HP.out]
      generalize hD : dayOf (n / 86400) = D at *
      have HD := Lib.hid hD
      clear hD
      obtain ⟨hc, hf⟩ := bcell hb1
      have hz : w.heap.size < w1.heap.size := by have := hb1.size; simp at this; omega
      go_wp2
      exact bodyPost_ret (v := .tuple #[.agg #[.int .i64 D.1, .int .i64 D.2.1, .int .i64 D.2.2, .int .i64 (0), .int .i64 (0), .int .i64 (0)], .bool false]) (by simp [results, Tryz.results83, go_sem, hc, hf, hz]) rfl ⟨by rw [HD.out], by refine (fun h => Below.alloc h h.size _) ?_; (iterate 6 (refine below_set ?_ _ _)); exact below_thn HB0.out hb1⟩
  · have HP := Lib.hid hp
    have eH : dH n = n % 86400 / 3600 := by unfold dH; rw [hp]; rfl
    have eM : dM n = n % 86400 / 60 % 60 := by unfold dM; rw [hp]; rfl
    have eS : dS n = n % 60 := by unfold dS; rw [hp]; rfl
    rw [eH, eM, eS]
    clear hp eH eM eS
    rcases hc with g | g | g
    · obtain ⟨g, g3, g4⟩ := g
      have hr0 : 0 ≤ r := by omega
      have HR := Lib.hid (show n % 86400 / 3600 = r / 3600 ∧ n % 86400 / 60 % 60 = r % 3600 / 60 ∧ n % 60 = r % 60 by omega)
      have G3 := Lib.hid g3
      have G4 := Lib.hid g4
      clear hn hr1 g3 g4
      go_enter Tryz.func83, Tryz.ntmps83
      go_wp2_with fail
      rw [G4.out]
      refine (ref_of_any _ _).mono ?_
      rintro e w1 ⟨rfl, hb1⟩
      rw [HP.out]
      generalize hD : dayOf (n / 86400) = D at *
      have HD := Lib.hid hD
      clear hD
      obtain ⟨hc, hf⟩ := bcell hb1
      have hz : w.heap.size < w1.heap.size := by have := hb1.size; simp at this; omega
      go_wp2
      exact bodyPost_ret (v := .tuple #[.agg #[.int .i64 D.1, .int .i64 D.2.1, .int .i64 D.2.2, .int .i64 (r / 3600), .int .i64 (r % 3600 / 60), .int .i64 (r % 60)], .bool true]) (by simp [results, Tryz.results83, go_sem, hc, hf, hz]) rfl ⟨by have hr := HR.out; rw [HD.out, hr.1, hr.2.1, hr.2.2], by refine (fun h => Below.alloc h h.size _) ?_; (iterate 6 (refine below_set ?_ _ _)); exact below_thn HB0.out hb1⟩
    · obtain ⟨g, g2, g3, g4⟩ := g
      have G3 := Lib.hid (show r = n % 86400 by omega)
      have HR := Lib.hid (show n % 86400 / 3600 = 0 ∧ n % 86400 / 60 % 60 = 0 ∧ n % 60 = 0 by omega)
      have G4 := Lib.hid g3
      subst g2
      clear hn hr1 g3 g4
      go_enter Tryz.func83, Tryz.ntmps83
      go_wp2_with fail
      rw [G4.out]
      refine (ref_of_any _ _).mono ?_
      rintro e w1 ⟨rfl, hb1⟩
      rw [HP.out]
      generalize hD : dayOf (n / 86400) = D at *
      have HD := Lib.hid hD
      clear hD
      obtain ⟨hc, hf⟩ := bcell hb1
      have hz : w.heap.size < w1.heap.size := by have := hb1.size; simp at this; omega
      go_wp2
      exact bodyPost_ret (v := .tuple #[.agg #[.int .i64 D.1, .int .i64 D.2.1, .int .i64 D.2.2, .int .i64 (0), .int .i64 (0), .int .i64 (0)], .bool true]) (by simp [results, Tryz.results83, go_sem, hc, hf, hz]) rfl ⟨by have hr := HR.out; rw [HD.out, hr.1, hr.2.1, hr.2.2], by refine (fun h => Below.alloc h h.size _) ?_; (iterate 6 (refine below_set ?_ _ _)); exact below_thn HB0.out hb1⟩
    · obtain ⟨g, g2, g3, g4⟩ := g
      have G3 := Lib.hid g4
      have HR := Lib.hid (show n % 86400 / 3600 = (r + 86400) / 3600 ∧ n % 86400 / 60 % 60 = (r + 86400) % 3600 / 60 ∧ n % 60 = (r + 86400) % 60 by omega)
      have G4 := Lib.hid g3
      clear hn g3 g4
      go_enter Tryz.func83, Tryz.ntmps83
      go_wp2_with fail
      rw [G4.out]
      refine (ref_of_any _ _).mono ?_
      rintro e w1 ⟨rfl, hb1⟩
      rw [HP.out]
      generalize hD : dayOf (n / 86400) = D at *
      have HD := Lib.hid hD
      clear hD
      obtain ⟨hc, hf⟩ := bcell hb1
      have hz : w.heap.size < w1.heap.size := by have := hb1.size; simp at this; omega
      go_wp2
      exact bodyPost_ret (v := .tuple #[.agg #[.int .i64 D.1, .int .i64 D.2.1, .int .i64 D.2.2, .int .i64 ((r + 86400) / 3600), .int .i64 ((r + 86400) % 3600 / 60), .int .i64 ((r + 86400) % 60)], .bool true]) (by simp [results, Tryz.results83, go_sem, hc, hf, hz]) rfl ⟨by have hr := HR.out; rw [HD.out, hr.1, hr.2.1, hr.2.2], by refine (fun h => Below.alloc h h.size _) ?_; (iterate 6 (refine below_set ?_ _ _)); exact below_thn HB0.out hb1⟩

end Go.Proofs.YtgamekfickheaaaGreat
