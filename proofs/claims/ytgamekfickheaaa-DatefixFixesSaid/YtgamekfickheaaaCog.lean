/- The calendar (layer 5): the document's own day at a place; the law CivilOf. -/
import Derived.Test.YtgamekfickheaaaCof
namespace Go.Proofs.Ytgamekfickheaaa
open Go.RowKit
set_option linter.unusedVariables false
set_option linter.unusedSimpArgs false

set_option maxRecDepth 100000 in
set_option maxHeartbeats 1000000 in
theorem ref_of_any (n : Int) (w : World) :
    Calls Try.prog 107 #[.int .i64 n] w fun e w' => e = .returned (.tuple #[.agg #[.int .i64 (dayOf n).1, .int .i64 (dayOf n).2.1, .int .i64 (dayOf n).2.2, .int .i64 0, .int .i64 0, .int .i64 0], .bool (placeB n)]) ∧ Below w.heap.size w w' := by
  by_cases hr : -719162 ≤ n ∧ n ≤ 2932896
  · have hb : placeB n = true := by unfold placeB; simpa using hr
    rw [hb]
    have HE := Lib.hid (fun y m d => @dayOf_eq n y m d)
    obtain ⟨hr1, hr2⟩ := hr
    clear hb
    go_enter Try.func107, Try.ntmps107
    go_wp2
    go_loop [0, 4] (fun vd vy => ∃ t r : Int, 1 ≤ t ∧ t ≤ 9999 ∧ vy = .int .i64 t ∧ vd = .int .i64 r ∧ aheadI t + r - 719162 = n ∧ (r < 0 → t ≤ 1970)) (fun _ vy => (intOf vy).toNat)
    case atStart => exact ⟨1970, n, by omega, by omega, rfl, rfl, by rw [aheadI_1970]; omega, fun _ => by omega⟩
    case round =>
      obtain ⟨t, r, ht1, ht2, rfl, rfl, hsum, hneg⟩ := hrel
      have hat := aheadI_range t ht1 (by omega)
      have HSUM := Lib.hid hsum
      have hr3 : -3652059 ≤ r ∧ r ≤ 3652058 := by omega
      clear hsum
      by_cases hlt : r < 0
      · have ht70 := hneg hlt
        have ht2' : 2 ≤ t := by
          rcases Int.lt_or_eq_of_le ht1 with h | h
          · omega
          · have h1 := HSUM.out
            rw [← h, show aheadI 1 = 0 from by decide] at h1
            omega
        have hs := aheadI_succ (t - 1)
        rw [show t - 1 + 1 = t from by omega] at hs
        have hw := wholeI_range (t - 1)
        have HS := Lib.hid hs
        clear hs hneg
        go_wp2_with fail
        refine (ref_whole_any _ _).mono ?_
        rintro e w' ⟨rfl, rfl⟩
        generalize wholeI (t - 1) = W at *
        go_wp2
        go_round
        case rel => exact ⟨t - 1, r + W, by omega, by omega, rfl, rfl, by have h1 := HSUM.out; have h2 := HS.out; omega, fun _ => by omega⟩
        case measure => simp [intOf]; omega
      · have hr0 : 0 ≤ r := by omega
        clear hneg hlt
        go_wp2
        go_loop [0, 4] (fun vd vy => ∃ t r : Int, 1 ≤ t ∧ t ≤ 9999 ∧ vy = .int .i64 t ∧ vd = .int .i64 r ∧ aheadI t + r - 719162 = n ∧ 0 ≤ r) (fun vd _ => (intOf vd).toNat)
        case atStart => exact ⟨t, r, ht1, ht2, rfl, rfl, HSUM.out, hr0⟩
        case round =>
          clear HSUM hr3 hat hr0 ht1 ht2
          obtain ⟨t2, r2, ht1, ht2, rfl, rfl, hsum, hr0⟩ := hrel
          have hat := aheadI_range t2 ht1 (by omega)
          have HSUM := Lib.hid hsum
          have hr3 : r2 ≤ 3652058 := by omega
          have hs := aheadI_succ t2
          have hw := wholeI_range t2
          have HS := Lib.hid hs
          clear hs
          by_cases hge : wholeI t2 ≤ r2
          · have ht9 : t2 < 9999 := by
              have h9 : aheadI 10000 = 3652059 := by decide
              rcases Int.lt_or_eq_of_le ht2 with h | h
              · exact h
              · have h1 := HS.out
                rw [h, show (9999 : Int) + 1 = 10000 from rfl, h9] at h1
                rw [h] at hge hsum
                omega
            clear hsum
            generalize hW : wholeI t2 = W at *
            have HWW := Lib.hid hW
            clear hW
            go_wp2_with fail
            refine (ref_whole_any _ _).mono ?_
            rintro e w' ⟨rfl, rfl⟩
            rw [HWW.out]
            go_wp2_with fail
            refine (ref_whole_any _ _).mono ?_
            rintro e w' ⟨rfl, rfl⟩
            rw [HWW.out]
            go_wp2
            go_round
            case rel => exact ⟨t2 + 1, r2 - W, by omega, by omega, rfl, rfl, by have h1 := HSUM.out; have h2 := HS.out; omega, by omega⟩
            case measure => simp [intOf]; omega
          · have hlt : r2 < wholeI t2 := by omega
            clear hsum hge
            have HPL := Lib.hid (show ∀ m d : Int, placeI t2 m d = aheadI t2 + befI t2 (m - 1).toNat + d - 1 - 719162 from fun _ _ => rfl)
            have HBW := Lib.hid (befI_whole t2)
            have HLT := Lib.hid hlt
            generalize hW : wholeI t2 = W at *
            have HWW := Lib.hid hW
            clear hW
            go_wp2_with fail
            refine (ref_whole_any _ _).mono ?_
            rintro e w' ⟨rfl, rfl⟩
            rw [HWW.out]
            go_wp2
            go_loop [0, 5] (fun vd vm => ∃ k : Nat, k < 12 ∧ vm = .int .i64 ((k : Int) + 1) ∧ vd = .int .i64 (r2 - befI t2 k) ∧ 0 ≤ r2 - befI t2 k) (fun _ vm => (12 - intOf vm).toNat)
            case atStart => exact ⟨0, by omega, rfl, by simp [befI], by simp [befI]; exact hr0⟩
            case round =>
              obtain ⟨k, hk, rfl, rfl, hle⟩ := hrel
              have hbk := befI_range t2 k
              have hlk := longI_range t2 ((k : Int) + 1)
              have HSS := Lib.hid (show befI t2 (k + 1) = befI t2 k + longI t2 ((k : Int) + 1) from rfl)
              by_cases hgo : longI t2 ((k : Int) + 1) ≤ r2 - befI t2 k
              · have hk11 : k < 11 := by
                  by_cases h : k = 11
                  · subst h
                    have h2 := HBW.out
                    have h3 : befI t2 12 = befI t2 11 + longI t2 (((11 : Nat) : Int) + 1) := rfl
                    omega
                  · omega
                generalize hLL : longI t2 ((k : Int) + 1) = L at *
                have HLK := Lib.hid hLL
                generalize befI t2 k = b at *
                clear hLL
                go_wp2_with fail
                refine (ref_long_any _ _ _).mono ?_
                rintro e w' ⟨rfl, rfl⟩
                rw [HLK.out]
                go_wp2_with fail
                refine (ref_long_any _ _ _).mono ?_
                rintro e w' ⟨rfl, rfl⟩
                rw [HLK.out]
                go_wp2
                go_round
                case rel => exact ⟨k + 1, by omega, by go_num, by rw [HSS.out]; congr 1; omega, by rw [HSS.out]; omega⟩
                case measure => simp [intOf]; omega
              · have hday : IsDay t2 ((k : Int) + 1) (r2 - befI t2 k + 1) := ⟨by omega, by omega, by omega, by omega, by omega, by omega⟩
                have hpl := HPL.out ((k : Int) + 1) (r2 - befI t2 k + 1)
                rw [show ((k : Int) + 1 - 1).toNat = k from by omega] at hpl
                have hfin := HE.out _ _ _ hday (by rw [hpl]; have := HSUM.out; omega)
                have HFIN := Lib.hid hfin
                have hgo' : r2 - befI t2 k < longI t2 ((k : Int) + 1) := by omega
                clear hday hpl hfin hgo
                generalize hLL : longI t2 ((k : Int) + 1) = L at *
                have HLK := Lib.hid hLL
                clear hLL
                generalize befI t2 k = b at *
                go_wp2_with fail
                refine (ref_long_any _ _ _).mono ?_
                rintro e w' ⟨rfl, rfl⟩
                rw [HLK.out]
                go_wp2
                exact bodyPost_ret (v := .tuple #[.agg #[.int .i64 t2, .int .i64 ((k : Int) + 1), .int .i64 (r2 - b + 1), .int .i64 0, .int .i64 0, .int .i64 0], .bool true]) (by simp [results, Try.results107, go_sem]) rfl ⟨by rw [HFIN.out.1, HFIN.out.2.1, HFIN.out.2.2], (Below.refl _ _).alloc (Nat.le_refl _) _⟩
  · have hb : placeB n = false := by unfold placeB; simpa using hr
    rw [hb, dayOf_out hr]
    have hr' : n < -719162 ∨ 2932896 < n := by omega
    clear hb hr
    rcases hr' with hr | hr
    all_goals
      go_enter Try.func107, Try.ntmps107
      go_wp2
      exact bodyPost_ret (v := .tuple #[.agg #[.int .i64 0, .int .i64 0, .int .i64 0, .int .i64 0, .int .i64 0, .int .i64 0], .bool false]) (by simp [results, Try.results107, go_sem]) rfl ⟨rfl, (Below.refl _ _).alloc (Nat.le_refl _) _⟩

end Go.Proofs.Ytgamekfickheaaa
