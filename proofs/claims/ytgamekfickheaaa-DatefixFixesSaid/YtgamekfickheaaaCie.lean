/- The calendar (layer 5): the document's seconds and dates; the law CivilSeconds. -/
import Derived.Test.YtgamekfickheaaaCiu
namespace Go.Proofs.Ytgamekfickheaaa
open Go.RowKit
set_option linter.unusedVariables false
set_option linter.unusedSimpArgs false

set_option maxRecDepth 100000 in
set_option maxHeartbeats 1000000 in
theorem ref_seconds_any (y m d h mi s : Int) (w : World) :
    Calls Try.prog 66 #[.agg #[.int .i64 y, .int .i64 m, .int .i64 d, .int .i64 h, .int .i64 mi, .int .i64 s]] w fun e w' => e = .returned (.tuple #[.int .i64 (secI y m d h mi s), .bool (secB y m d h mi s)]) ∧ Below w.heap.size w w' := by
  have hdr := daysI_range y m d
  have hb0 := (Below.refl w.heap.size w).alloc (Nat.le_refl _) (.cells #[.int .i64 y, .int .i64 m, .int .i64 d, .int .i64 h, .int .i64 mi, .int .i64 s] 98)
  have HB0 := Lib.hid hb0
  clear hb0
  cases hB : dayB y m d
  · have e1 : secB y m d h mi s = false := by unfold secB; rw [hB]; rfl
    have e2 : secI y m d h mi s = 0 := by unfold secI; rw [e1]; rfl
    rw [e1, e2]
    have HB := Lib.hid hB
    clear e1 e2 hB
    go_enter Try.func66, Try.ntmps66
    go_wp2_with fail
    refine (ref_days_any _ _ _ _).mono ?_
    rintro e w1 ⟨rfl, rfl⟩
    rw [HB.out]
    generalize daysI y m d = N at *
    go_wp2
    go_ret2
    exact ⟨rfl, HB0.out⟩
  · have hp : daysI y m d = placeI y m d := by unfold daysI; rw [if_pos hB]
    have HP := Lib.hid hp
    have HB := Lib.hid hB
    have HS := Lib.hid (show secB y m d h mi s = timeB h mi s from by unfold secB; rw [hB]; rfl)
    clear hp hB
    by_cases g0 : h < 0
    · have e1 : secB y m d h mi s = false := by rw [HS.out]; unfold timeB; rw [decide_eq_false_iff_not]; omega
      have e2 : secI y m d h mi s = 0 := by unfold secI; rw [e1]; rfl
      rw [e1, e2]
      clear e1 e2
      go_enter Try.func66, Try.ntmps66
      go_wp2_with fail
      refine (ref_days_any _ _ _ _).mono ?_
      rintro e w1 ⟨rfl, rfl⟩
      rw [HB.out]
      generalize daysI y m d = N at *
      go_wp2
      go_ret2
      exact ⟨rfl, HB0.out⟩
    by_cases g1 : 23 < h
    · have e1 : secB y m d h mi s = false := by rw [HS.out]; unfold timeB; rw [decide_eq_false_iff_not]; omega
      have e2 : secI y m d h mi s = 0 := by unfold secI; rw [e1]; rfl
      rw [e1, e2]
      clear e1 e2
      go_enter Try.func66, Try.ntmps66
      go_wp2_with fail
      refine (ref_days_any _ _ _ _).mono ?_
      rintro e w1 ⟨rfl, rfl⟩
      rw [HB.out]
      generalize daysI y m d = N at *
      go_wp2
      go_ret2
      exact ⟨rfl, HB0.out⟩
    by_cases g2 : mi < 0
    · have e1 : secB y m d h mi s = false := by rw [HS.out]; unfold timeB; rw [decide_eq_false_iff_not]; omega
      have e2 : secI y m d h mi s = 0 := by unfold secI; rw [e1]; rfl
      rw [e1, e2]
      clear e1 e2
      go_enter Try.func66, Try.ntmps66
      go_wp2_with fail
      refine (ref_days_any _ _ _ _).mono ?_
      rintro e w1 ⟨rfl, rfl⟩
      rw [HB.out]
      generalize daysI y m d = N at *
      go_wp2
      go_ret2
      exact ⟨rfl, HB0.out⟩
    by_cases g3 : 59 < mi
    · have e1 : secB y m d h mi s = false := by rw [HS.out]; unfold timeB; rw [decide_eq_false_iff_not]; omega
      have e2 : secI y m d h mi s = 0 := by unfold secI; rw [e1]; rfl
      rw [e1, e2]
      clear e1 e2
      go_enter Try.func66, Try.ntmps66
      go_wp2_with fail
      refine (ref_days_any _ _ _ _).mono ?_
      rintro e w1 ⟨rfl, rfl⟩
      rw [HB.out]
      generalize daysI y m d = N at *
      go_wp2
      go_ret2
      exact ⟨rfl, HB0.out⟩
    by_cases g4 : s < 0
    · have e1 : secB y m d h mi s = false := by rw [HS.out]; unfold timeB; rw [decide_eq_false_iff_not]; omega
      have e2 : secI y m d h mi s = 0 := by unfold secI; rw [e1]; rfl
      rw [e1, e2]
      clear e1 e2
      go_enter Try.func66, Try.ntmps66
      go_wp2_with fail
      refine (ref_days_any _ _ _ _).mono ?_
      rintro e w1 ⟨rfl, rfl⟩
      rw [HB.out]
      generalize daysI y m d = N at *
      go_wp2
      go_ret2
      exact ⟨rfl, HB0.out⟩
    by_cases g5 : 59 < s
    · have e1 : secB y m d h mi s = false := by rw [HS.out]; unfold timeB; rw [decide_eq_false_iff_not]; omega
      have e2 : secI y m d h mi s = 0 := by unfold secI; rw [e1]; rfl
      rw [e1, e2]
      clear e1 e2
      go_enter Try.func66, Try.ntmps66
      go_wp2_with fail
      refine (ref_days_any _ _ _ _).mono ?_
      rintro e w1 ⟨rfl, rfl⟩
      rw [HB.out]
      generalize daysI y m d = N at *
      go_wp2
      go_ret2
      exact ⟨rfl, HB0.out⟩
    have e1 : secB y m d h mi s = true := by rw [HS.out]; unfold timeB; rw [decide_eq_true_iff]; omega
    have e2 : secI y m d h mi s = placeI y m d * 86400 + h * 3600 + mi * 60 + s := by unfold secI; rw [if_pos e1]
    rw [e1, e2, ← HP.out]
    clear e1 e2
    go_enter Try.func66, Try.ntmps66
    go_wp2_with fail
    refine (ref_days_any _ _ _ _).mono ?_
    rintro e w1 ⟨rfl, rfl⟩
    rw [HB.out]
    go_wp2
    go_ret2
    exact ⟨rfl, HB0.out⟩

theorem tmid (n : Int) (h : 0 ≤ n) : n.tmod 3600 = n % 3600 ∧ n.tdiv 3600 = n / 3600 ∧ n.tmod 60 = n % 60 := ⟨Int.tmod_eq_emod_of_nonneg h, Int.tdiv_eq_ediv_of_nonneg h, Int.tmod_eq_emod_of_nonneg h⟩
set_option maxRecDepth 100000 in
set_option maxHeartbeats 1000000 in
theorem ref_date_any (n : Int) (w : World) (h0 : -9223372036854775808 ≤ n) (h1 : n ≤ 9223372036854775807) :
    Calls Try.prog 64 #[.int .i64 n] w fun e w' => e = .returned (.tuple #[.agg #[.int .i64 (dayOf (n / 86400)).1, .int .i64 (dayOf (n / 86400)).2.1, .int .i64 (dayOf (n / 86400)).2.2, .int .i64 (dH n), .int .i64 (dM n), .int .i64 (dS n)], .bool (placeB (n / 86400))]) ∧ Below w.heap.size w w' := by
  obtain ⟨q, r, hq, hr, hn, hr1, hr2, hr3⟩ := tdm n
  have hc : (0 ≤ n ∧ r = n % 86400 ∧ q = n / 86400) ∨ (n < 0 ∧ r = 0 ∧ q = n / 86400 ∧ n % 86400 = 0) ∨ (n < 0 ∧ r < 0 ∧ q - 1 = n / 86400 ∧ r + 86400 = n % 86400) := by
    by_cases h : 0 ≤ n
    · have : 0 ≤ r := by rw [← hr]; exact Int.tmod_nonneg _ h
      exact .inl ⟨h, by omega, by omega⟩
    · have := hr3 (by omega)
      by_cases h2 : r = 0
      · exact .inr (.inl ⟨by omega, h2, by omega, by omega⟩)
      · exact .inr (.inr ⟨by omega, by omega, by omega, by omega⟩)
  clear hr3
  have hqb : -106751991167302 ≤ q ∧ q ≤ 106751991167302 := by omega
  have hq1 : -106751991167301 ≤ n / 86400 ∧ n / 86400 ≤ 106751991167301 := by omega
  have hm1 : 0 ≤ n % 86400 ∧ n % 86400 < 86400 := by omega
  have hb0 := (Below.refl w.heap.size w).alloc (Nat.le_refl _) (.cells #[.int .i64 0, .int .i64 0, .int .i64 0, .int .i64 0, .int .i64 0, .int .i64 0] 98)
  have HB0 := Lib.hid hb0
  clear hb0
  cases hp : placeB (n / 86400)
  · have HP := Lib.hid hp
    have eH : dH n = 0 := by unfold dH; rw [hp]; rfl
    have eM : dM n = 0 := by unfold dM; rw [hp]; rfl
    have eS : dS n = 0 := by unfold dS; rw [hp]; rfl
    rw [eH, eM, eS]
    clear hp eH eM eS
    rcases hc with g | g | g
    · obtain ⟨g, g3, g4⟩ := g
      have hr0 : 0 ≤ r := by omega
      have HR := Lib.hid (show n % 86400 / 3600 = r / 3600 ∧ n % 86400 / 60 % 60 = r % 3600 / 60 ∧ n % 60 = r % 60 by omega)
      have G3 := Lib.hid g3
      have G4 := Lib.hid g4
      clear hn hr1 g3 g4
      go_enter Try.func64, Try.ntmps64
      go_wp2_with fail
      rw [G4.out]
      refine (ref_of_any _ _).mono ?_
      rintro e w1 ⟨rfl, hb1⟩
      rw [HP.out]
      generalize hD : dayOf (n / 86400) = D at *
      have HD := Lib.hid hD
      clear hD
      obtain ⟨hc, hf⟩ := bcell hb1
      have hz : w.heap.size < w1.heap.size := by have := hb1.size; simp at this; omega
      go_wp2
      exact bodyPost_ret (v := .tuple #[.agg #[.int .i64 D.1, .int .i64 D.2.1, .int .i64 D.2.2, .int .i64 (0), .int .i64 (0), .int .i64 (0)], .bool false]) (by simp [results, Try.results64, go_sem, hc, hf, hz]) rfl ⟨by rw [HD.out], by refine (fun h => Below.alloc h h.size _) ?_; (iterate 6 (refine below_set ?_ _ _)); exact below_thn HB0.out hb1⟩
    · obtain ⟨g, g2, g3, g4⟩ := g
      have G3 := Lib.hid (show r = n % 86400 by omega)
      have HR := Lib.hid (show n % 86400 / 3600 = 0 ∧ n % 86400 / 60 % 60 = 0 ∧ n % 60 = 0 by omega)
      have G4 := Lib.hid g3
      subst g2
      clear hn hr1 g3 g4
      go_enter Try.func64, Try.ntmps64
      go_wp2_with fail
      rw [G4.out]
      refine (ref_of_any _ _).mono ?_
      rintro e w1 ⟨rfl, hb1⟩
      rw [HP.out]
      generalize hD : dayOf (n / 86400) = D at *
      have HD := Lib.hid hD
      clear hD
      obtain ⟨hc, hf⟩ := bcell hb1
      have hz : w.heap.size < w1.heap.size := by have := hb1.size; simp at this; omega
      go_wp2
      exact bodyPost_ret (v := .tuple #[.agg #[.int .i64 D.1, .int .i64 D.2.1, .int .i64 D.2.2, .int .i64 (0), .int .i64 (0), .int .i64 (0)], .bool false]) (by simp [results, Try.results64, go_sem, hc, hf, hz]) rfl ⟨by rw [HD.out], by refine (fun h => Below.alloc h h.size _) ?_; (iterate 6 (refine below_set ?_ _ _)); exact below_thn HB0.out hb1⟩
    · obtain ⟨g, g2, g3, g4⟩ := g
      have G3 := Lib.hid g4
      have HR := Lib.hid (show n % 86400 / 3600 = (r + 86400) / 3600 ∧ n % 86400 / 60 % 60 = (r + 86400) % 3600 / 60 ∧ n % 60 = (r + 86400) % 60 by omega)
      have G4 := Lib.hid g3
      clear hn g3 g4
      go_enter Try.func64, Try.ntmps64
      go_wp2_with fail
      rw [G4.out]
      refine (ref_of_any _ _).mono ?_
      rintro e w1 ⟨rfl, hb1⟩
      rw [HP.out]
      generalize hD : dayOf (n / 86400) = D at *
      have HD := Lib.hid hD
      clear hD
      obtain ⟨hc, hf⟩ := bcell hb1
      have hz : w.heap.size < w1.heap.size := by have := hb1.size; simp at this; omega
      go_wp2
      exact bodyPost_ret (v := .tuple #[.agg #[.int .i64 D.1, .int .i64 D.2.1, .int .i64 D.2.2, .int .i64 (0), .int .i64 (0), .int .i64 (0)], .bool false]) (by simp [results, Try.results64, go_sem, hc, hf, hz]) rfl ⟨by rw [HD.out], by refine (fun h => Below.alloc h h.size _) ?_; (iterate 6 (refine below_set ?_ _ _)); exact below_thn HB0.out hb1⟩
  · have HP := Lib.hid hp
    have eH : dH n = n % 86400 / 3600 := by unfold dH; rw [hp]; rfl
    have eM : dM n = n % 86400 / 60 % 60 := by unfold dM; rw [hp]; rfl
    have eS : dS n = n % 60 := by unfold dS; rw [hp]; rfl
    rw [eH, eM, eS]
    clear hp eH eM eS
    rcases hc with g | g | g
    · obtain ⟨g, g3, g4⟩ := g
      have hr0 : 0 ≤ r := by omega
      have HR := Lib.hid (show n % 86400 / 3600 = r / 3600 ∧ n % 86400 / 60 % 60 = r % 3600 / 60 ∧ n % 60 = r % 60 by omega)
      have G3 := Lib.hid g3
      have G4 := Lib.hid g4
      clear hn hr1 g3 g4
      go_enter Try.func64, Try.ntmps64
      go_wp2_with fail
      rw [G4.out]
      refine (ref_of_any _ _).mono ?_
      rintro e w1 ⟨rfl, hb1⟩
      rw [HP.out]
      generalize hD : dayOf (n / 86400) = D at *
      have HD := Lib.hid hD
      clear hD
      obtain ⟨hc, hf⟩ := bcell hb1
      have hz : w.heap.size < w1.heap.size := by have := hb1.size; simp at this; omega
      go_wp2
      exact bodyPost_ret (v := .tuple #[.agg #[.int .i64 D.1, .int .i64 D.2.1, .int .i64 D.2.2, .int .i64 (r / 3600), .int .i64 (r % 3600 / 60), .int .i64 (r % 60)], .bool true]) (by simp [results, Try.results64, go_sem, hc, hf, hz]) rfl ⟨by have hr := HR.out; rw [HD.out, hr.1, hr.2.1, hr.2.2], by refine (fun h => Below.alloc h h.size _) ?_; (iterate 6 (refine below_set ?_ _ _)); exact below_thn HB0.out hb1⟩
    · obtain ⟨g, g2, g3, g4⟩ := g
      have G3 := Lib.hid (show r = n % 86400 by omega)
      have HR := Lib.hid (show n % 86400 / 3600 = 0 ∧ n % 86400 / 60 % 60 = 0 ∧ n % 60 = 0 by omega)
      have G4 := Lib.hid g3
      subst g2
      clear hn hr1 g3 g4
      go_enter Try.func64, Try.ntmps64
      go_wp2_with fail
      rw [G4.out]
      refine (ref_of_any _ _).mono ?_
      rintro e w1 ⟨rfl, hb1⟩
      rw [HP.out]
      generalize hD : dayOf (n / 86400) = D at *
      have HD := Lib.hid hD
      clear hD
      obtain ⟨hc, hf⟩ := bcell hb1
      have hz : w.heap.size < w1.heap.size := by have := hb1.size; simp at this; omega
      go_wp2
      exact bodyPost_ret (v := .tuple #[.agg #[.int .i64 D.1, .int .i64 D.2.1, .int .i64 D.2.2, .int .i64 (0), .int .i64 (0), .int .i64 (0)], .bool true]) (by simp [results, Try.results64, go_sem, hc, hf, hz]) rfl ⟨by have hr := HR.out; rw [HD.out, hr.1, hr.2.1, hr.2.2], by refine (fun h => Below.alloc h h.size _) ?_; (iterate 6 (refine below_set ?_ _ _)); exact below_thn HB0.out hb1⟩
    · obtain ⟨g, g2, g3, g4⟩ := g
      have G3 := Lib.hid g4
      have HR := Lib.hid (show n % 86400 / 3600 = (r + 86400) / 3600 ∧ n % 86400 / 60 % 60 = (r + 86400) % 3600 / 60 ∧ n % 60 = (r + 86400) % 60 by omega)
      have G4 := Lib.hid g3
      clear hn g3 g4
      go_enter Try.func64, Try.ntmps64
      go_wp2_with fail
      rw [G4.out]
      refine (ref_of_any _ _).mono ?_
      rintro e w1 ⟨rfl, hb1⟩
      rw [HP.out]
      generalize hD : dayOf (n / 86400) = D at *
      have HD := Lib.hid hD
      clear hD
      obtain ⟨hc, hf⟩ := bcell hb1
      have hz : w.heap.size < w1.heap.size := by have := hb1.size; simp at this; omega
      go_wp2
      exact bodyPost_ret (v := .tuple #[.agg #[.int .i64 D.1, .int .i64 D.2.1, .int .i64 D.2.2, .int .i64 ((r + 86400) / 3600), .int .i64 ((r + 86400) % 3600 / 60), .int .i64 ((r + 86400) % 60)], .bool true]) (by simp [results, Try.results64, go_sem, hc, hf, hz]) rfl ⟨by have hr := HR.out; rw [HD.out, hr.1, hr.2.1, hr.2.2], by refine (fun h => Below.alloc h h.size _) ?_; (iterate 6 (refine below_set ?_ _ _)); exact below_thn HB0.out hb1⟩

end Go.Proofs.Ytgamekfickheaaa
