/- The calendar (layer 5): dates of seconds; the law CivilNext. -/
import Derived.Test.YtgamekfickheaaaCis
namespace Go.Proofs.Ytgamekfickheaaa
open Go.RowKit
set_option linter.unusedVariables false
set_option linter.unusedSimpArgs false

theorem tdm (n : Int) : ∃ q r : Int, n.tdiv 86400 = q ∧ n.tmod 86400 = r ∧ n = 86400 * q + r ∧ -86400 < r ∧ r < 86400 ∧ (n < 0 → r ≤ 0) := by
  refine ⟨_, _, rfl, rfl, ?_, Int.lt_tmod_of_pos _ (by omega), Int.tmod_lt_of_pos _ (by omega), fun h => ?_⟩
  · have := Int.tmod_add_mul_tdiv n 86400; omega
  · have h2 := Int.neg_tmod (a := n) (b := 86400)
    have h3 := Int.tmod_nonneg (a := -n) 86400 (by omega)
    omega

theorem below_set {B : Nat} {a w : World} (h : Below B a w) (o : Nat) (v : Value) : Below B a (w.setCell ⟨B, o, none⟩ v) := h.setCell (Nat.le_refl _) v

/-- The date of so many seconds. -/
noncomputable def dateV (n : Int) : Value := .agg #[.int .i64 (dayOf (n / 86400)).1, .int .i64 (dayOf (n / 86400)).2.1, .int .i64 (dayOf (n / 86400)).2.2, .int .i64 (n % 86400 / 3600), .int .i64 (n % 86400 / 60 % 60), .int .i64 (n % 86400 % 60)]
def zeroV : Value := .agg #[.int .i64 0, .int .i64 0, .int .i64 0, .int .i64 0, .int .i64 0, .int .i64 0]
noncomputable def dateR (n : Int) : Value := if placeB (n / 86400) then dateV n else zeroV

set_option maxRecDepth 100000 in
set_option maxHeartbeats 1000000 in
theorem date_any (n : Int) (w : World) (h0 : -9223372036854775808 ≤ n) (h1 : n ≤ 9223372036854775807) :
    Calls Try.prog 59 #[.int .i64 n] w fun e w' => e = .returned (.tuple #[dateR n, .bool (placeB (n / 86400))]) ∧ Below w.heap.size w w' := by
  obtain ⟨q, r, hq, hr, hn, hr1, hr2, hr3⟩ := tdm n
  have hc : (0 ≤ n) ∨ (n < 0 ∧ r = 0 ∧ q = n / 86400 ∧ n % 86400 = 0) ∨ (n < 0 ∧ r < 0 ∧ q - 1 = n / 86400 ∧ r + 86400 = n % 86400) := by
    by_cases h : 0 ≤ n
    · exact .inl h
    · have := hr3 (by omega)
      by_cases h2 : r = 0
      · exact .inr (.inl ⟨by omega, h2, by omega, by omega⟩)
      · exact .inr (.inr ⟨by omega, by omega, by omega, by omega⟩)
  clear hr3
  have hqb : -106751991167302 ≤ q ∧ q ≤ 106751991167302 := by omega
  have hq1 : -106751991167301 ≤ n / 86400 ∧ n / 86400 ≤ 106751991167301 := by omega
  have hm1 : 0 ≤ n % 86400 ∧ n % 86400 < 86400 := by omega
  have hb0 := (Below.refl w.heap.size w).alloc (Nat.le_refl _) (.cells #[.int .i64 0, .int .i64 0, .int .i64 0, .int .i64 0, .int .i64 0, .int .i64 0] 98)
  have HB0 := Lib.hid hb0
  clear hb0
  cases hp : placeB (n / 86400)
  · have hR : dateR n = zeroV := by unfold dateR; rw [hp]; rfl
    rw [hR]
    have HP := Lib.hid hp
    clear hp hR
    rcases hc with g | ⟨g, g2, g3, g4⟩ | ⟨g, g2, g3, g4⟩
    · clear hq hr hn hr1 hr2
      go_enter Try.func59, Try.ntmps59
      go_wp2_with fail
      refine (of_any _ _ (by omega) (by omega)).mono ?_
      rintro e w1 ⟨rfl, hb1⟩
      rw [HP.out]
      generalize dayOf (n / 86400) = D at *
      obtain ⟨hc, hf⟩ := bcell hb1
      have hz : w.heap.size < w1.heap.size := by have := hb1.size; simp at this; omega
      go_wp2
      exact bodyPost_ret (v := .tuple #[zeroV, .bool false]) (by simp [results, Try.results59, go_sem, hc, hf, hz]; rfl) rfl ⟨rfl, by (iterate 6 (refine below_set ?_ _ _)); exact below_thn HB0.out hb1⟩
    · subst g2 g3
      have G4 := Lib.hid g4
      clear hn hr1 hr2 g4
      go_enter Try.func59, Try.ntmps59
      go_wp2_with fail
      refine (of_any _ _ (by omega) (by omega)).mono ?_
      rintro e w1 ⟨rfl, hb1⟩
      rw [HP.out]
      generalize dayOf (n / 86400) = D at *
      obtain ⟨hc, hf⟩ := bcell hb1
      have hz : w.heap.size < w1.heap.size := by have := hb1.size; simp at this; omega
      go_wp2
      exact bodyPost_ret (v := .tuple #[zeroV, .bool false]) (by simp [results, Try.results59, go_sem, hc, hf, hz]; rfl) rfl ⟨rfl, by (iterate 6 (refine below_set ?_ _ _)); exact below_thn HB0.out hb1⟩
    · have G3 := Lib.hid g3
      have G4 := Lib.hid g4
      clear hn g3 g4
      go_enter Try.func59, Try.ntmps59
      go_wp2_with fail
      rw [G3.out]
      refine (of_any _ _ (by omega) (by omega)).mono ?_
      rintro e w1 ⟨rfl, hb1⟩
      rw [HP.out]
      generalize dayOf (n / 86400) = D at *
      obtain ⟨hc, hf⟩ := bcell hb1
      have hz : w.heap.size < w1.heap.size := by have := hb1.size; simp at this; omega
      go_wp2
      exact bodyPost_ret (v := .tuple #[zeroV, .bool false]) (by simp [results, Try.results59, go_sem, hc, hf, hz]; rfl) rfl ⟨rfl, by (iterate 6 (refine below_set ?_ _ _)); exact below_thn HB0.out hb1⟩
  · have hR : dateR n = dateV n := by unfold dateR; rw [if_pos hp]
    rw [hR]
    have HP := Lib.hid hp
    clear hp hR
    rcases hc with g | ⟨g, g2, g3, g4⟩ | ⟨g, g2, g3, g4⟩
    · clear hq hr hn hr1 hr2
      go_enter Try.func59, Try.ntmps59
      go_wp2_with fail
      refine (of_any _ _ (by omega) (by omega)).mono ?_
      rintro e w1 ⟨rfl, hb1⟩
      rw [HP.out]
      have HD := Lib.hid (show dateV n = .agg #[.int .i64 (dayOf (n / 86400)).1, .int .i64 (dayOf (n / 86400)).2.1, .int .i64 (dayOf (n / 86400)).2.2, .int .i64 (n % 86400 / 3600), .int .i64 (n % 86400 / 60 % 60), .int .i64 (n % 86400 % 60)] from rfl)
      generalize dayOf (n / 86400) = D at *
      obtain ⟨hc, hf⟩ := bcell hb1
      have hz : w.heap.size < w1.heap.size := by have := hb1.size; simp at this; omega
      go_wp2
      exact bodyPost_ret (v := .tuple #[.agg #[.int .i64 D.1, .int .i64 D.2.1, .int .i64 D.2.2, .int .i64 ((n % 86400) / 3600), .int .i64 ((n % 86400) / 60 % 60), .int .i64 ((n % 86400) % 60)], .bool true]) (by simp [results, Try.results59, go_sem, hc, hf, hz]) rfl ⟨by rw [HD.out], by (iterate 6 (refine below_set ?_ _ _)); exact below_thn HB0.out hb1⟩
    · subst g2 g3
      have G4 := Lib.hid g4
      clear hn hr1 hr2 g4
      go_enter Try.func59, Try.ntmps59
      go_wp2_with fail
      refine (of_any _ _ (by omega) (by omega)).mono ?_
      rintro e w1 ⟨rfl, hb1⟩
      rw [HP.out]
      have HD := Lib.hid (show dateV n = .agg #[.int .i64 (dayOf (n / 86400)).1, .int .i64 (dayOf (n / 86400)).2.1, .int .i64 (dayOf (n / 86400)).2.2, .int .i64 (n % 86400 / 3600), .int .i64 (n % 86400 / 60 % 60), .int .i64 (n % 86400 % 60)] from rfl)
      generalize dayOf (n / 86400) = D at *
      obtain ⟨hc, hf⟩ := bcell hb1
      have hz : w.heap.size < w1.heap.size := by have := hb1.size; simp at this; omega
      go_wp2
      exact bodyPost_ret (v := .tuple #[.agg #[.int .i64 D.1, .int .i64 D.2.1, .int .i64 D.2.2, .int .i64 ((0 : Int) / 3600), .int .i64 ((0 : Int) / 60 % 60), .int .i64 ((0 : Int) % 60)], .bool true]) (by simp [results, Try.results59, go_sem, hc, hf, hz]) rfl ⟨by rw [HD.out, G4.out], by (iterate 6 (refine below_set ?_ _ _)); exact below_thn HB0.out hb1⟩
    · have G3 := Lib.hid g3
      have G4 := Lib.hid g4
      clear hn g3 g4
      go_enter Try.func59, Try.ntmps59
      go_wp2_with fail
      rw [G3.out]
      refine (of_any _ _ (by omega) (by omega)).mono ?_
      rintro e w1 ⟨rfl, hb1⟩
      rw [HP.out]
      have HD := Lib.hid (show dateV n = .agg #[.int .i64 (dayOf (n / 86400)).1, .int .i64 (dayOf (n / 86400)).2.1, .int .i64 (dayOf (n / 86400)).2.2, .int .i64 (n % 86400 / 3600), .int .i64 (n % 86400 / 60 % 60), .int .i64 (n % 86400 % 60)] from rfl)
      generalize dayOf (n / 86400) = D at *
      obtain ⟨hc, hf⟩ := bcell hb1
      have hz : w.heap.size < w1.heap.size := by have := hb1.size; simp at this; omega
      go_wp2
      exact bodyPost_ret (v := .tuple #[.agg #[.int .i64 D.1, .int .i64 D.2.1, .int .i64 D.2.2, .int .i64 ((r + 86400) / 3600), .int .i64 ((r + 86400) / 60 % 60), .int .i64 ((r + 86400) % 60)], .bool true]) (by simp [results, Try.results59, go_sem, hc, hf, hz]) rfl ⟨by rw [HD.out, ← G4.out], by (iterate 6 (refine below_set ?_ _ _)); exact below_thn HB0.out hb1⟩
end Go.Proofs.Ytgamekfickheaaa
