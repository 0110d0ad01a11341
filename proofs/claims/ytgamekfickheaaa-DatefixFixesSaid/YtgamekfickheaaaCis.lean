/- The calendar (layer 5): seconds and dates. -/
import Derived.Test.YtgamekfickheaaaCog
namespace Go.Proofs.Ytgamekfickheaaa
open Go.RowKit
set_option linter.unusedVariables false
set_option linter.unusedSimpArgs false

theorem bcell {W w1 : World} (hb : Below W.heap.size W w1) : (∀ b o, b < W.heap.size → w1.cell? ⟨b, o, none⟩ = W.cell? ⟨b, o, none⟩) ∧ (∀ b o, b < W.heap.size → w1.frozen? ⟨b, o, none⟩ = W.frozen? ⟨b, o, none⟩) :=
  ⟨fun b o h => hb.cell (p := ⟨b, o, none⟩) h, fun b o h => hb.frozen (p := ⟨b, o, none⟩) h⟩

def timeB (h mi s : Int) : Bool := decide (0 ≤ h ∧ h ≤ 23 ∧ 0 ≤ mi ∧ mi ≤ 59 ∧ 0 ≤ s ∧ s ≤ 59)
def secB (y m d h mi s : Int) : Bool := dayB y m d && timeB h mi s
def secI (y m d h mi s : Int) : Int := if secB y m d h mi s then placeI y m d * 86400 + h * 3600 + mi * 60 + s else 0

theorem daysI_range (y m d : Int) : -719162 ≤ daysI y m d ∧ daysI y m d ≤ 2932896 := by
  unfold daysI
  split
  · rename_i h; exact place_range ((dayB_iff y m d).1 h)
  · omega

theorem time_cases (h mi s : Int) : (¬ (0 ≤ h ∧ h ≤ 23) ∧ timeB h mi s = false) ∨ ((0 ≤ h ∧ h ≤ 23) ∧ ¬ (0 ≤ mi ∧ mi ≤ 59) ∧ timeB h mi s = false) ∨
    ((0 ≤ h ∧ h ≤ 23) ∧ (0 ≤ mi ∧ mi ≤ 59) ∧ ¬ (0 ≤ s ∧ s ≤ 59) ∧ timeB h mi s = false) ∨ ((0 ≤ h ∧ h ≤ 23) ∧ (0 ≤ mi ∧ mi ≤ 59) ∧ (0 ≤ s ∧ s ≤ 59) ∧ timeB h mi s = true) := by
  unfold timeB
  simp only [decide_eq_false_iff_not, decide_eq_true_eq]
  omega

set_option maxHeartbeats 400000 in
theorem within2_any (n b : Int) (w : World) :
    Calls Try.prog 105 #[.int .i64 n, .int .i64 b] w fun e w' => e = .returned (.bool (decide (0 ≤ n) && decide (n ≤ b))) ∧ w = w' := by
  by_cases h1 : 0 ≤ n
  · by_cases h2 : n ≤ b
    all_goals
      go_enter Try.func105, Try.ntmps105
      go_wp2
      go_ret
      exact ⟨bret (by simp; omega), rfl⟩
  · have h1' : n < 0 := by omega
    have hd : decide (0 ≤ n) = false := by simp; omega
    go_enter Try.func105, Try.ntmps105
    go_wp2
    go_ret
    exact ⟨bret (by first | rfl | (rw [hd]; rfl)), rfl⟩

set_option maxHeartbeats 1000000 in
theorem seconds_any (y m d h mi s : Int) (w : World) :
    Calls Try.prog 62 #[.agg #[.int .i64 y, .int .i64 m, .int .i64 d, .int .i64 h, .int .i64 mi, .int .i64 s]] w fun e w' => e = .returned (.tuple #[.int .i64 (secI y m d h mi s), .bool (secB y m d h mi s)]) ∧ Below w.heap.size w w' := by
  have hdr := daysI_range y m d
  cases hB : dayB y m d
  · have e1 : secB y m d h mi s = false := by unfold secB; rw [hB]; rfl
    have e2 : secI y m d h mi s = 0 := by unfold secI; rw [e1]; rfl
    rw [e1, e2]
    have HB := Lib.hid hB
    clear e1 e2 hB
    go_enter Try.func62, Try.ntmps62
    go_wp2_with fail
    refine (days_any _ _ _ _).mono ?_
    rintro e w1 ⟨rfl, hb1⟩
    rw [HB.out]
    generalize daysI y m d = N at *
    go_wp2
    go_ret2
    have hb0 := (Below.refl w.heap.size w).alloc (Nat.le_refl _) (.cells #[.int .i64 y, .int .i64 m, .int .i64 d, .int .i64 h, .int .i64 mi, .int .i64 s] 98)
    exact ⟨rfl, below_thn hb0 hb1⟩
  · have hp : daysI y m d = placeI y m d := by unfold daysI; rw [if_pos hB]
    have hb0 := (Below.refl w.heap.size w).alloc (Nat.le_refl _) (.cells #[.int .i64 y, .int .i64 m, .int .i64 d, .int .i64 h, .int .i64 mi, .int .i64 s] 98)
    have HB0 := Lib.hid hb0
    clear hb0
    have HP := Lib.hid hp
    have HB := Lib.hid hB
    have e1 : secB y m d h mi s = timeB h mi s := by unfold secB; rw [hB]; rfl
    clear hp
    rcases time_cases h mi s with ⟨g, e⟩ | ⟨g, g2, e⟩ | ⟨g, g2, g3, e⟩ | ⟨g, g2, g3, e⟩
    · rw [e] at e1
      have e2 : secI y m d h mi s = 0 := by unfold secI; rw [e1]; rfl
      rw [e1, e2]
      have X := Lib.hid (in_no g)
      clear e1 e2 e g hB
      go_enter Try.func62, Try.ntmps62
      go_wp2_with fail
      refine (days_any _ _ _ _).mono ?_
      rintro e w1 ⟨rfl, hb1⟩
      rw [HB.out]
      generalize daysI y m d = N at *
      obtain ⟨hc, hf⟩ := bcell hb1
      go_wp2_with fail
      refine (within2_any _ _ _).mono ?_
      rintro e w' ⟨rfl, rfl⟩
      rw [X.out]
      go_wp2
      go_ret2
      exact ⟨rfl, below_thn HB0.out hb1⟩
    · rw [e] at e1
      have e2 : secI y m d h mi s = 0 := by unfold secI; rw [e1]; rfl
      rw [e1, e2]
      have X := Lib.hid (in_yes g.1 g.2)
      have X2 := Lib.hid (in_no g2)
      clear e1 e2 e g g2 hB
      go_enter Try.func62, Try.ntmps62
      go_wp2_with fail
      refine (days_any _ _ _ _).mono ?_
      rintro e w1 ⟨rfl, hb1⟩
      rw [HB.out]
      generalize daysI y m d = N at *
      obtain ⟨hc, hf⟩ := bcell hb1
      go_wp2_with fail
      refine (within2_any _ _ _).mono ?_
      rintro e w' ⟨rfl, rfl⟩
      rw [X.out]
      go_wp2_with fail
      refine (within2_any _ _ _).mono ?_
      rintro e w' ⟨rfl, rfl⟩
      rw [X2.out]
      go_wp2
      go_ret2
      exact ⟨rfl, below_thn HB0.out hb1⟩
    · rw [e] at e1
      have e2 : secI y m d h mi s = 0 := by unfold secI; rw [e1]; rfl
      rw [e1, e2]
      have X := Lib.hid (in_yes g.1 g.2)
      have X2 := Lib.hid (in_yes g2.1 g2.2)
      have X3 := Lib.hid (in_no g3)
      clear e1 e2 e g g2 g3 hB
      go_enter Try.func62, Try.ntmps62
      go_wp2_with fail
      refine (days_any _ _ _ _).mono ?_
      rintro e w1 ⟨rfl, hb1⟩
      rw [HB.out]
      generalize daysI y m d = N at *
      obtain ⟨hc, hf⟩ := bcell hb1
      go_wp2_with fail
      refine (within2_any _ _ _).mono ?_
      rintro e w' ⟨rfl, rfl⟩
      rw [X.out]
      go_wp2_with fail
      refine (within2_any _ _ _).mono ?_
      rintro e w' ⟨rfl, rfl⟩
      rw [X2.out]
      go_wp2_with fail
      refine (within2_any _ _ _).mono ?_
      rintro e w' ⟨rfl, rfl⟩
      rw [X3.out]
      go_wp2
      go_ret2
      exact ⟨rfl, below_thn HB0.out hb1⟩
    · rw [e] at e1
      have e2 : secI y m d h mi s = placeI y m d * 86400 + h * 3600 + mi * 60 + s := by unfold secI; rw [if_pos e1]
      rw [e1, e2, ← HP.out]
      have X := Lib.hid (in_yes g.1 g.2)
      have X2 := Lib.hid (in_yes g2.1 g2.2)
      have X3 := Lib.hid (in_yes g3.1 g3.2)
      clear e1 e2 e hB
      go_enter Try.func62, Try.ntmps62
      go_wp2_with fail
      refine (days_any _ _ _ _).mono ?_
      rintro e w1 ⟨rfl, hb1⟩
      rw [HB.out]
      obtain ⟨hc, hf⟩ := bcell hb1
      go_wp2_with fail
      refine (within2_any _ _ _).mono ?_
      rintro e w' ⟨rfl, rfl⟩
      rw [X.out]
      go_wp2_with fail
      refine (within2_any _ _ _).mono ?_
      rintro e w' ⟨rfl, rfl⟩
      rw [X2.out]
      go_wp2_with fail
      refine (within2_any _ _ _).mono ?_
      rintro e w' ⟨rfl, rfl⟩
      rw [X3.out]
      go_wp2
      go_ret2
      exact ⟨rfl, below_thn HB0.out hb1⟩
end Go.Proofs.Ytgamekfickheaaa
