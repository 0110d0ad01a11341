/- Lines of fields (layer 9): the document's Goes, end, Unfold, All. -/
import Derived.Test.YtkfpioadimkogaaDoorFuc
import Derived.Test.YtkfpioadimkogaaDoorHpa
namespace Go.Proofs.YtkfpioadimkogaaDoor
open Go.RowKit
set_option linter.unusedVariables false
set_option linter.unusedSimpArgs false

theorem rgoes_any (s : ByteArray) (w : World) (hs : s.size ≤ 1000000) : Calls Tryd.prog 35 #[.string s] w fun e w' => e = .returned (.bool (goesB s)) ∧ w = w' := by
  by_cases h0 : s.size = 0
  · have hg : goesB s = false := by unfold goesB; rw [decide_eq_false (by omega)]; rfl
    rw [hg]
    have q0 : ¬ (0 : Int) < (s.size : Int) := by omega
    go_enter Tryd.func35, Tryd.ntmps35
    go_wp2_with fail
    go_ret
    exact ⟨rfl, rfl⟩
  · have hg : goesB s = blankN (bt s 0) := by unfold goesB; rw [decide_eq_true (by omega)]; rfl
    rw [hg]
    have hb := bt_at s 0 (by omega)
    have q0 : (0 : Int) < (s.size : Int) := by omega
    by_cases h32 : bt s 0 = 32
    · rw [h32] at hb ⊢
      go_enter Tryd.func35, Tryd.ntmps35
      go_wp2_with fail
      go_ret
      exact ⟨rfl, rfl⟩
    · by_cases h9 : bt s 0 = 9
      · rw [h9] at hb ⊢
        go_enter Tryd.func35, Tryd.ntmps35
        go_wp2_with fail
        go_ret
        exact ⟨rfl, rfl⟩
      · have hn : blankN (bt s 0) = false := by unfold blankN; simp [h32, h9]
        rw [hn]
        generalize bt s 0 = c at *
        have q1 : ((c : Int) == 32) = false := by rw [beq_eq_false_iff_ne]; omega
        have q2 : ((c : Int) == 9) = false := by rw [beq_eq_false_iff_ne]; omega
        go_enter Tryd.func35, Tryd.ntmps35
        go_wp2_with fail
        go_ret
        exact ⟨rfl, rfl⟩
theorem ext0_all (x : ByteArray) : x.extract 0 x.size = x := ba_ext (by rw [ext0_list, List.take_of_length_le (by rw [← ba_size]; exact Nat.le_refl _)])
theorem end_step {x : ByteArray} {m : Nat} (h : x.size = m + 1) (hb : blankN (bt x m) = true) : endB (x.extract 0 m) = endB x := by
  have := endB_yes (s := x) (n := m) (by omega) hb
  rw [← h, ext0_all] at this
  exact this.symm
theorem end_stop {x : ByteArray} {m : Nat} (h : x.size = m + 1) (hb : blankN (bt x m) = false) : endB x = x := by
  have := endB_no (s := x) (n := m) (by omega) hb
  rw [← h, ext0_all] at this
  exact this
theorem end_nil {x : ByteArray} (h : x.size = 0) : endB x = x := by
  have h0 : x = ⟨#[]⟩ := (ByteArray.size_eq_zero_iff.1 h).trans rfl
  subst h0
  exact ba_ext rfl
set_option maxHeartbeats 2000000 in
theorem rend_any (s : ByteArray) (w : World) (hs : s.size ≤ 1000000000) : Calls Tryd.prog 72 #[.string s] w fun e w' => e = .returned (.string (endB s)) ∧ w = w' := by
  go_enter Tryd.func72, Tryd.ntmps72
  go_wp2_with fail
  go_loop [0] (fun v => ∃ x : ByteArray, v = .string x ∧ x.size ≤ s.size ∧ endB x = endB s) (fun v => match v with | .string x => x.size | _ => 0)
  case atStart => exact ⟨s, rfl, Nat.le_refl _, rfl⟩
  case round =>
    obtain ⟨x, rfl, hx, he⟩ := hrel
    have HE := Kp.mk he
    clear he
    rcases Nat.eq_zero_or_pos x.size with h0 | h0
    · have HX := Kp.mk (end_nil h0)
      have q0 : ¬ (0 : Int) < (x.size : Int) := by omega
      go_wp2_with fail
      go_ret
      exact ⟨by rw [← HE.out, HX.out] <;> rfl, rfl⟩
    · obtain ⟨m, hm⟩ : ∃ m, x.size = m + 1 := ⟨x.size - 1, by omega⟩
      have hb := bt_at x m (by omega)
      have q0 : (0 : Int) < (x.size : Int) := by omega
      have q1 : IntKind.i64.wrap ((x.size : Int) - 1) = (m : Int) := by rw [wrap_small _ (by omega) (by omega)]; omega
      have q2 : (0 : Int) ≤ (m : Int) := by omega
      have q3 : (m : Int) < (x.size : Int) := by omega
      have q4 : (m : Int) ≤ (x.size : Int) := by omega
      have HS := Kp.mk (fun h => end_step hm h)
      have HN := Kp.mk (fun h => end_stop hm h)
      have hzz : (x.extract 0 m).size = m := by rw [ByteArray.size_extract]; omega
      by_cases h32 : bt x m = 32
      · have HS2 := Kp.mk (HS.out (by rw [h32]; rfl))
        rw [h32] at hb
        go_wp2_with fail
        go_round
        case rel => exact ⟨x.extract 0 m, rfl, by rw [hzz]; omega, HS2.out.trans HE.out⟩
        case measure => show (x.extract 0 m).size < x.size; rw [hzz]; omega
      · by_cases h9 : bt x m = 9
        · have HS2 := Kp.mk (HS.out (by rw [h9]; rfl))
          rw [h9] at hb
          go_wp2_with fail
          go_round
          case rel => exact ⟨x.extract 0 m, rfl, by rw [hzz]; omega, HS2.out.trans HE.out⟩
          case measure => show (x.extract 0 m).size < x.size; rw [hzz]; omega
        · have HN2 := Kp.mk (HN.out (by unfold blankN; simp [h32, h9]))
          generalize bt x m = c at *
          have r1 : ((c : Int) == 32) = false := by rw [beq_eq_false_iff_ne]; omega
          have r2 : ((c : Int) == 9) = false := by rw [beq_eq_false_iff_ne]; omega
          go_wp2_with fail
          go_ret
          exact ⟨by rw [← HE.out, HN2.out] <;> rfl, rfl⟩
end Go.Proofs.YtkfpioadimkogaaDoor
