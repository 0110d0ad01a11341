/- Heads in one form (layer 50): CanonNames. -/
import Derived.Test.YtnpolkpofaamlaaCah
namespace Go.Proofs.Ytnpolkpofaamlaa
open Go.RowKit
set_option linter.unusedVariables false
set_option linter.unusedSimpArgs false

theorem nm1 (t : ByteArray) (w : World) (h : t.size ≤ 300) : Calls Try.prog 41 #[.string t] w fun e w' => e = .returned (.string (nameB t)) ∧ Below w.heap.size w w' := cname_any t w (by omega)
theorem nm2 (t : ByteArray) (w : World) (h : t.size ≤ 300) : Calls Try.prog 41 #[.string (nameB t)] w fun e w' => e = .returned (.string (nameB t)) ∧ Below w.heap.size w w' := by
  have h := cname_any (nameB t) w (by rw [nameB_size]; omega)
  rw [nameB_nameB] at h
  exact h
theorem nm3 (t : ByteArray) (w : World) (h : t.size ≤ 300) : Calls Try.prog 45 #[.string (nameB t), .string t] w fun e w' => e = .returned (.bool true) ∧ Below w.heap.size w w' := by
  have h := oct_fold_any (nameB t) t w (by rw [nameB_size]; omega) (by omega)
  rw [fold_nameB] at h
  exact h
set_option maxRecDepth 100000 in
set_option maxHeartbeats 800000 in
theorem cnames_walk (s : ByteArray) (w : World) (ws : s.size ≤ maxLen) :
    Calls Try.prog 8 #[.string s] w fun e w' => e = .returned (.bool true) ∧ Below w.heap.size w w' := by
  have ht : (s.extract 0 (min (s.size : Int) 300).toNat).size ≤ 300 := Nat.le_trans (extract_le _ _) (by omega)
  unfold maxLen at ws
  go_enter Try.func8, Try.ntmps8
  go_wp2_with fail
  generalize s.extract 0 (min (s.size : Int) 300).toNat = t at *
  have D1 := Kp.mk (fun w => nm1 t w ht)
  have D2 := Kp.mk (fun w => rname_any t w (Nat.le_trans ht (by omega)))
  have D3 := Kp.mk (fun w => csingle_any t w (Nat.le_trans ht (by omega)))
  have D4 := Kp.mk (fun w => rsingle_any t w (Nat.le_trans ht (by omega)))
  have D5 := Kp.mk (fun w => nm2 t w ht)
  have D6 := Kp.mk (fun w => nm3 t w ht)
  generalize nameB t = nb at *
  generalize sgB t = sb at *
  refine (D1.out _).mono ?_
  rintro e w1 ⟨rfl, hb1⟩
  go_wp2_with fail
  refine (D2.out _).mono ?_
  rintro e w2 ⟨rfl, hb2⟩
  go_wp2_with fail
  refine (D3.out _).mono ?_
  rintro e w3 ⟨rfl, hb3⟩
  go_wp2_with fail
  refine (D4.out _).mono ?_
  rintro e w4 ⟨rfl, hb4⟩
  go_wp2_with fail
  refine (D5.out _).mono ?_
  rintro e w5 ⟨rfl, hb5⟩
  go_wp2_with fail
  refine (D6.out _).mono ?_
  rintro e w6 ⟨rfl, hb6⟩
  go_wp2_with fail
  refine (lives50_any _).mono ?_
  rintro e w7 ⟨rfl, hb7⟩
  go_wp2_with fail
  go_ret
  exact ⟨rfl, below_thn (below_thn (below_thn (below_thn (below_thn (below_thn hb1 hb2) hb3) hb4) hb5) hb6) hb7⟩
theorem cnames_arg (v0 : Value) (w : World) (h0 : Arg Try.prog w 9 v0) :
    Calls Try.prog 8 #[v0] w fun e w' => e = .returned (.bool true) ∧ Below w.heap.size w w' := by
  obtain ⟨s, rfl, hs⟩ := h0.str Try.underlying9
  exact cnames_walk s w hs
end Go.Proofs.Ytnpolkpofaamlaa
