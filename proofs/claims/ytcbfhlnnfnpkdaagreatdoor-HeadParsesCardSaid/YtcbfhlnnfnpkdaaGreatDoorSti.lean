/- First lines (layer 15): what parts a text at a blank, counts blanks, takes a beginning off; versions, on both sides. -/
import Derived.Test.YtcbfhlnnfnpkdaaGreatDoorStd
import Derived.Test.YtcbfhlnnfnpkdaaGreatDoorCtd
import Derived.Test.YtcbfhlnnfnpkdaaGreatDoorSta
import Derived.Deep.Light
namespace Go.Proofs.YtcbfhlnnfnpkdaaGreatDoor
open Go.RowKit
set_option linter.unusedVariables false
set_option linter.unusedSimpArgs false

theorem cutS_any (s : ByteArray) (w : World) (hs : s.size ≤ 100000000) :
    Calls Tryz.prog 61 #[.string s, .string ⟨#[32]⟩] w fun e w' => e = .returned (.tuple #[.string (cut1 s), .string (cut2 s), .bool (decide (blk1 s < s.size))]) ∧ ∃ n, w' = w.drewN n := by
  by_cases h : blk1 s < s.size
  · rw [decide_eq_true h]
    exact cutS_yes s (blk1 s) w hs rfl h
  · have h2 : blk1 s = s.size := by have := blk1_le s; omega
    obtain ⟨e1, e2⟩ := cut1_no h2
    rw [decide_eq_false h, e1, e2]
    exact cutS_no s w hs h2
set_option maxRecDepth 100000 in
set_option maxHeartbeats 1000000 in
theorem countS_any (s : ByteArray) (w : World) :
    Calls Tryz.prog 65 #[.string s, .string ⟨#[32]⟩] w fun e w' => e = .returned (.int .i64 (cnt32 s : Nat)) ∧ w' = w := by
  go_enter Tryz.func65, Tryz.ntmps65
  go_wp2
  rw [run_callFunc_extern Tryz.func105 (by kernel_rfl) (by kernel_rfl) (by kernel_rfl) (e := Extern.BytealgCount.count) (by kernel_rfl), Lib.run_countString]
  simp only [Result.andThen]
  rw [Oper.upon_value]
  go_wp2
  go_ret
  exact ⟨rfl, rfl⟩
theorem vdigit_any (n : Nat) (w : World) (h : n ≤ 255) : Calls Tryz.prog 102 #[.int .u8 (n : Int)] w fun e w' => e = .returned (.bool (digC n)) ∧ w' = w := by
  go_enter Tryz.func102, Tryz.ntmps102
  go_wp2
  all_goals go_ret
  all_goals refine ⟨ret_bool ?_, rfl⟩
  all_goals go_light
  all_goals (rw [Bool.eq_iff_iff]; simp [digC] at *; try omega)
theorem rdigit_any (n : Nat) (w : World) (h : n ≤ 255) : Calls Tryz.prog 81 #[.int .u8 (n : Int)] w fun e w' => e = .returned (.bool (digC n)) ∧ w' = w := by
  go_enter Tryz.func81, Tryz.ntmps81
  go_wp2
  all_goals go_ret
  all_goals refine ⟨ret_bool ?_, rfl⟩
  all_goals go_light
  all_goals (rw [Bool.eq_iff_iff]; simp [digC] at *; try omega)
theorem take5 (s : ByteArray) : (s.extract 0 5).toList = s.data.toList.take 5 := by rw [ByteArray.toList_eq, Lib.extract_data]; simp
theorem http_yes {s : ByteArray} (h : s.data.toList.take 5 = httpL) : (s.extract 0 5).toList = [72, 84, 84, 80, 47] ∧ ((s.extract 0 5).toList == [72, 84, 84, 80, 47]) = true := by
  have : (s.extract 0 5).toList = [72, 84, 84, 80, 47] := (take5 s).trans h
  exact ⟨this, by rw [this]; rfl⟩
theorem http_no {s : ByteArray} (h : s.data.toList.take 5 ≠ httpL) : ¬ (s.extract 0 5).toList = [72, 84, 84, 80, 47] ∧ ((s.extract 0 5).toList == [72, 84, 84, 80, 47]) = false := by
  have : (s.extract 0 5).toList ≠ [72, 84, 84, 80, 47] := fun e => h ((take5 s).symm.trans e)
  exact ⟨this, by rw [beq_eq_false_iff_ne]; exact this⟩
def pfxB (s : ByteArray) : Bool := decide (5 ≤ s.size) && (s.data.toList.take 5 == httpL)
set_option maxRecDepth 100000 in
set_option maxHeartbeats 1000000 in
theorem hasHttp_any (s : ByteArray) (w : World) (hs : s.size ≤ 100000000) :
    Calls Tryz.prog 122 #[.string s, .string ⟨#[72, 84, 84, 80, 47]⟩] w fun e w' => e = .returned (.bool (pfxB s)) ∧ w' = w := by
  by_cases h5 : 5 ≤ s.size
  · have q5 : (5 : Int) ≤ (s.size : Int) := by omega
    by_cases hp : s.data.toList.take 5 = httpL
    · obtain ⟨p1, p2⟩ := http_yes hp
      have HR := Kp.mk (show pfxB s = true by unfold pfxB; rw [decide_eq_true h5, hp]; rfl)
      clear hp
      go_enter Tryz.func122, Tryz.ntmps122
      go_wp2_with fail
      go_ret
      exact ⟨by rw [HR.out]; rfl, rfl⟩
    · obtain ⟨p1, p2⟩ := http_no hp
      have HR := Kp.mk (show pfxB s = false by unfold pfxB; rw [decide_eq_true h5, Bool.true_and, beq_eq_false_iff_ne]; exact hp)
      clear hp
      go_enter Tryz.func122, Tryz.ntmps122
      go_wp2_with fail
      go_ret
      exact ⟨by rw [HR.out]; rfl, rfl⟩
  · have q5 : ¬ (5 : Int) ≤ (s.size : Int) := by omega
    have HR := Kp.mk (show pfxB s = false by unfold pfxB; rw [decide_eq_false h5]; rfl)
    go_enter Tryz.func122, Tryz.ntmps122
    go_wp2_with fail
    go_ret
    exact ⟨by rw [HR.out]; rfl, rfl⟩
set_option maxRecDepth 100000 in
set_option maxHeartbeats 1000000 in
theorem cutHttp_no (s : ByteArray) (w : World) (hs : s.size ≤ 100000000) (h : pfxB s = false) :
    Calls Tryz.prog 103 #[.string s, .string ⟨#[72, 84, 84, 80, 47]⟩] w fun e w' => e = .returned (.tuple #[.string s, .bool false]) ∧ w' = w := by
  have H := Kp.mk h
  have inner : ∀ w, Calls Tryz.prog 120 #[.string s, .string ⟨#[72, 84, 84, 80, 47]⟩] w fun e w' => e = .returned (.tuple #[.string s, .bool false]) ∧ w' = w := fun w => by
    go_enter Tryz.func120, Tryz.ntmps120
    go_wp2_with fail
    refine (hasHttp_any s _ hs).mono ?_
    rintro e w1 ⟨rfl, rfl⟩
    rw [H.out]
    go_wp2_with fail
    go_ret2
    exact ⟨rfl, rfl⟩
  have HI := Kp.mk inner
  clear inner h
  go_enter Tryz.func103, Tryz.ntmps103
  go_wp2_with fail
  refine (HI.out _).mono ?_
  rintro e w1 ⟨rfl, rfl⟩
  go_wp2_with fail
  go_ret2
  exact ⟨rfl, rfl⟩
set_option maxRecDepth 100000 in
set_option maxHeartbeats 1000000 in
theorem cutHttp_yes (s : ByteArray) (w : World) (hs : s.size ≤ 100000000) (h : pfxB s = true) :
    Calls Tryz.prog 103 #[.string s, .string ⟨#[72, 84, 84, 80, 47]⟩] w fun e w' => e = .returned (.tuple #[.string (s.extract 5 s.size), .bool true]) ∧ w' = w := by
  have H := Kp.mk h
  have q5 : (5 : Int) ≤ (s.size : Int) := by
    have := H.out
    unfold pfxB at this
    rw [Bool.and_eq_true] at this
    have := of_decide_eq_true this.1
    omega
  have inner : ∀ w, Calls Tryz.prog 120 #[.string s, .string ⟨#[72, 84, 84, 80, 47]⟩] w fun e w' => e = .returned (.tuple #[.string (s.extract 5 s.size), .bool true]) ∧ w' = w := fun w => by
    go_enter Tryz.func120, Tryz.ntmps120
    go_wp2_with fail
    refine (hasHttp_any s _ hs).mono ?_
    rintro e w1 ⟨rfl, rfl⟩
    rw [H.out]
    go_wp2_with fail
    go_ret2
    exact ⟨rfl, rfl⟩
  have HI := Kp.mk inner
  clear inner h
  go_enter Tryz.func103, Tryz.ntmps103
  go_wp2_with fail
  refine (HI.out _).mono ?_
  rintro e w1 ⟨rfl, rfl⟩
  go_wp2_with fail
  go_ret2
  exact ⟨rfl, rfl⟩
end Go.Proofs.YtcbfhlnnfnpkdaaGreatDoor
