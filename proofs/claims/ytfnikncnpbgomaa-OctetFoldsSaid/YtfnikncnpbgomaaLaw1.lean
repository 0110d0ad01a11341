/- Layer 1: the walks of the three laws. -/
import Derived.Test.YtfnikncnpbgomaaLiv1
import Derived.Deep.QuietTactic
import Derived.BigQuiet
import Derived.OpenShut
namespace Go.Proofs.Ytfnikncnpbgomaa
open Go.RowKit
set_option linter.unusedVariables false
set_option linter.unusedSimpArgs false

theorem extract_le (s : ByteArray) (n : Nat) : (s.extract 0 n).size ≤ n := by
  rw [ba_size, Lib.extract_data]; simp; omega

set_option maxHeartbeats 800000 in
theorem classes_walk (c : Int) (s : ByteArray) (w : World) (wc : (Lit.int .u8 c).wf = true) (ws : s.size ≤ maxLen) :
    Calls Try.prog 3 #[.int .u8 c, .string s] w fun e w' => e = .returned (.bool true) ∧ Below w.heap.size w w' := by
  obtain ⟨hc0, hc1⟩ := bounds_u8 wc
  unfold maxLen at ws
  clear wc
  have hcut : s.size ≤ 3000 ∨ (3000 < s.size ∧ (s.extract 0 3000).size ≤ 3000) := by
    by_cases h : s.size ≤ 3000
    · exact .inl h
    · exact .inr ⟨by omega, extract_le s 3000⟩
  rcases hcut with hn | ⟨hn, ht⟩
  all_goals
    first
      | have HS := Lib.hid ht
      | have HS := Lib.hid hn
    try clear ht
    go_enter Try.func3, Try.ntmps3
    go_wp2_with fail
    refine (oct_tchar_any _ _ hc0 hc1).mono ?_
    rintro e w1 ⟨rfl, hb1⟩
    go_wp2_with fail
    refine (ref_tchar_any _ _ hc0 hc1).mono ?_
    rintro e w' ⟨rfl, rfl⟩
    go_wp2_with fail
    refine (oct_token_any _ _ (by have := HS.out; unfold maxLen; omega)).mono ?_
    rintro e w2 ⟨rfl, hb2⟩
    go_wp2_with fail
    refine (ref_token_any _ _ (by have := HS.out; unfold maxLen; omega)).mono ?_
    rintro e w' ⟨rfl, rfl⟩
    go_wp2_with fail
    refine (oct_value_any _ _ (by have := HS.out; unfold maxLen; omega)).mono ?_
    rintro e w3 ⟨rfl, hb3⟩
    go_wp2_with fail
    refine (ref_value_any _ _ (by have := HS.out; unfold maxLen; omega)).mono ?_
    rintro e w' ⟨rfl, rfl⟩
    go_wp2_with fail
    refine (oct_visible_any _ _ (by have := HS.out; unfold maxLen; omega)).mono ?_
    rintro e w4 ⟨rfl, hb4⟩
    go_wp2_with fail
    refine (ref_visible_any _ _ (by have := HS.out; unfold maxLen; omega)).mono ?_
    rintro e w' ⟨rfl, rfl⟩
    go_wp2_with fail
    refine (lives1_any _).mono ?_
    rintro e w5 ⟨rfl, hb5⟩
    go_wp2_with fail
    go_ret
    exact ⟨rfl, below_thn (below_thn (below_thn (below_thn hb1 hb2) hb3) hb4) hb5⟩

theorem below_drewN (w : World) (n : Nat) : Below w.heap.size w (w.drewN n) := ⟨rfl, rfl, rfl, Nat.le_refl _, fun _ _ => rfl⟩

set_option maxHeartbeats 800000 in
theorem folds_walk (a b : ByteArray) (w : World) (wa : a.size ≤ maxLen) (wb : b.size ≤ maxLen) :
    Calls Try.prog 4 #[.string a, .string b] w fun e w' => e = .returned (.bool true) ∧ Below w.heap.size w w' := by
  unfold maxLen at wa wb
  have hcut : ∀ s : ByteArray, s.size ≤ 3000 ∨ (3000 < s.size ∧ (s.extract 0 3000).size ≤ 3000) := fun s => by
    by_cases h : s.size ≤ 3000
    · exact .inl h
    · exact .inr ⟨by omega, extract_le s 3000⟩
  have ha := hcut a
  have hb := hcut b
  clear hcut
  rcases ha with hn | ⟨hn, ht⟩
  all_goals rcases hb with hm | ⟨hm, hu⟩
  all_goals
    first
      | have HS := Lib.hid ht
      | have HS := Lib.hid hn
    first
      | have HT := Lib.hid hu
      | have HT := Lib.hid hm
    try clear ht
    try clear hu
    go_enter Try.func4, Try.ntmps4
    go_wp2_with fail
    go_quiet (fail)
    go_wp2_with fail
    refine (oct_lower_any _ _ (by have := HS.out; omega)).mono ?_
    rintro e w1 ⟨rfl, hb1⟩
    go_wp2_with fail
    refine (ref_lower_any _ _ (by have := HS.out; omega)).mono ?_
    rintro e w2 ⟨rfl, hb2⟩
    go_wp2_with fail
    refine (oct_fold_any _ _ _ (by have := HS.out; omega) (by have := HT.out; omega)).mono ?_
    rintro e w3 ⟨rfl, hb3⟩
    go_wp2_with fail
    refine (ref_lower_any _ _ (by have := HS.out; omega)).mono ?_
    rintro e w4 ⟨rfl, hb4⟩
    go_wp2_with fail
    refine (ref_lower_any _ _ (by have := HT.out; omega)).mono ?_
    rintro e w5 ⟨rfl, hb5⟩
    rw [foldB]
    go_wp2_with fail
    refine (oct_trim_any _ _ (by have := HS.out; unfold maxLen; omega)).mono ?_
    rintro e w6 ⟨rfl, hb6⟩
    go_wp2_with fail
    refine (ref_trim_any _ _ (by have := HS.out; unfold maxLen; omega)).mono ?_
    rintro e w' ⟨rfl, rfl⟩
    go_wp2_with fail
    refine (lives1_any _).mono ?_
    rintro e w7 ⟨rfl, hb7⟩
    go_wp2_with fail
    go_ret
    exact ⟨rfl, below_thn (below_thn (below_thn (below_thn (below_thn (below_thn (below_thn (below_drewN w _) hb1) hb2) hb3) hb4) hb5) hb6) hb7⟩
end Go.Proofs.Ytfnikncnpbgomaa
